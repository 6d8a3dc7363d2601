/- The program's pool: Events. -/
import Derived.Test.YtedknoadcdnioaaPlI
namespace Go.Proofs.Ytedknoadcdnioaa
open Go.RowKit Go.Maps
set_option linter.unusedVariables false
set_option maxRecDepth 100000
theorem evCs_len (L : List Ev) : (evCs L).length = L.length * 3 := by
  induction L with
  | nil => rfl
  | cons x L ih =>
    show (evC x ++ evCs L).length = _
    rw [List.length_append, ih, List.length_cons]
    show 3 + _ = _
    omega
theorem evCs_one (L : List Ev) : ∀ y ∈ evCs L, y.oneCell' = true := by
  intro y hy
  obtain ⟨x, _, hx⟩ := List.mem_flatMap.1 hy
  simp only [evC, List.mem_cons, List.not_mem_nil, or_false] at hx
  rcases hx with rfl | rfl | rfl <;> rfl
/-- What became of frames, as a row that is read. -/
def EvR (w : World) (v : Value) (L : List Ev) : Prop := (v = .slice none 0 0 ∧ L = []) ∨ ∃ g cap, v = .slice (some ⟨g, 0, none⟩) L.length cap ∧ g < w.heap.size ∧ L.length ≤ cap ∧ ∀ j u, (evCs L)[j]? = some u → w.cell? ⟨g, j, none⟩ = some u
theorem EvR.of_own {B : Nat} {w : World} {v : Value} {L : List Ev} (h : w.ownsRow B 78 3 v L.length (evCs L)) : EvR w v L := by
  rcases h.2 with ⟨h1, h2⟩ | ⟨g, cap, cur, rfl, _, hb, hk, hm, _, htk⟩
  · exact .inl ⟨h1, List.eq_nil_of_length_eq_zero h2⟩
  · refine .inr ⟨g, cap, rfl, (Array.getElem?_eq_some_iff.1 hb).1, hk, fun j u hu => ?_⟩
    have hj : j < (evCs L).length := (List.getElem?_eq_some_iff.1 hu).1
    rw [evCs_len] at hj
    rw [← htk, List.getElem?_take, if_pos (by omega)] at hu
    rw [Lib.cell_of_heap hb]
    simpa using hu
theorem EvR.low {w w' : World} {v : Value} {L : List Ev} (h : EvR w v L) (k : Below w.heap.size w w') : EvR w' v L := by
  rcases h with h | ⟨g, cap, h1, h2, h3, h4⟩
  · exact .inl h
  · exact .inr ⟨g, cap, h1, Nat.lt_of_lt_of_le h2 k.size, h3, fun j u hu => (k.cell (p := ⟨g, j, none⟩) h2).trans (h4 j u hu)⟩
end Go.Proofs.Ytedknoadcdnioaa
