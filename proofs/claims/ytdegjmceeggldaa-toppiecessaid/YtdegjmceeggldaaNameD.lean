/- Labels in a row; the name of labels; how many two rows share. -/
import Derived.Test.YtdegjmceeggldaaNameC
import Derived.Test.YtdegjmceeggldaaBuild
namespace Go.Proofs.Ytdegjmceeggldaa
open Go.RowKit Go.Shelf
set_option linter.unusedVariables false

/-- A slice of texts that can be read. -/
def Row (w : World) (v : Value) (ls : List (List UInt8)) : Prop := ∃ a cap, v = .slice a ls.length cap ∧ ls.length ≤ cap ∧ ∀ j x, ls[j]? = some x → ∃ g off, a = some ⟨g, off, none⟩ ∧ w.cell? ⟨g, off + j, none⟩ = some (strV x)
theorem Row.below {w w' : World} {v : Value} {ls : List (List UInt8)} {B : Nat} (h : Row w v ls) (hB : Below B w w') (hs : w.heap.size ≤ B) : Row w' v ls := by
  obtain ⟨a, cap, hv, hc, h⟩ := h
  refine ⟨a, cap, hv, hc, fun j x hx => ?_⟩
  obtain ⟨g, off, ha, hcl⟩ := h j x hx
  have hg : g < w.heap.size := World.block_lt_of_cell? _ _ hcl
  exact ⟨g, off, ha, (hB.cell (p := ⟨g, off + j, none⟩) (show g < B by omega)).trans hcl⟩
theorem Row.nil (w : World) : Row w (.slice none 0 0) [] := ⟨none, 0, rfl, Nat.le_refl _, fun j x h => by cases h⟩
theorem Row.of_own {w : World} {base : Nat} {v : Value} {n : Nat} {ls : List (List UInt8)} (h : w.ownsRow base 9 1 v n (ls.map strV)) : Row w v ls := by
  have hn : n = ls.length := by have := h.1; simpa using this.symm
  subst hn
  rcases h.2 with ⟨rfl, h0⟩ | ⟨g, cap, cur, rfl, _, hb, hk, _, _, htk⟩
  · obtain rfl : ls = [] := List.eq_nil_of_length_eq_zero h0
    exact Row.nil w
  · refine ⟨_, cap, rfl, hk, fun j x hx => ⟨g, 0, rfl, ?_⟩⟩
    have h1 : (List.take (ls.length * 1) cur.toList)[j]? = some (strV x) := by rw [htk, List.getElem?_map, hx]; rfl
    have hj : j < ls.length := (List.getElem?_eq_some_iff.1 hx).1
    rw [List.getElem?_take, if_pos (by omega)] at h1
    simp only [Nat.zero_add, World.cell?, hb]
    simpa using h1
theorem Row.take {w : World} {a : Option Addr} {n cap : Nat} {ls : List (List UInt8)} (h : Row w (.slice a n cap) ls) (k : Nat) (hk : k ≤ n) : Row w (.slice a k cap) (ls.take k) := by
  obtain ⟨a', cap', hv, hc, h⟩ := h
  cases hv
  refine ⟨a, cap, by rw [List.length_take, Nat.min_eq_left hk], by rw [List.length_take]; omega, fun j x hx => ?_⟩
  rw [List.getElem?_take] at hx
  split at hx
  · exact h j x hx
  · cases hx

def joinL (ls : List (List UInt8)) : List UInt8 := (ls.map fun x => 47 :: x).flatten
/-- The name of labels, and the error. -/
def joinO (ls : List (List UInt8)) : List UInt8 × Int :=
  if 6 < ls.length then ([], 4) else if ls = [] then ([47], 0) else if ls.all (fun x => labB ⟨x.toArray⟩) then (joinL ls, 0) else ([], 3)
def textV (o : List UInt8 × Int) : Value := .tuple #[.string ⟨o.1.toArray⟩, .int .i64 o.2]
theorem joinL_len (ls : List (List UInt8)) (m : Nat) (h : ∀ x ∈ ls, x.length ≤ m) : (joinL ls).length ≤ ls.length * (m + 1) := by
  induction ls with
  | nil => simp [joinL]
  | cons x t ih =>
    have h1 := h x (by simp)
    have h2 := ih (fun y hy => h y (by simp [hy]))
    simp only [joinL, List.map_cons, List.flatten_cons, List.length_append, List.length_cons] at *
    rw [Nat.add_mul]
    omega
theorem joinL_snoc (ls : List (List UInt8)) (x : List UInt8) : joinL (ls ++ [x]) = joinL ls ++ [47] ++ x := by
  simp [joinL]
