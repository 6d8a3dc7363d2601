/- Wait as plain data; the document's Wait. -/
import Derived.Test.YtnbmancadaeejaaPrS
namespace Go.Proofs.Ytnbmancadaeejaa
open Go.RowKit Go.Maps
set_option linter.unusedVariables false
set_option maxRecDepth 100000
/-- The first that ended, with its status. -/
def fstZ (s : Pt) : List (Fin 6) → Option (Fin 6 × Int)
  | [] => none
  | x :: l => match s x with
    | .zom _ n => some (x, n)
    | _ => fstZ s l
/-- Nobody of them ended. -/
def noZ (s : Pt) (l : List (Fin 6)) : Prop := ∀ x ∈ l, zomb (s x) = false
theorem fstZ_no (s : Pt) : ∀ (l r : List (Fin 6)), noZ s l → fstZ s (l ++ r) = fstZ s r
  | [], r, h => rfl
  | x :: l, r, h => by
    have hx := h x (List.mem_cons_self)
    have ih := fstZ_no s l r (fun y hy => h y (List.mem_cons_of_mem _ hy))
    show (match s x with
      | .zom _ n => some (x, n)
      | _ => fstZ s (l ++ r)) = _
    cases e : s x with
    | no => exact ih
    | run p => exact ih
    | zom p n => rw [e] at hx; cases hx
theorem noZ_snoc {s : Pt} {l : List (Fin 6)} {x : Fin 6} (h : noZ s l) (hx : zomb (s x) = false) : noZ s (l ++ [x]) := fun y hy => by
  rcases List.mem_append.1 hy with hy | hy
  · exact h y hy
  · rw [List.mem_singleton] at hy
    rw [hy]; exact hx
def wtX (s : Pt) (p : Fin 6) : Int × Int × Int × Pt := match fstZ s (chs s p) with
  | some (x, n) => ((x.1 : Int), n, 0, upd s x .no)
  | none => (0, 0, if chs s p = [] then 3 else 12, s)
theorem wtX_no (s : Pt) (p : Fin 6) (h : noZ s (chs s p)) : wtX s p = (0, 0, if chs s p = [] then 3 else 12, s) := by
  unfold wtX
  have := fstZ_no s (chs s p) [] h
  rw [List.append_nil] at this
  rw [this]
  rfl
theorem wtX_yes (s : Pt) (p x q : Fin 6) (n : Int) (pre : List (Fin 6)) (h : noZ s pre) (hx : s x = .zom q n) (hp : pre ++ [x] <+: chs s p) : wtX s p = ((x.1 : Int), n, 0, upd s x .no) := by
  unfold wtX
  obtain ⟨r, hr⟩ := hp
  rw [← hr, List.append_assoc, fstZ_no s pre _ h]
  have : fstZ s ([x] ++ r) = some (x, n) := by
    show (match s x with
      | .zom _ n => some (x, n)
      | _ => fstZ s r) = _
    rw [hx]
  rw [this]
theorem zomb_of (x : Pr) (h : zomb x = true) : ∃ q n, x = .zom q n := by cases x <;> simp_all [zomb]
theorem stI_2 (x : Pr) : stI x = 2 ↔ zomb x = true := by cases x <;> simp [stI, zomb]
/-- A slice of numbers that can be read. -/
def Ints (w : World) (v : Value) (L : List Nat) : Prop := ∃ a cap, v = .slice a L.length cap ∧ ∀ (j n : Nat), L[j]? = some n → ∃ g off, a = some ⟨g, off, none⟩ ∧ w.cell? ⟨g, off + j, none⟩ = some (.int .i64 n)
theorem Ints.of_own {B : Nat} {w : World} {v : Value} {L : List (Fin 6)} (h : w.ownsRow B 3 1 v L.length (L.map slI)) : Ints w v (L.map (·.1)) ∧ ∀ g, v.ownBlock = some g → B ≤ g := by
  rcases h.2 with ⟨rfl, h0⟩ | ⟨g, cap, cur, rfl, hge, hb, hk, hm, _, htk⟩
  · obtain rfl : L = [] := List.eq_nil_of_length_eq_zero h0
    exact ⟨⟨none, 0, rfl, fun j i h => by cases h⟩, fun g e => by cases e⟩
  · refine ⟨⟨_, cap, by rw [List.length_map], fun j n hn => ⟨g, 0, rfl, ?_⟩⟩, fun g' e => by cases e; exact hge⟩
    rw [List.getElem?_map] at hn
    obtain ⟨x, hx, rfl⟩ := Option.map_eq_some_iff.1 hn
    have hj : j < L.length := (List.getElem?_eq_some_iff.1 hx).1
    have : (L.map slI)[j]? = some (slI x) := by rw [List.getElem?_map, hx]; rfl
    rw [← htk, List.getElem?_take, if_pos (by omega)] at this
    simp only [Nat.zero_add, World.cell?, hb]
    simpa [slI] using this
theorem Ints.stay {w w' : World} {v : Value} {L : List Nat} {X : Nat → Prop} (h : Ints w v L) (k : Apart X w w') (hx : ∀ g, v.ownBlock = some g → ¬ X g) : Ints w' v L := by
  obtain ⟨a, cap, rfl, hcell⟩ := h
  refine ⟨a, cap, rfl, fun j m hj => ?_⟩
  obtain ⟨g, off, rfl, c0⟩ := hcell j m hj
  have hg : g < w.heap.size := World.block_lt_of_cell? w _ c0
  refine ⟨g, off, rfl, ?_⟩
  rw [World.cell?_of_block (w := w) (k.block g hg (hx g rfl))]
  exact c0
theorem Ints.below {w w' : World} {v : Value} {L : List Nat} (h : Ints w v L) (k : Below w.heap.size w w') : Ints w' v L := h.stay (X := fun _ => False) (Apart.of_below k) (fun _ _ => id)
end Go.Proofs.Ytnbmancadaeejaa
