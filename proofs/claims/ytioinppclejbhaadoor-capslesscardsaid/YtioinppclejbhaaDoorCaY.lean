/- Rows of numbers; when they are the same. -/
import Derived.Test.YtioinppclejbhaaDoorCaX
namespace Go.Proofs.YtioinppclejbhaaDoor
open Go.RowKit Go.Maps
set_option linter.unusedVariables false
set_option maxRecDepth 100000
def natV (n : Nat) : Value := .int .i64 n
def Ints (w : World) (v : Value) (L : List Nat) : Prop := ∃ a cap, v = .slice a L.length cap ∧ ∀ (j n : Nat), L[j]? = some n → ∃ g off, a = some ⟨g, off, none⟩ ∧ w.cell? ⟨g, off + j, none⟩ = some (.int .i64 n)
theorem Ints.of_own {B : Nat} {w : World} {v : Value} {L : List Nat} (h : w.ownsRow B 3 1 v L.length (L.map natV)) : Ints w v L ∧ ∀ g, v.ownBlock = some g → B ≤ g := by
  rcases h.2 with ⟨rfl, h0⟩ | ⟨g, cap, cur, rfl, hge, hb, hk, hm, _, htk⟩
  · obtain rfl : L = [] := List.eq_nil_of_length_eq_zero h0
    exact ⟨⟨none, 0, rfl, fun j i h => by cases h⟩, fun g e => by cases e⟩
  · refine ⟨⟨_, cap, rfl, fun j n hn => ⟨g, 0, rfl, ?_⟩⟩, fun g' e => by cases e; exact hge⟩
    have hj : j < L.length := (List.getElem?_eq_some_iff.1 hn).1
    have : (L.map natV)[j]? = some (natV n) := by rw [List.getElem?_map, hn]; rfl
    rw [← htk, List.getElem?_take, if_pos (by omega)] at this
    simp only [Nat.zero_add, World.cell?, hb]
    simpa [natV] using this
theorem Ints.stay {w w' : World} {v : Value} {L : List Nat} {X : Nat → Prop} (h : Ints w v L) (k : Apart X w w') (hx : ∀ g, v.ownBlock = some g → ¬ X g) : Ints w' v L := by
  obtain ⟨a, cap, rfl, hcell⟩ := h
  refine ⟨a, cap, rfl, fun j m hj => ?_⟩
  obtain ⟨g, off, rfl, c0⟩ := hcell j m hj
  have hg : g < w.heap.size := World.block_lt_of_cell? w _ c0
  refine ⟨g, off, rfl, ?_⟩
  rw [World.cell?_of_block (w := w) (k.block g hg (hx g rfl))]
  exact c0
theorem Ints.below {w w' : World} {v : Value} {L : List Nat} (h : Ints w v L) (k : Below w.heap.size w w') : Ints w' v L := h.stay (X := fun _ => False) (Apart.of_below k) (fun _ _ => id)
set_option maxHeartbeats 1000000 in
theorem sameints_any (v u : Value) (L : List Nat) (w : World) (hv : Ints w v L) (hu : Ints w u L) (hL : L.length ≤ 1000) :
    Calls Tryd.prog 32 #[v, u] w fun e w' => e = .returned (.bool true) ∧ Below w.heap.size w w' := by
  obtain ⟨ad, cap, rfl, hcell⟩ := hv
  obtain ⟨ad2, cap2, rfl, hcell2⟩ := hu
  have HC : Hid (∀ (j n : Nat), L[j]? = some n → ∃ g off, ad = some ⟨g, off, none⟩ ∧ w.cell? ⟨g, off + j, none⟩ = some (.int .i64 n)) := hcell
  have HC2 : Hid (∀ (j n : Nat), L[j]? = some n → ∃ g off, ad2 = some ⟨g, off, none⟩ ∧ w.cell? ⟨g, off + j, none⟩ = some (.int .i64 n)) := hcell2
  clear hcell hcell2
  have hne : ((L.length : Int) != (L.length : Int)) = false := by simp
  go_enter Tryd.func32, Tryd.ntmps32
  go_wp2
  go_loopw [5] (fun s5 wr => ∃ kk nq : Nat, kk ≤ L.length ∧ s5 = .int .i64 kk ∧ wr = w.drewN nq) (fun s5 _ => L.length - (intOf s5).toNat)
  case atStart => exact ⟨0, 0, Nat.zero_le _, rfl, rfl⟩
  case round =>
    obtain ⟨kk, nq, hkk, rfl, rfl⟩ := hrel
    by_cases hlt : kk < L.length
    · have hltz : (kk : Int) < (L.length : Int) := by omega
      obtain ⟨g, off, rfl, c0⟩ := HC.out kk L[kk] (List.getElem?_eq_getElem hlt)
      obtain ⟨g', off', rfl, d0⟩ := HC2.out kk L[kk] (List.getElem?_eq_getElem hlt)
      generalize ((L[kk] : Nat) : Int) = y at *
      have hyy : (y != y) = false := by simp
      go_wp2_with fail
      go_quiet (fail)
      go_wp2
      go_roundw
      case rel => exact ⟨kk + 1, _, by omega, by go_num, rfl⟩
      case measure => simp [intOf]; omega
    · have hltz : ¬ (kk : Int) < (L.length : Int) := by omega
      go_wp2
      go_ret
      exact ⟨rfl, ⟨rfl, rfl, rfl, Nat.le_refl _, fun _ _ => rfl⟩⟩
theorem slots_ints {B : Nat} {w : World} {v : Value} {L : List (Fin 12)} (h : w.ownsRow B 3 1 v L.length (L.map slI)) : Ints w v (L.map (·.1)) ∧ ∀ g, v.ownBlock = some g → B ≤ g := by
  refine Ints.of_own ?_
  rw [List.length_map, List.map_map]
  exact h
end Go.Proofs.YtioinppclejbhaaDoor
