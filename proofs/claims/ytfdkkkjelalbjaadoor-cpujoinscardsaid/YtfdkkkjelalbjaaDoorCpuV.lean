/- A code that is cut to its first bytes; a run and another one behind it. -/
import Derived.Test.YtfdkkkjelalbjaaDoorCpuI
namespace Go.Proofs.YtfdkkkjelalbjaaDoor
open Go.RowKit
set_option linter.unusedVariables false
set_option maxRecDepth 100000

theorem Bts.cut {w : World} {a : Option Addr} {n cap : Nat} {bs : List UInt8} (h : Bts w (.slice a n cap) bs) (m : Nat) (hm : m ≤ bs.length) : Bts w (.slice a m cap) (bs.take m) := by
  obtain ⟨a', cap', hv, hc, hx, hcell⟩ := h
  injection hv with e1 e2 e3
  subst e1 e3
  have hl : (bs.take m).length = m := by simp; omega
  refine ⟨a, cap, by rw [hl], by rw [hl]; omega, hx, fun j x hj => ?_⟩
  rw [List.getElem?_take] at hj
  split at hj
  · exact hcell j x hj
  · cases hj
theorem short_any (v : Value) (bs : List UInt8) (w : World) (hb : Bts w v bs) :
    Calls Tryd.prog 6 #[v] w fun e w' => (∃ v', e = .returned v' ∧ ∀ W, Bts W v bs → Bts W v' (bs.take 400)) ∧ w' = w := by
  obtain ⟨a, cap, rfl, hc, hm, hcell⟩ := id hb
  by_cases h : (400 : Int) < (bs.length : Int)
  · have h1 : (400 : Int) ≤ (cap : Int) := by omega
    go_enter Tryd.func6, Tryd.ntmps6
    go_wp2
    go_ret
    exact ⟨⟨_, rfl, fun W hB => hB.cut 400 (by omega)⟩, rfl⟩
  · go_enter Tryd.func6, Tryd.ntmps6
    go_wp2
    go_ret
    refine ⟨⟨_, rfl, fun W hB => ?_⟩, rfl⟩
    rw [List.take_of_length_le (by omega)]
    exact hB
/-- So many, and then so many, are both together, unless something was asked for. -/
theorem run_join (bs : List UInt8) (m : Nat) : ∀ (n : Nat) (pc : Int) (r : Nat → Int) (c : Int),
    ((runF bs n pc r c).2.1.1 = 0 → (runF bs n pc r c).2.1 = (0, 0, 0, 0, 0) ∧ (runF bs n pc r c).2.2 = c + n ∧ runF bs (n + m) pc r c = runF bs m (runF bs n pc r c).1.1 (runF bs n pc r c).1.2 (c + n))
      ∧ ((runF bs n pc r c).2.1.1 ≠ 0 → runF bs (n + m) pc r c = runF bs n pc r c)
  | 0, pc, r, c => by
    refine ⟨fun _ => ⟨rfl, by show c = c + ((0 : Nat) : Int); omega, ?_⟩, fun h => absurd rfl h⟩
    rw [Nat.zero_add, show c + ((0 : Nat) : Int) = c by omega]
    rfl
  | n + 1, pc, r, c => by
    rw [show n + 1 + m = (n + m) + 1 by omega]
    cases hN : nextP bs pc with
    | error e =>
      have e1 : ∀ k, runF bs (k + 1) pc r c = ((pc, r), (7, 0, 0, 0, e), c) := fun k => by rw [runF, hN]
      rw [e1, e1]
      exact ⟨fun h => absurd h (show ¬ (7 : Int) = 0 by decide), fun _ => rfl⟩
    | ok i =>
      by_cases h0 : (execP pc r i.1 i.2.1 i.2.2.1 i.2.2.2).2.1 = 0
      · have e1 : ∀ k, runF bs (k + 1) pc r c = runF bs k (execP pc r i.1 i.2.1 i.2.2.1 i.2.2.2).1.1 (execP pc r i.1 i.2.1 i.2.2.1 i.2.2.2).1.2 (c + 1) := fun k => by rw [runF, hN]; simp only [h0, reduceIte]
        rw [e1, e1]
        have ih := run_join bs m n (execP pc r i.1 i.2.1 i.2.2.1 i.2.2.2).1.1 (execP pc r i.1 i.2.1 i.2.2.1 i.2.2.2).1.2 (c + 1)
        have ec : c + 1 + (n : Int) = c + ((n + 1 : Nat) : Int) := by omega
        rw [ec] at ih
        exact ih
      · have e1 : ∀ k, runF bs (k + 1) pc r c = ((execP pc r i.1 i.2.1 i.2.2.1 i.2.2.2).1, (execP pc r i.1 i.2.1 i.2.2.1 i.2.2.2).2, if (execP pc r i.1 i.2.1 i.2.2.1 i.2.2.2).2.1 = 7 then c else c + 1) := fun k => by rw [runF, hN]; simp only [h0, reduceIte]
        rw [e1, e1]
        exact ⟨fun h => absurd h h0, fun _ => rfl⟩
/-- How many were done ahead is told besides. -/
theorem run_shift (bs : List UInt8) (d : Int) : ∀ (n : Nat) (pc : Int) (r : Nat → Int) (c : Int), runF bs n pc r (c + d) = ((runF bs n pc r c).1, (runF bs n pc r c).2.1, (runF bs n pc r c).2.2 + d)
  | 0, pc, r, c => rfl
  | n + 1, pc, r, c => by
    cases hN : nextP bs pc with
    | error e =>
      have e1 : ∀ c, runF bs (n + 1) pc r c = ((pc, r), (7, 0, 0, 0, e), c) := fun c => by rw [runF, hN]
      rw [e1, e1]
    | ok i =>
      by_cases h0 : (execP pc r i.1 i.2.1 i.2.2.1 i.2.2.2).2.1 = 0
      · have e1 : ∀ c, runF bs (n + 1) pc r c = runF bs n (execP pc r i.1 i.2.1 i.2.2.1 i.2.2.2).1.1 (execP pc r i.1 i.2.1 i.2.2.1 i.2.2.2).1.2 (c + 1) := fun c => by rw [runF, hN]; simp only [h0, reduceIte]
        rw [e1, e1, show c + d + 1 = c + 1 + d by omega]
        exact run_shift bs d n _ _ _
      · have e1 : ∀ c, runF bs (n + 1) pc r c = ((execP pc r i.1 i.2.1 i.2.2.1 i.2.2.2).1, (execP pc r i.1 i.2.1 i.2.2.1 i.2.2.2).2, if (execP pc r i.1 i.2.1 i.2.2.1 i.2.2.2).2.1 = 7 then c else c + 1) := fun c => by rw [runF, hN]; simp only [h0, reduceIte]
        rw [e1, e1]
        by_cases h7 : (execP pc r i.1 i.2.1 i.2.2.1 i.2.2.2).2.1 = 7
        · rw [if_pos h7, if_pos h7]
        · rw [if_neg h7, if_neg h7, show c + d + 1 = c + 1 + d by omega]
end Go.Proofs.YtfdkkkjelalbjaaDoor
