/- The name of any labels; how many labels two rows share. -/
import Derived.Test.YtedknoadcdnioaaNameD
import Derived.Deep.QuietTactic
import Derived.BigQuiet
namespace Go.Proofs.Ytedknoadcdnioaa
open Go.RowKit Go.Shelf
set_option linter.unusedVariables false

theorem Below.drewN {B : Nat} {a w : World} (h : Below B a w) (n : Nat) : Below B a (w.drewN n) := ⟨h.os, h.tape, h.output, h.size, h.block⟩
def alikeN : List (List UInt8) → List (List UInt8) → Nat
  | a :: xs, b :: ys => if a = b then alikeN xs ys + 1 else 0
  | _, _ => 0
theorem alikeN_le (xs ys : List (List UInt8)) : alikeN xs ys ≤ xs.length ∧ alikeN xs ys ≤ ys.length := by
  induction xs generalizing ys with
  | nil => simp [alikeN]
  | cons a t ih =>
    cases ys with
    | nil => simp [alikeN]
    | cons b u =>
      have := ih u
      unfold alikeN
      split <;> simp <;> omega
set_option maxHeartbeats 4000000 in
set_option maxRecDepth 100000 in
theorem alike_any (u v : Value) (xs ys : List (List UInt8)) (w : World) (ha : Row w u xs) (hb : Row w v ys) (la : xs.length ≤ 1000) (lb : ys.length ≤ 1000) :
    Calls Try.prog 31 #[u, v] w fun e w' => e = .returned (.int .i64 (alikeN xs ys)) ∧ Below w.heap.size w w' := by
  obtain ⟨N, hN⟩ : ∃ N, alikeN xs ys = N := ⟨_, rfl⟩
  rw [hN]
  have HN : Hid (alikeN xs ys = N) := hN
  clear hN
  obtain ⟨a, ca, rfl, hca, hcA⟩ := ha
  obtain ⟨b, cb, rfl, hcb, hcB⟩ := hb
  have HA : Hid (∀ j x, xs[j]? = some x → ∃ g off, a = some ⟨g, off, none⟩ ∧ w.cell? ⟨g, off + j, none⟩ = some (strV x)) := hcA
  have HB : Hid (∀ j x, ys[j]? = some x → ∃ g off, b = some ⟨g, off, none⟩ ∧ w.cell? ⟨g, off + j, none⟩ = some (strV x)) := hcB
  clear hcA hcB
  go_enter Try.func31, Try.ntmps31
  go_wp2
  go_loopw [5] (fun i W => ∃ k : Nat, k ≤ xs.length ∧ k ≤ ys.length ∧ i = .int .i64 k ∧ alikeN (xs.drop k) (ys.drop k) + k = N ∧ Below w.heap.size w W) (fun i _ => 1001 - (intOf i).toNat)
  case atStart => exact ⟨0, by omega, by omega, rfl, HN.out, Below.refl _ _⟩
  case round =>
    obtain ⟨k, hk, hk2, rfl, hal, hB⟩ := hrel
    by_cases h1 : k < xs.length
    · have h1' : (k : Int) < (xs.length : Int) := by omega
      by_cases h2 : k < ys.length
      · have h2' : (k : Int) < (ys.length : Int) := by omega
        obtain ⟨g, off, rfl, hcell⟩ := HA.out k _ (List.getElem?_eq_getElem h1)
        obtain ⟨g2, off2, rfl, hcell2⟩ := HB.out k _ (List.getElem?_eq_getElem h2)
        have hg : g < w.heap.size := World.block_lt_of_cell? _ _ hcell
        have hg2 : g2 < w.heap.size := World.block_lt_of_cell? _ _ hcell2
        have hc1 : wr.cell? ⟨g, off + k, none⟩ = some (.string ⟨(xs[k]'h1).toArray⟩) := (hB.cell (p := ⟨g, off + k, none⟩) hg).trans hcell
        have hc2 : wr.cell? ⟨g2, off2 + k, none⟩ = some (.string ⟨(ys[k]'h2).toArray⟩) := (hB.cell (p := ⟨g2, off2 + k, none⟩) hg2).trans hcell2
        rw [List.drop_eq_getElem_cons h1, List.drop_eq_getElem_cons h2] at hal
        clear hcell hcell2 HN
        generalize xs[k]'h1 = x at *
        generalize ys[k]'h2 = y at *
        simp only [alikeN] at hal
        by_cases hxy : x = y
        · have hsb : (x == y) = true := beq_iff_eq.2 hxy
          rw [if_pos hxy] at hal
          have HL : Hid (alikeN (xs.drop (k + 1)) (ys.drop (k + 1)) + 1 + k = N) := hal
          clear hal hxy
          go_wp2
          go_quiet (fail)
          go_wp2
          go_roundw
          case rel => exact ⟨k + 1, by omega, by omega, by go_num, by have := HL.out; omega, Below.drewN hB _⟩
          case measure => simp [intOf]; omega
        · have hsb : (x == y) = false := beq_eq_false_iff_ne.2 hxy
          rw [if_neg hxy] at hal
          obtain rfl : k = N := by omega
          clear hal hxy
          go_wp2
          go_quiet (fail)
          go_wp2
          go_ret
          exact ⟨rfl, Below.drewN hB _⟩
      · have h2' : decide ((k : Int) < (ys.length : Int)) = false := decide_eq_false (by omega)
        have hN2 : k = N := by
          rw [← hal, show ys.drop k = [] from List.drop_eq_nil_of_le (by omega)]
          cases xs.drop k <;> simp [alikeN]
        subst hN2
        clear hal HN
        go_wp2
        go_quiet (fail)
        go_wp2
        go_ret
        exact ⟨rfl, Below.drewN hB _⟩
    · have h1' : decide ((k : Int) < (xs.length : Int)) = false := decide_eq_false (by omega)
      have hN2 : k = N := by
        rw [← hal, show xs.drop k = [] from List.drop_eq_nil_of_le (by omega)]
        simp [alikeN]
      subst hN2
      clear hal HN
      go_wp2
      go_quiet (fail)
      go_wp2
      go_ret
      exact ⟨rfl, Below.drewN hB _⟩
end Go.Proofs.Ytedknoadcdnioaa
