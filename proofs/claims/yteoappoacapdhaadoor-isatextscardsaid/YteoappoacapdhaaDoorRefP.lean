/- A word as text, as the document's own function reads it. -/
import Derived.Test.YteoappoacapdhaaDoorHexD
namespace Go.Proofs.YteoappoacapdhaaDoor
open Go.RowKit
set_option linter.unusedVariables false

def rdig (b : UInt8) : Int := (hexN b).getD 16
theorem hex_at (b : UInt8) (k : Nat) (h : k < hexT.size) : (((hexT[k]'h).toNat : Int) == (b.toNat : Int)) = (hexN b == some (k : Int)) := by
  have key : ∀ n : Nat, n < 256 → ∀ k : Nat, k < 16 → ((((hexT.data.getD k 0).toNat : Int)) == (((UInt8.ofNat n).toNat : Nat) : Int)) = (hexN (UInt8.ofNat n) == some (k : Int)) := by decide +kernel
  have := key b.toNat b.toNat_lt k h
  rw [UInt8.ofNat_toNat] at this
  simp only [Array.getD] at this
  rw [dif_pos (show k < hexT.data.size from h)] at this
  exact this

set_option maxHeartbeats 400000 in
theorem rdigit_any (b : UInt8) (w : World) :
    Calls Tryd.prog 52 #[.int .u8 (b.toNat : Int)] w fun e w' => e = .returned (.int .i64 (rdig b)) ∧ w' = w := by
  go_enter Tryd.func52, Tryd.ntmps52
  go_wp2
  go_loop [3] (fun i => ∃ k : Nat, k ≤ 16 ∧ i = .int .i64 k ∧ ∀ j : Nat, j < k → hexN b ≠ some (j : Int)) (fun i => 16 - (intOf i).toNat)
  case atStart => exact ⟨0, by omega, rfl, by omega⟩
  case round =>
    obtain ⟨k, hk, rfl, hj⟩ := hrel
    have HJ : Hid (∀ j : Nat, j < k → hexN b ≠ some (j : Int)) := hj
    clear hj
    by_cases hlt : k < 16
    · have hx : ∀ w, (Instr.index 9 (.string ⟨#[48, 49, 50, 51, 52, 53, 54, 55, 56, 57, 97, 98, 99, 100, 101, 102]⟩) (.int .i64 (k : Int))).run Tryd.prog w = .ok (.int .u8 ((hexT[k]'hlt).toNat : Int)) w := fun w => run_ix hexT k hlt w
      have ha := hex_at b k hlt
      cases hq : (hexN b == some (k : Int)) with
      | true =>
        rw [hq] at ha
        have E : Hid (rdig b = k) := by show _ = _; unfold rdig; rw [eq_of_beq hq]; rfl
        clear hq
        go_wp2
        go_ret
        refine ⟨?_, rfl⟩
        rw [E.out]
        rfl
      | false =>
        rw [hq] at ha
        have HQ : Hid (hexN b ≠ some (k : Int)) := by rw [beq_eq_false_iff_ne] at hq; exact hq
        clear hq
        go_wp2
        go_round
        case rel =>
          refine ⟨k + 1, by omega, by go_num, fun j h => ?_⟩
          by_cases e : j = k
          · subst e; exact HQ.out
          · exact HJ.out j (by omega)
        case measure => simp [intOf]; omega
    · have E : Hid (rdig b = 16) := by
        show _ = _
        unfold rdig
        cases hN : hexN b with
        | none => rfl
        | some d =>
          have hd := hexN_bd b d hN
          exact absurd (by rw [hN]; congr 1; omega) (HJ.out d.toNat (by omega))
      clear HJ
      go_wp2
      go_ret
      refine ⟨?_, rfl⟩
      rw [E.out]
      rfl

/-- Digits without a bound. -/
def decL : List UInt8 → Int → Option Int
  | [], n => some n
  | b :: l, n => if 48 ≤ b.toNat ∧ b.toNat ≤ 57 then decL l (n * 10 + ((b.toNat : Int) - 48)) else none
theorem decL_ge : ∀ (l : List UInt8) (n m : Int), 0 ≤ n → decL l n = some m → n ≤ m
  | [], n, m, h, e => by simp only [decL, Option.some.injEq] at e; omega
  | b :: l, n, m, h, e => by
    simp only [decL] at e
    split at e
    · have := decL_ge l _ m (by omega) e; omega
    · cases e
theorem digL_dec : ∀ (l : List UInt8) (n : Int), 0 ≤ n → n ≤ 65535 → digL l n = match decL l n with
    | some m => if m ≤ 65535 then some m else none
    | none => none
  | [], n, h, h2 => by simp only [digL, decL]; rw [if_pos h2]
  | b :: l, n, h, h2 => by
    simp only [digL, decL]
    split
    · split
      · exact digL_dec l _ (by omega) (by omega)
      · cases e : decL l (n * 10 + ((b.toNat : Int) - 48)) with
        | none => rfl
        | some m =>
          have := decL_ge l _ m (by omega) e
          show none = if m ≤ 65535 then some m else none
          rw [if_neg (by omega)]
    · rfl
/-- As many places, as great. -/
theorem decL_big : ∀ (l : List UInt8) (n m : Int), 0 ≤ n → decL l n = some m → n * 10 ^ l.length ≤ m
  | [], n, m, h, e => by simp only [decL, Option.some.injEq] at e; simp; omega
  | b :: l, n, m, h, e => by
    simp only [decL] at e
    split at e
    · have ih := decL_big l _ m (by omega) e
      have hp : (0 : Int) ≤ 10 ^ l.length := Int.le_of_lt (Int.pow_pos (by decide))
      have e2 : n * 10 ^ (b :: l).length = n * 10 * 10 ^ l.length := by
        rw [List.length_cons, Int.pow_succ, Int.mul_comm (10 ^ l.length) 10, Int.mul_assoc]
      rw [e2]
      refine Int.le_trans (Int.mul_le_mul_of_nonneg_right ?_ hp) ih
      omega
    · cases e
theorem decL_lt : ∀ (l : List UInt8) (n m : Int), 0 ≤ n → decL l n = some m → m < (n + 1) * 10 ^ l.length
  | [], n, m, h, e => by simp only [decL, Option.some.injEq] at e; simp; omega
  | b :: l, n, m, h, e => by
    simp only [decL] at e
    split at e
    · rename_i hd
      have ih := decL_lt l _ m (by omega) e
      have hp : (0 : Int) ≤ 10 ^ l.length := Int.le_of_lt (Int.pow_pos (by decide))
      have e2 : (n + 1) * 10 ^ (b :: l).length = (n + 1) * 10 * 10 ^ l.length := by
        rw [List.length_cons, Int.pow_succ, Int.mul_comm (10 ^ l.length) 10, Int.mul_assoc]
      rw [e2]
      refine Int.lt_of_lt_of_le ih (Int.mul_le_mul_of_nonneg_right ?_ hp)
      omega
    · cases e
/-- Too long a row of digits is no word. -/
theorem digO_long (l : List UInt8) (h : 5 < l.length) : digO l = none := by
  unfold digO
  split
  · rfl
  · rename_i hn
    match l, h, hn with
    | b :: l, h, hn =>
      rw [digL_dec _ 0 (by omega) (by omega)]
      by_cases hd : 48 ≤ b.toNat ∧ b.toNat ≤ 57
      · have e0 : decL (b :: l) 0 = decL l (0 * 10 + ((b.toNat : Int) - 48)) := by simp only [decL]; rw [if_pos hd]
        rw [e0]
        cases e : decL l (0 * 10 + ((b.toNat : Int) - 48)) with
        | none => rfl
        | some m =>
          have hb := decL_big l _ m (by omega) e
          have h48 : b.toNat ≠ 48 := fun g => hn (Or.inr ⟨by simp; exact u8_eq _ _ g, by simp at h ⊢; omega⟩)
          have hp : (10 : Int) ^ 5 ≤ 10 ^ l.length := by
            obtain ⟨k, hk⟩ : ∃ k, l.length = 5 + k := ⟨l.length - 5, by simp at h; omega⟩
            rw [hk, Int.pow_add]
            have : (1 : Int) ≤ 10 ^ k := Int.pow_pos (by decide)
            calc (10 : Int) ^ 5 = 10 ^ 5 * 1 := by omega
              _ ≤ 10 ^ 5 * 10 ^ k := Int.mul_le_mul_of_nonneg_left this (by decide)
          have h3 : 1 * (10 : Int) ^ l.length ≤ (0 * 10 + ((b.toNat : Int) - 48)) * 10 ^ l.length := Int.mul_le_mul_of_nonneg_right (by omega) (by omega)
          show (if m ≤ 65535 then some m else none) = none
          rw [if_neg (by omega)]
      · have e0 : decL (b :: l) 0 = none := by simp only [decL]; rw [if_neg hd]
        rw [e0]
end Go.Proofs.YteoappoacapdhaaDoor
