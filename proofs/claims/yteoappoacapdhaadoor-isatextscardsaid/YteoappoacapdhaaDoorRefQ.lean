/- The document's own reading of a word as text: the same number, or none. -/
import Derived.Test.YteoappoacapdhaaDoorRefP
namespace Go.Proofs.YteoappoacapdhaaDoor
open Go.RowKit
set_option linter.unusedVariables false

theorem rparse_long (s : ByteArray) (w : World) (hsz : s.size ≤ 9223372036854775807) (h : s.size = 0 ∨ 6 < s.size) :
    Calls Tryd.prog 47 #[.string s] w fun e w' => e = .returned (.tuple #[.int .u16 0, .int .i64 3]) ∧ Below w.heap.size w w' := by
  rcases h with h | h
  · have h' : (s.size : Int) = 0 := by omega
    go_enter Tryd.func47, Tryd.ntmps47
    go_wp2
    go_ret2
    exact ⟨rfl, Below.refl _ _⟩
  · have h' : (6 : Int) < (s.size : Int) := by omega
    have h0 : ((s.size : Int) == 0) = false := by rw [beq_eq_false_iff_ne]; omega
    go_enter Tryd.func47, Tryd.ntmps47
    go_wp2
    go_ret2
    exact ⟨rfl, Below.refl _ _⟩

set_option maxHeartbeats 2000000 in
theorem rparse_hex (s : ByteArray) (w : World) (hp : 0 < s.size) (h6 : s.size ≤ 6) (h : s[0].toNat = 120) (R : Option Int) (HR : Hid (R = hexO (s.data.toList.drop 1))) :
    Calls Tryd.prog 47 #[.string s] w fun e w' => e = .returned (.tuple #[.int .u16 (wordO R), .int .i64 (errO R)]) ∧ Below w.heap.size w w' := by
  have h0 : ((s.size : Int) == 0) = false := by rw [beq_eq_false_iff_ne]; omega
  have h6' : (s.size : Int) ≤ 6 := by omega
  have hz : (s[0].toNat : Int) = 120 := by omega
  have hp' : (0 : Int) < (s.size : Int) := by omega
  obtain ⟨O, hO⟩ : ∃ O, hexL (s.data.toList.drop 1) 0 = O := ⟨_, rfl⟩
  have HQ : Hid (R = if s.size = 1 ∨ 5 < s.size then none else O) := by
    have := HR.out
    show _ = _
    rw [this]
    unfold hexO
    have hlen : (s.data.toList.drop 1).length = s.size - 1 := by rw [List.length_drop, ← Lib.size_eq]
    have e1 : (s.data.toList.drop 1 = [] ∨ 4 < (s.data.toList.drop 1).length) = (s.size = 1 ∨ 5 < s.size) := by
      rw [hlen, ← List.length_eq_zero_iff, hlen]
      exact propext ⟨fun g => by omega, fun g => by omega⟩
    simp only [e1, hO]
  have HO : Hid (hexL (s.data.toList.drop 1) 0 = O) := hO
  clear hO HR
  go_enter Tryd.func47, Tryd.ntmps47
  go_wp2
  go_loop [4, 5] (fun n i => ∃ (k : Nat) (acc : Int), 1 ≤ k ∧ k ≤ s.size ∧ i = .int .i64 k ∧ n = .int .i64 acc ∧ 0 ≤ acc ∧ acc < 16 ^ (k - 1) ∧ hexL (s.data.toList.drop k) acc = O) (fun _ i => s.size - (intOf i).toNat)
  case atStart => exact ⟨1, 0, by omega, by omega, rfl, rfl, by omega, by decide, HO.out⟩
  case round =>
    obtain ⟨k, acc, hk1, hk, rfl, rfl, ha, ha2, hd⟩ := hrel
    have hacc : acc < 1048576 := by
      have : ∀ j : Nat, j < 6 → (16 : Int) ^ j ≤ 1048576 := by decide
      have := this (k - 1) (by omega)
      omega
    by_cases hlt : k < s.size
    · have hlt' : (k : Int) < (s.size : Int) := by omega
      rw [drop_at s k hlt] at hd
      have cD := fun w => rdigit_any (s[k]'hlt) w
      cases hN : hexN (s[k]'hlt) with
      | none =>
        simp only [hexL, hN] at hd
        have e : rdig (s[k]'hlt) = 16 := by unfold rdig; rw [hN]; rfl
        rw [e] at cD
        have hR : R = none := by
          have := HQ.out
          rw [this, ← hd]
          split <;> rfl
        subst hR
        clear HQ HO hN e hd ha2
        go_wp2_with (go_at_call 52; refine (cD _).mono ?_; rintro e w' ⟨rfl, rfl⟩)
        go_ret2
        exact ⟨rfl, Below.refl _ _⟩
      | some d =>
        simp only [hexL, hN] at hd
        have e : rdig (s[k]'hlt) = d := by unfold rdig; rw [hN]; rfl
        rw [e] at cD
        have hdb := hexN_bd _ d hN
        have HD : Hid (hexL (List.drop (k + 1) s.data.toList) (acc * 16 + d) = O ∧ acc < 16 ^ (k - 1)) := ⟨hd, ha2⟩
        clear hd HO hN e ha2 HQ
        go_wp2_with (go_at_call 52; refine (cD _).mono ?_; rintro e w' ⟨rfl, rfl⟩)
        go_round
        case rel =>
          refine ⟨k + 1, acc * 16 + d, by omega, by omega, by go_num, by go_num, by omega, ?_, HD.out.1⟩
          have := HD.out.2
          rw [show k + 1 - 1 = (k - 1) + 1 by omega, Int.pow_succ]
          omega
        case measure => simp [intOf]; omega
    · have hk2 : k = s.size := by omega
      rw [List.drop_eq_nil_of_le (by simp; omega)] at hd
      simp only [hexL] at hd
      subst hd
      have hlt' : ¬ (k : Int) < (s.size : Int) := by omega
      by_cases g1 : s.size = 1
      · have hR : R = none := by have := HQ.out; rw [this, if_pos (Or.inl g1)]
        subst hR
        have g1' : (s.size : Int) < 2 := by omega
        clear HQ HO ha2
        go_wp2
        go_ret2
        exact ⟨rfl, Below.refl _ _⟩
      by_cases g2 : 5 < s.size
      · have hR : R = none := by have := HQ.out; rw [this, if_pos (Or.inr g2)]
        subst hR
        have g1' : ¬ (s.size : Int) < 2 := by omega
        have g2' : (5 : Int) < (s.size : Int) := by omega
        clear HQ HO ha2
        go_wp2
        go_ret2
        exact ⟨rfl, Below.refl _ _⟩
      · have hR : R = some acc := by have := HQ.out; rw [this, if_neg (by omega)]
        have hb : acc ≤ 65535 := by
          have : ∀ j : Nat, j < 5 → (16 : Int) ^ j ≤ 65536 := by decide
          have := this (k - 1) (by omega)
          omega
        have HW : Hid (wordO (some acc) = acc ∧ errO (some acc) = 0) := by
          simp only [wordO, errO]
          rw [if_pos (by omega), if_pos (by omega)]
          exact ⟨by omega, rfl⟩
        subst hR
        have g1' : ¬ (s.size : Int) < 2 := by omega
        have g2' : ¬ (5 : Int) < (s.size : Int) := by omega
        clear HQ HO ha2
        go_wp2
        go_ret2
        refine ⟨?_, Below.refl _ _⟩
        rw [HW.out.1, HW.out.2]
        rfl
end Go.Proofs.YteoappoacapdhaaDoor
