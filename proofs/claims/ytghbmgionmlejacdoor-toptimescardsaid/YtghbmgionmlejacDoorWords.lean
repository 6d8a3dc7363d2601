/- What each function of words does, told by the numbers of the text Nums: both the program's and the document's own. -/
import Derived.Test.YtghbmgionmlejacDoorRows
import Derived.Test.YtghbmgionmlejacDoorNums
import Derived.WalkKit
import Derived.WalkSpells
import Derived.WalkLawsBesides
import Derived.Handy
import Derived.Deep.QuietTactic
import Derived.BigQuiet
namespace Go.Proofs.YtghbmgionmlejacDoor
open Go.RowKit
set_option linter.unusedVariables false

theorem ret1 {v v' : Value} (h : v = v') : Ending.returned v = .returned v' := by rw [h]
theorem int1 {k : IntKind} {a b : Int} (h : a = b) : Value.int k a = .int k b := by rw [h]

theorem add_any (a b : Int) (w : World) (ha : 0 ≤ a) (ha2 : a ≤ 65535) (hb : 0 ≤ b) (hb2 : b ≤ 65535) :
    Calls Tryd.prog 15 #[.int .u16 a, .int .u16 b] w fun e w' => e = .returned (.tuple #[.int .u16 (addV a b), .bool (carryV a b)]) ∧ w' = w := by
  have e : (decide (IntKind.u16.wrap (a + b) < a)) = carryV a b := by unfold carryV; rw [u16w]; exact decide_eq_decide.2 (by omega)
  have e2 : IntKind.u16.wrap (a + b) = addV a b := by unfold addV; rw [u16w]
  have H : Hid (decide (IntKind.u16.wrap (a + b) < a) = carryV a b) := e
  have H2 : Hid (IntKind.u16.wrap (a + b) = addV a b) := e2
  clear e e2
  go_enter Tryd.func15, Tryd.ntmps15
  go_wp2
  go_ret2
  refine ⟨?_, rfl⟩
  rw [← H.out, ← H2.out]
  rfl

theorem mul_any (a b : Int) (w : World) (ha : 0 ≤ a) (ha2 : a ≤ 65535) (hb : 0 ≤ b) (hb2 : b ≤ 65535) :
    Calls Tryd.prog 16 #[.int .u16 a, .int .u16 b] w fun e w' => e = .returned (.tuple #[.int .u16 (hiV a b), .int .u16 (loV a b)]) ∧ w' = w := by
  obtain ⟨m1, m2⟩ := mul_bd ha ha2 hb hb2
  have H1 : Hid (a % 4294967296 * (b % 4294967296) % 4294967296 / 65536 = hiV a b) := by
    show _ = _; unfold hiV; rw [Int.emod_eq_of_lt ha (by omega), Int.emod_eq_of_lt hb (by omega), Int.emod_eq_of_lt m1 (by omega)]
  have H2 : Hid (IntKind.u16.wrap (a % 4294967296 * (b % 4294967296) % 4294967296) = loV a b) := by
    show _ = _; unfold loV; rw [u16w, Int.emod_eq_of_lt ha (by omega), Int.emod_eq_of_lt hb (by omega), Int.emod_eq_of_lt m1 (by omega)]
  clear m1 m2 ha ha2 hb hb2
  go_enter Tryd.func16, Tryd.ntmps16
  go_wp2
  go_ret2
  refine ⟨?_, rfl⟩
  rw [← H1.out, ← H2.out]
  rfl

theorem steps_any (a : Int) (w : World) :
    Calls Tryd.prog 45 #[.int .i64 a] w fun e w' => e = .returned (.int .u64 (a % 16)) ∧ w' = w := by
  have h := and15 a
  have h2 : IntKind.u64.wrap (a % 16) = a % 16 := u64w _ (by omega) (by omega)
  go_enter Tryd.func45, Tryd.ntmps45
  go_wp2
  go_ret
  exact ⟨rfl, rfl⟩
theorem rot_any (a n : Int) (w : World) (ha : 0 ≤ a) (ha2 : a ≤ 65535) :
    Calls Tryd.prog 32 #[.int .u16 a, .int .i64 n] w fun e w' => e = .returned (.int .u16 (rotV a n)) ∧ w' = w := by
  have H : Hid (bits BinOp.or IntKind.u16 (IntKind.u16.wrap (a * 2 ^ (n % 16).toNat)) (a / 2 ^ (16 - n % 16).toNat) = rotV a n) := by
    show _ = _; unfold rotV; rw [u16w]; exact orRot a ha ha2 n
  go_enter Tryd.func32, Tryd.ntmps32
  go_wp2_with (go_at_call 45; refine (steps_any _ _).mono ?_; rintro e w' ⟨rfl, rfl⟩)
  go_ret
  refine ⟨?_, rfl⟩
  rw [← H.out]
  rfl
theorem ones_any (a : Int) (w : World) (ha : 0 ≤ a) (ha2 : a ≤ 65535) :
    Calls Tryd.prog 19 #[.int .u16 a] w fun e w' => e = .returned (.int .i64 (onesV a)) ∧ w' = w := by
  have H : Hid (onesP a 16 = onesV a) := onesP_eq a
  go_enter Tryd.func19, Tryd.ntmps19
  go_wp2
  go_loop [3, 5] (fun x i => ∃ k : Nat, k ≤ 16 ∧ i = .int .i64 k ∧ x = .int .i64 (onesP a k)) (fun _ i => 16 - (intOf i).toNat)
  case atStart => exact ⟨0, by omega, rfl, rfl⟩
  case round =>
    obtain ⟨k, hk, rfl, rfl⟩ := hrel
    have hbd := onesP_bd a k
    have hd : 0 ≤ a / 2 ^ k := Int.ediv_nonneg ha (Int.le_of_lt (Int.pow_pos (by decide)))
    have hd2 : a / 2 ^ k ≤ a := Int.ediv_le_self _ ha
    have hand := and1w (a / 2 ^ k) hd (by omega)
    have hm := Int.emod_nonneg (a / 2 ^ k) (by decide : (2 : Int) ≠ 0)
    have hm2 := Int.emod_lt_of_pos (a / 2 ^ k) (by decide : (0 : Int) < 2)
    by_cases hlt : k < 16
    · go_wp2
      go_round
      case rel => exact ⟨k + 1, by omega, by go_num, by go_num⟩
      case measure => simp [intOf]; omega
    · go_wp2
      go_ret
      refine ⟨?_, rfl⟩
      rw [← H.out, show 16 = k by omega]
      rfl
theorem from_yes (n : Int) (w : World) (h : -32768 ≤ n) (h2 : n ≤ 65535) :
    Calls Tryd.prog 31 #[.int .i64 n] w fun e w' => e = .returned (.tuple #[.int .u16 (n % 65536), .bool true]) ∧ w' = w := by
  have H : Hid (IntKind.u16.wrap n = n % 65536) := u16w n
  go_enter Tryd.func31, Tryd.ntmps31
  go_wp2
  go_ret2
  refine ⟨?_, rfl⟩
  rw [← H.out]
  rfl
theorem from_no (n : Int) (w : World) (h : n < -32768 ∨ 65535 < n) :
    Calls Tryd.prog 31 #[.int .i64 n] w fun e w' => e = .returned (.tuple #[.int .u16 0, .bool false]) ∧ w' = w := by
  rcases h with h | h <;> (go_enter Tryd.func31, Tryd.ntmps31; go_wp2; go_ret2; exact ⟨rfl, rfl⟩)
end Go.Proofs.YtghbmgionmlejacDoor
