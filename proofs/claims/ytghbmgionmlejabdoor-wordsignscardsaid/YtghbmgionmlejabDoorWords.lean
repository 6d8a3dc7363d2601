/- What each function of words does, told by the numbers of the text Nums: both the program's and the document's own. -/
import Derived.Test.YtghbmgionmlejabDoorRows
import Derived.Test.YtghbmgionmlejabDoorNums
import Derived.WalkKit
import Derived.WalkSpells
import Derived.WalkLawsBesides
import Derived.Handy
import Derived.Deep.QuietTactic
import Derived.BigQuiet
namespace Go.Proofs.YtghbmgionmlejabDoor
open Go.RowKit
set_option linter.unusedVariables false

theorem ret1 {v v' : Value} (h : v = v') : Ending.returned v = .returned v' := by rw [h]
theorem int1 {k : IntKind} {a b : Int} (h : a = b) : Value.int k a = .int k b := by rw [h]

theorem add_any (a b : Int) (w : World) (ha : 0 ≤ a) (ha2 : a ≤ 65535) (hb : 0 ≤ b) (hb2 : b ≤ 65535) :
    Calls Tryd.prog 45 #[.int .u16 a, .int .u16 b] w fun e w' => e = .returned (.tuple #[.int .u16 (addV a b), .bool (carryV a b)]) ∧ w' = w := by
  have e : (decide (IntKind.u16.wrap (a + b) < a)) = carryV a b := by unfold carryV; rw [u16w]; exact decide_eq_decide.2 (by omega)
  have e2 : IntKind.u16.wrap (a + b) = addV a b := by unfold addV; rw [u16w]
  have H : Hid (decide (IntKind.u16.wrap (a + b) < a) = carryV a b) := e
  have H2 : Hid (IntKind.u16.wrap (a + b) = addV a b) := e2
  clear e e2
  go_enter Tryd.func45, Tryd.ntmps45
  go_wp2
  go_ret2
  refine ⟨?_, rfl⟩
  rw [← H.out, ← H2.out]
  rfl

theorem neg_any (a : Int) (w : World) (ha : 0 ≤ a) (ha2 : a ≤ 65535) :
    Calls Tryd.prog 14 #[.int .u16 a] w fun e w' => e = .returned (.int .u16 (subV 0 a)) ∧ w' = w := by
  have H : Hid (IntKind.u16.wrap (-a) = subV 0 a) := by
    show _ = _; unfold subV; rw [u16w]; omega
  go_enter Tryd.func14, Tryd.ntmps14
  go_wp2
  go_ret
  refine ⟨?_, rfl⟩
  rw [← H.out]
  rfl
theorem steps_any (a : Int) (w : World) :
    Calls Tryd.prog 58 #[.int .i64 a] w fun e w' => e = .returned (.int .u64 (a % 16)) ∧ w' = w := by
  have h := and15 a
  have h2 : IntKind.u64.wrap (a % 16) = a % 16 := u64w _ (by omega) (by omega)
  go_enter Tryd.func58, Tryd.ntmps58
  go_wp2
  go_ret
  exact ⟨rfl, rfl⟩
theorem rot_any (a n : Int) (w : World) (ha : 0 ≤ a) (ha2 : a ≤ 65535) :
    Calls Tryd.prog 44 #[.int .u16 a, .int .i64 n] w fun e w' => e = .returned (.int .u16 (rotV a n)) ∧ w' = w := by
  have H : Hid (bits BinOp.or IntKind.u16 (IntKind.u16.wrap (a * 2 ^ (n % 16).toNat)) (a / 2 ^ (16 - n % 16).toNat) = rotV a n) := by
    show _ = _; unfold rotV; rw [u16w]; exact orRot a ha ha2 n
  go_enter Tryd.func44, Tryd.ntmps44
  go_wp2_with (go_at_call 58; refine (steps_any _ _).mono ?_; rintro e w' ⟨rfl, rfl⟩)
  go_ret
  refine ⟨?_, rfl⟩
  rw [← H.out]
  rfl
theorem from_yes (n : Int) (w : World) (h : -32768 ≤ n) (h2 : n ≤ 65535) :
    Calls Tryd.prog 8 #[.int .i64 n] w fun e w' => e = .returned (.tuple #[.int .u16 (n % 65536), .bool true]) ∧ w' = w := by
  have H : Hid (IntKind.u16.wrap n = n % 65536) := u16w n
  go_enter Tryd.func8, Tryd.ntmps8
  go_wp2
  go_ret2
  refine ⟨?_, rfl⟩
  rw [← H.out]
  rfl
theorem from_no (n : Int) (w : World) (h : n < -32768 ∨ 65535 < n) :
    Calls Tryd.prog 8 #[.int .i64 n] w fun e w' => e = .returned (.tuple #[.int .u16 0, .bool false]) ∧ w' = w := by
  rcases h with h | h <;> (go_enter Tryd.func8, Tryd.ntmps8; go_wp2; go_ret2; exact ⟨rfl, rfl⟩)
theorem signed_any (a : Int) (w : World) (ha : 0 ≤ a) (ha2 : a ≤ 65535) :
    Calls Tryd.prog 9 #[.int .u16 a] w fun e w' => e = .returned (.int .i64 (signedV a)) ∧ w' = w := by
  have H : Hid (wrap64 (IntKind.i16.wrap a) = signedV a) := by show _ = _; unfold signedV; rw [i16w, Int.emod_eq_of_lt ha (by omega)]; unfold wrap64; split <;> omega
  go_enter Tryd.func9, Tryd.ntmps9
  go_wp2
  go_ret
  refine ⟨?_, rfl⟩
  rw [← H.out]
  rfl
end Go.Proofs.YtghbmgionmlejabDoor
