/- What each function of words does, told by the numbers of the text Nums: both the program's and the document's own. -/
import Derived.Test.YtbjklpdloglniaaDoorRows
import Derived.Test.YtbjklpdloglniaaDoorNums
import Derived.WalkKit
import Derived.WalkSpells
import Derived.WalkLawsBesides
import Derived.Handy
import Derived.Deep.QuietTactic
import Derived.BigQuiet
namespace Go.Proofs.YtbjklpdloglniaaDoor
open Go.RowKit
set_option linter.unusedVariables false

theorem ret1 {v v' : Value} (h : v = v') : Ending.returned v = .returned v' := by rw [h]
theorem int1 {k : IntKind} {a b : Int} (h : a = b) : Value.int k a = .int k b := by rw [h]

theorem add_any (a b : Int) (w : World) (ha : 0 ≤ a) (ha2 : a ≤ 65535) (hb : 0 ≤ b) (hb2 : b ≤ 65535) :
    Calls Tryd.prog 18 #[.int .u16 a, .int .u16 b] w fun e w' => e = .returned (.tuple #[.int .u16 (addV a b), .bool (carryV a b)]) ∧ w' = w := by
  have e : (decide (IntKind.u16.wrap (a + b) < a)) = carryV a b := by unfold carryV; rw [u16w]; exact decide_eq_decide.2 (by omega)
  have e2 : IntKind.u16.wrap (a + b) = addV a b := by unfold addV; rw [u16w]
  have H : Hid (decide (IntKind.u16.wrap (a + b) < a) = carryV a b) := e
  have H2 : Hid (IntKind.u16.wrap (a + b) = addV a b) := e2
  clear e e2
  go_enter Tryd.func18, Tryd.ntmps18
  go_wp2
  go_ret2
  refine ⟨?_, rfl⟩
  rw [← H.out, ← H2.out]
  rfl

theorem sub_any (a b : Int) (w : World) :
    Calls Tryd.prog 28 #[.int .u16 a, .int .u16 b] w fun e w' => e = .returned (.tuple #[.int .u16 (subV a b), .bool (decide (a < b))]) ∧ w' = w := by
  have H : Hid (IntKind.u16.wrap (a - b) = subV a b) := by unfold subV; exact u16w _
  go_enter Tryd.func28, Tryd.ntmps28
  go_wp2
  go_ret2
  refine ⟨?_, rfl⟩
  rw [← H.out]
  rfl

theorem mul_any (a b : Int) (w : World) (ha : 0 ≤ a) (ha2 : a ≤ 65535) (hb : 0 ≤ b) (hb2 : b ≤ 65535) :
    Calls Tryd.prog 29 #[.int .u16 a, .int .u16 b] w fun e w' => e = .returned (.tuple #[.int .u16 (hiV a b), .int .u16 (loV a b)]) ∧ w' = w := by
  obtain ⟨m1, m2⟩ := mul_bd ha ha2 hb hb2
  have H1 : Hid (a % 4294967296 * (b % 4294967296) % 4294967296 / 65536 = hiV a b) := by
    show _ = _; unfold hiV; rw [Int.emod_eq_of_lt ha (by omega), Int.emod_eq_of_lt hb (by omega), Int.emod_eq_of_lt m1 (by omega)]
  have H2 : Hid (IntKind.u16.wrap (a % 4294967296 * (b % 4294967296) % 4294967296) = loV a b) := by
    show _ = _; unfold loV; rw [u16w, Int.emod_eq_of_lt ha (by omega), Int.emod_eq_of_lt hb (by omega), Int.emod_eq_of_lt m1 (by omega)]
  clear m1 m2 ha ha2 hb hb2
  go_enter Tryd.func29, Tryd.ntmps29
  go_wp2
  go_ret2
  refine ⟨?_, rfl⟩
  rw [← H1.out, ← H2.out]
  rfl

theorem div_zero (a : Int) (w : World) :
    Calls Tryd.prog 19 #[.int .u16 a, .int .u16 0] w fun e w' => e = .returned (.tuple #[.int .u16 0, .int .u16 0, .int .i64 14]) ∧ w' = w := by
  go_enter Tryd.func19, Tryd.ntmps19
  go_wp2
  go_ret3
  exact ⟨rfl, rfl⟩
theorem div_any (a b : Int) (w : World) (ha : 0 ≤ a) (ha2 : a ≤ 65535) (h : 0 < b) (hb : b ≤ 65535) :
    Calls Tryd.prog 19 #[.int .u16 a, .int .u16 b] w fun e w' => e = .returned (.tuple #[.int .u16 (a / b), .int .u16 (a % b), .int .i64 0]) ∧ ∃ n, w' = w.drewN n := by
  have hd : 0 ≤ a / b := Int.ediv_nonneg ha (by omega)
  have hd2 : a / b ≤ a := Int.ediv_le_self b ha
  have H : Hid (IntKind.u16.wrap (a.tdiv b) = a / b) := by
    show _ = _; rw [Int.tdiv_eq_ediv_of_nonneg ha, u16w]; omega
  clear hd hd2
  go_enter Tryd.func19, Tryd.ntmps19
  go_wp2
  go_quiet (fail)
  go_wp2
  go_ret3
  refine ⟨?_, _, rfl⟩
  rw [← H.out]
  rfl
theorem steps_any (a : Int) (w : World) :
    Calls Tryd.prog 39 #[.int .i64 a] w fun e w' => e = .returned (.int .u64 (a % 16)) ∧ w' = w := by
  have h := and15 a
  have h2 : IntKind.u64.wrap (a % 16) = a % 16 := u64w _ (by omega) (by omega)
  go_enter Tryd.func39, Tryd.ntmps39
  go_wp2
  go_ret
  exact ⟨rfl, rfl⟩
theorem shl_any (a n : Int) (w : World) (ha : 0 ≤ a) (ha2 : a ≤ 65535) :
    Calls Tryd.prog 30 #[.int .u16 a, .int .i64 n] w fun e w' => e = .returned (.int .u16 (shlV a n)) ∧ w' = w := by
  have H : Hid (IntKind.u16.wrap (a * 2 ^ (n % 16).toNat) = shlV a n) := by show _ = _; unfold shlV; exact u16w _
  go_enter Tryd.func30, Tryd.ntmps30
  go_wp2_with (go_at_call 39; refine (steps_any _ _).mono ?_; rintro e w' ⟨rfl, rfl⟩)
  go_ret
  refine ⟨?_, rfl⟩
  rw [← H.out]
  rfl
theorem shr_any (a n : Int) (w : World) (ha : 0 ≤ a) (ha2 : a ≤ 65535) :
    Calls Tryd.prog 31 #[.int .u16 a, .int .i64 n] w fun e w' => e = .returned (.int .u16 (shrV a n)) ∧ w' = w := by
  go_enter Tryd.func31, Tryd.ntmps31
  go_wp2_with (go_at_call 39; refine (steps_any _ _).mono ?_; rintro e w' ⟨rfl, rfl⟩)
  go_ret
  exact ⟨rfl, rfl⟩
theorem rot_any (a n : Int) (w : World) (ha : 0 ≤ a) (ha2 : a ≤ 65535) :
    Calls Tryd.prog 41 #[.int .u16 a, .int .i64 n] w fun e w' => e = .returned (.int .u16 (rotV a n)) ∧ w' = w := by
  have H : Hid (bits BinOp.or IntKind.u16 (IntKind.u16.wrap (a * 2 ^ (n % 16).toNat)) (a / 2 ^ (16 - n % 16).toNat) = rotV a n) := by
    show _ = _; unfold rotV; rw [u16w]; exact orRot a ha ha2 n
  go_enter Tryd.func41, Tryd.ntmps41
  go_wp2_with (go_at_call 39; refine (steps_any _ _).mono ?_; rintro e w' ⟨rfl, rfl⟩)
  go_ret
  refine ⟨?_, rfl⟩
  rw [← H.out]
  rfl
theorem join_any (h l : Int) (w : World) (ha : 0 ≤ h) (ha2 : h ≤ 255) (hb : 0 ≤ l) (hb2 : l ≤ 255) :
    Calls Tryd.prog 40 #[.int .u8 h, .int .u8 l] w fun e w' => e = .returned (.int .u16 (h * 256 + l)) ∧ w' = w := by
  have H : Hid (bits BinOp.or IntKind.u16 (h * 256) l = h * 256 + l) :=
    bits_join .u16 16 (by decide) (fun n g1 g2 => by rw [u16w]; omega) 8 _ _ (by omega) (by omega) (by omega) hb (by omega) (by omega)
  go_enter Tryd.func40, Tryd.ntmps40
  go_wp2
  go_ret
  refine ⟨?_, rfl⟩
  rw [← H.out]
  rfl
end Go.Proofs.YtbjklpdloglniaaDoor
