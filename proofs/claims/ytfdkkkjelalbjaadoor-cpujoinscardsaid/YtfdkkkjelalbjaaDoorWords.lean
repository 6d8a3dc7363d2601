/- What each function of words does, told by the numbers of the text Nums: both the program's and the document's own. -/
import Derived.Test.YtfdkkkjelalbjaaDoorRows
import Derived.Test.YtfdkkkjelalbjaaDoorNums
import Derived.WalkKit
import Derived.WalkSpells
import Derived.WalkLawsBesides
import Derived.Handy
import Derived.Deep.QuietTactic
import Derived.BigQuiet
namespace Go.Proofs.YtfdkkkjelalbjaaDoor
open Go.RowKit
set_option linter.unusedVariables false

theorem ret1 {v v' : Value} (h : v = v') : Ending.returned v = .returned v' := by rw [h]
theorem int1 {k : IntKind} {a b : Int} (h : a = b) : Value.int k a = .int k b := by rw [h]

theorem add_any (a b : Int) (w : World) (ha : 0 ≤ a) (ha2 : a ≤ 65535) (hb : 0 ≤ b) (hb2 : b ≤ 65535) :
    Calls Tryd.prog 28 #[.int .u16 a, .int .u16 b] w fun e w' => e = .returned (.tuple #[.int .u16 (addV a b), .bool (carryV a b)]) ∧ w' = w := by
  have e : (decide (IntKind.u16.wrap (a + b) < a)) = carryV a b := by unfold carryV; rw [u16w]; exact decide_eq_decide.2 (by omega)
  have e2 : IntKind.u16.wrap (a + b) = addV a b := by unfold addV; rw [u16w]
  have H : Hid (decide (IntKind.u16.wrap (a + b) < a) = carryV a b) := e
  have H2 : Hid (IntKind.u16.wrap (a + b) = addV a b) := e2
  clear e e2
  go_enter Tryd.func28, Tryd.ntmps28
  go_wp2
  go_ret2
  refine ⟨?_, rfl⟩
  rw [← H.out, ← H2.out]
  rfl

theorem radd_any (a b : Int) (w : World) (ha : 0 ≤ a) (ha2 : a ≤ 65535) (hb : 0 ≤ b) (hb2 : b ≤ 65535) :
    Calls Tryd.prog 21 #[.int .u16 a, .int .u16 b] w fun e w' => e = .returned (.tuple #[.int .u16 (addV a b), .bool (carryV a b)]) ∧ w' = w := by
  unfold addV carryV
  go_enter Tryd.func21, Tryd.ntmps21
  go_wp2
  go_ret2
  refine ⟨?_, rfl⟩
  rfl

theorem sub_any (a b : Int) (w : World) :
    Calls Tryd.prog 45 #[.int .u16 a, .int .u16 b] w fun e w' => e = .returned (.tuple #[.int .u16 (subV a b), .bool (decide (a < b))]) ∧ w' = w := by
  have H : Hid (IntKind.u16.wrap (a - b) = subV a b) := by unfold subV; exact u16w _
  go_enter Tryd.func45, Tryd.ntmps45
  go_wp2
  go_ret2
  refine ⟨?_, rfl⟩
  rw [← H.out]
  rfl

theorem rsub_any (a b : Int) (w : World) (ha : 0 ≤ a) (ha2 : a ≤ 65535) (hb : 0 ≤ b) (hb2 : b ≤ 65535) :
    Calls Tryd.prog 34 #[.int .u16 a, .int .u16 b] w fun e w' => e = .returned (.tuple #[.int .u16 (subV a b), .bool (decide (a < b))]) ∧ w' = w := by
  by_cases h : a < b
  · have H : Hid (a - b + 65536 = subV a b) := by show _ = _; unfold subV; omega
    go_enter Tryd.func34, Tryd.ntmps34
    go_wp2
    go_ret2
    refine ⟨?_, rfl⟩
    rw [← H.out, decide_eq_true h]
    rfl
  · have H : Hid (a - b = subV a b) := by show _ = _; unfold subV; omega
    go_enter Tryd.func34, Tryd.ntmps34
    go_wp2
    go_ret2
    refine ⟨?_, rfl⟩
    rw [← H.out, decide_eq_false (Int.not_lt.2 h)]
    rfl

theorem mul_any (a b : Int) (w : World) (ha : 0 ≤ a) (ha2 : a ≤ 65535) (hb : 0 ≤ b) (hb2 : b ≤ 65535) :
    Calls Tryd.prog 46 #[.int .u16 a, .int .u16 b] w fun e w' => e = .returned (.tuple #[.int .u16 (hiV a b), .int .u16 (loV a b)]) ∧ w' = w := by
  obtain ⟨m1, m2⟩ := mul_bd ha ha2 hb hb2
  have H1 : Hid (a % 4294967296 * (b % 4294967296) % 4294967296 / 65536 = hiV a b) := by
    show _ = _; unfold hiV; rw [Int.emod_eq_of_lt ha (by omega), Int.emod_eq_of_lt hb (by omega), Int.emod_eq_of_lt m1 (by omega)]
  have H2 : Hid (IntKind.u16.wrap (a % 4294967296 * (b % 4294967296) % 4294967296) = loV a b) := by
    show _ = _; unfold loV; rw [u16w, Int.emod_eq_of_lt ha (by omega), Int.emod_eq_of_lt hb (by omega), Int.emod_eq_of_lt m1 (by omega)]
  clear m1 m2 ha ha2 hb hb2
  go_enter Tryd.func46, Tryd.ntmps46
  go_wp2
  go_ret2
  refine ⟨?_, rfl⟩
  rw [← H1.out, ← H2.out]
  rfl

theorem rmul_any (a b : Int) (w : World) (ha : 0 ≤ a) (ha2 : a ≤ 65535) (hb : 0 ≤ b) (hb2 : b ≤ 65535) :
    Calls Tryd.prog 35 #[.int .u16 a, .int .u16 b] w fun e w' => e = .returned (.tuple #[.int .u16 (hiV a b), .int .u16 (loV a b)]) ∧ w' = w := by
  obtain ⟨m1, m2⟩ := mul_bd ha ha2 hb hb2
  go_enter Tryd.func35, Tryd.ntmps35
  go_wp2
  go_ret2
  refine ⟨?_, rfl⟩
  rfl

theorem div_zero (a : Int) (w : World) :
    Calls Tryd.prog 29 #[.int .u16 a, .int .u16 0] w fun e w' => e = .returned (.tuple #[.int .u16 0, .int .u16 0, .int .i64 14]) ∧ w' = w := by
  go_enter Tryd.func29, Tryd.ntmps29
  go_wp2
  go_ret3
  exact ⟨rfl, rfl⟩
theorem rdiv_zero (a : Int) (w : World) :
    Calls Tryd.prog 22 #[.int .u16 a, .int .u16 0] w fun e w' => e = .returned (.tuple #[.int .u16 0, .int .u16 0, .int .i64 14]) ∧ w' = w := by
  go_enter Tryd.func22, Tryd.ntmps22
  go_wp2
  go_ret3
  exact ⟨rfl, rfl⟩
theorem div_any (a b : Int) (w : World) (ha : 0 ≤ a) (ha2 : a ≤ 65535) (h : 0 < b) (hb : b ≤ 65535) :
    Calls Tryd.prog 29 #[.int .u16 a, .int .u16 b] w fun e w' => e = .returned (.tuple #[.int .u16 (a / b), .int .u16 (a % b), .int .i64 0]) ∧ ∃ n, w' = w.drewN n := by
  have hd : 0 ≤ a / b := Int.ediv_nonneg ha (by omega)
  have hd2 : a / b ≤ a := Int.ediv_le_self b ha
  have H : Hid (IntKind.u16.wrap (a.tdiv b) = a / b) := by
    show _ = _; rw [Int.tdiv_eq_ediv_of_nonneg ha, u16w]; omega
  clear hd hd2
  go_enter Tryd.func29, Tryd.ntmps29
  go_wp2
  go_quiet (fail)
  go_wp2
  go_ret3
  refine ⟨?_, _, rfl⟩
  rw [← H.out]
  rfl
theorem rdiv_any (a b : Int) (w : World) (ha : 0 ≤ a) (ha2 : a ≤ 65535) (h : 0 < b) (hb : b ≤ 65535) :
    Calls Tryd.prog 22 #[.int .u16 a, .int .u16 b] w fun e w' => e = .returned (.tuple #[.int .u16 (a / b), .int .u16 (a % b), .int .i64 0]) ∧ ∃ n, w' = w.drewN n := by
  have hd : 0 ≤ a / b := Int.ediv_nonneg ha (by omega)
  have hd2 : a / b ≤ a := Int.ediv_le_self b ha
  have h3 := Int.emod_nonneg a (by omega : b ≠ 0)
  have h4 := Int.emod_lt_of_pos a h
  have H : Hid (IntKind.u16.wrap (a % b) = a % b) := by
    show _ = _; rw [u16w]; omega
  clear h3 h4
  go_enter Tryd.func22, Tryd.ntmps22
  go_wp2
  go_quiet (fail)
  go_wp2
  go_ret3
  refine ⟨?_, _, rfl⟩
  show Ending.returned (.tuple #[.int .u16 (a / b), .int .u16 (IntKind.u16.wrap (a % b)), .int .i64 0]) = _
  rw [H.out]
theorem steps_any (a : Int) (w : World) :
    Calls Tryd.prog 55 #[.int .i64 a] w fun e w' => e = .returned (.int .u64 (a % 16)) ∧ w' = w := by
  have h := and15 a
  have h2 : IntKind.u64.wrap (a % 16) = a % 16 := u64w _ (by omega) (by omega)
  go_enter Tryd.func55, Tryd.ntmps55
  go_wp2
  go_ret
  exact ⟨rfl, rfl⟩
theorem shl_any (a n : Int) (w : World) (ha : 0 ≤ a) (ha2 : a ≤ 65535) :
    Calls Tryd.prog 47 #[.int .u16 a, .int .i64 n] w fun e w' => e = .returned (.int .u16 (shlV a n)) ∧ w' = w := by
  have H : Hid (IntKind.u16.wrap (a * 2 ^ (n % 16).toNat) = shlV a n) := by show _ = _; unfold shlV; exact u16w _
  go_enter Tryd.func47, Tryd.ntmps47
  go_wp2_with (go_at_call 55; refine (steps_any _ _).mono ?_; rintro e w' ⟨rfl, rfl⟩)
  go_ret
  refine ⟨?_, rfl⟩
  rw [← H.out]
  rfl
theorem shr_any (a n : Int) (w : World) (ha : 0 ≤ a) (ha2 : a ≤ 65535) :
    Calls Tryd.prog 48 #[.int .u16 a, .int .i64 n] w fun e w' => e = .returned (.int .u16 (shrV a n)) ∧ w' = w := by
  go_enter Tryd.func48, Tryd.ntmps48
  go_wp2_with (go_at_call 55; refine (steps_any _ _).mono ?_; rintro e w' ⟨rfl, rfl⟩)
  go_ret
  exact ⟨rfl, rfl⟩
theorem rot_any (a n : Int) (w : World) (ha : 0 ≤ a) (ha2 : a ≤ 65535) :
    Calls Tryd.prog 50 #[.int .u16 a, .int .i64 n] w fun e w' => e = .returned (.int .u16 (rotV a n)) ∧ w' = w := by
  have H : Hid (bits BinOp.or IntKind.u16 (IntKind.u16.wrap (a * 2 ^ (n % 16).toNat)) (a / 2 ^ (16 - n % 16).toNat) = rotV a n) := by
    show _ = _; unfold rotV; rw [u16w]; exact orRot a ha ha2 n
  go_enter Tryd.func50, Tryd.ntmps50
  go_wp2_with (go_at_call 55; refine (steps_any _ _).mono ?_; rintro e w' ⟨rfl, rfl⟩)
  go_ret
  refine ⟨?_, rfl⟩
  rw [← H.out]
  rfl
theorem turns_any (n : Int) (w : World) :
    Calls Tryd.prog 49 #[.int .i64 n] w fun e w' => e = .returned (.int .i64 (n % 16)) ∧ w' = w := by
  have H1 : Hid (n.tmod 16 < 0 → wrap64 (n.tmod 16 + 16) = n % 16) := by
    show _ → _; intro h
    rw [(tmod16 n).1 h]
    unfold wrap64; omega
  have H2 : Hid (0 ≤ n.tmod 16 → n.tmod 16 = n % 16) := (tmod16 n).2
  go_enter Tryd.func49, Tryd.ntmps49
  go_wp2
  · go_ret
    refine ⟨?_, rfl⟩
    rw [← H1.out (by assumption)]
    rfl
  · go_ret
    refine ⟨?_, rfl⟩
    rw [← H2.out (by assumption)]
    rfl
theorem rshl_any (a n : Int) (w : World) (ha : 0 ≤ a) (ha2 : a ≤ 65535) :
    Calls Tryd.prog 36 #[.int .u16 a, .int .i64 n] w fun e w' => e = .returned (.int .u16 (shlV a n)) ∧ w' = w := by
  have H : Hid (shlF a (n % 16).toNat = shlV a n) := shlF_eq a n ha ha2
  go_enter Tryd.func36, Tryd.ntmps36
  go_wp2
  go_loop [5, 6] (fun x i => ∃ k : Nat, (k : Int) ≤ n % 16 ∧ i = .int .i64 k ∧ x = .int .i64 (shlF a k)) (fun _ i => 16 - (intOf i).toNat)
  case atStart => exact ⟨0, by omega, rfl, rfl⟩
  case round =>
    obtain ⟨k, hk, rfl, rfl⟩ := hrel
    have hbd := (moves_bd a ha ha2 k).1
    by_cases hlt : (k : Int) < n % 16
    · go_wp2_with (go_at_call 49; refine (turns_any _ _).mono ?_; rintro e w' ⟨rfl, rfl⟩)
      go_round
      case rel => exact ⟨k + 1, by omega, by go_num, by go_num⟩
      case measure => simp [intOf]; omega
    · go_wp2_with (go_at_call 49; refine (turns_any _ _).mono ?_; rintro e w' ⟨rfl, rfl⟩)
      go_ret
      refine ⟨?_, rfl⟩
      rw [← H.out, show (n % 16).toNat = k by omega]
      rfl
theorem rshr_any (a n : Int) (w : World) (ha : 0 ≤ a) (ha2 : a ≤ 65535) :
    Calls Tryd.prog 37 #[.int .u16 a, .int .i64 n] w fun e w' => e = .returned (.int .u16 (shrV a n)) ∧ w' = w := by
  have H : Hid (shrF a (n % 16).toNat = shrV a n) := shrF_eq a n
  go_enter Tryd.func37, Tryd.ntmps37
  go_wp2
  go_loop [5, 6] (fun x i => ∃ k : Nat, (k : Int) ≤ n % 16 ∧ i = .int .i64 k ∧ x = .int .i64 (shrF a k)) (fun _ i => 16 - (intOf i).toNat)
  case atStart => exact ⟨0, by omega, rfl, rfl⟩
  case round =>
    obtain ⟨k, hk, rfl, rfl⟩ := hrel
    have hbd := (moves_bd a ha ha2 k).2.1
    by_cases hlt : (k : Int) < n % 16
    · go_wp2_with (go_at_call 49; refine (turns_any _ _).mono ?_; rintro e w' ⟨rfl, rfl⟩)
      go_round
      case rel => exact ⟨k + 1, by omega, by go_num, by go_num⟩
      case measure => simp [intOf]; omega
    · go_wp2_with (go_at_call 49; refine (turns_any _ _).mono ?_; rintro e w' ⟨rfl, rfl⟩)
      go_ret
      refine ⟨?_, rfl⟩
      rw [← H.out, show (n % 16).toNat = k by omega]
      rfl
theorem join_any (h l : Int) (w : World) (ha : 0 ≤ h) (ha2 : h ≤ 255) (hb : 0 ≤ l) (hb2 : l ≤ 255) :
    Calls Tryd.prog 26 #[.int .u8 h, .int .u8 l] w fun e w' => e = .returned (.int .u16 (h * 256 + l)) ∧ w' = w := by
  have H : Hid (bits BinOp.or IntKind.u16 (h * 256) l = h * 256 + l) :=
    bits_join .u16 16 (by decide) (fun n g1 g2 => by rw [u16w]; omega) 8 _ _ (by omega) (by omega) (by omega) hb (by omega) (by omega)
  go_enter Tryd.func26, Tryd.ntmps26
  go_wp2
  go_ret
  refine ⟨?_, rfl⟩
  rw [← H.out]
  rfl
end Go.Proofs.YtfdkkkjelalbjaaDoor
