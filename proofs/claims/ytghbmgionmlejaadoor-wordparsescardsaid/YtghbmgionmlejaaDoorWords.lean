/- What each function of words does, told by the numbers of the text Nums: both the program's and the document's own. -/
import Derived.Test.YtghbmgionmlejaaDoorRows
import Derived.Test.YtghbmgionmlejaaDoorNums
import Derived.WalkKit
import Derived.WalkSpells
import Derived.WalkLawsBesides
import Derived.Handy
import Derived.Deep.QuietTactic
import Derived.BigQuiet
namespace Go.Proofs.YtghbmgionmlejaaDoor
open Go.RowKit
set_option linter.unusedVariables false

theorem ret1 {v v' : Value} (h : v = v') : Ending.returned v = .returned v' := by rw [h]
theorem int1 {k : IntKind} {a b : Int} (h : a = b) : Value.int k a = .int k b := by rw [h]

theorem add_any (a b : Int) (w : World) (ha : 0 ≤ a) (ha2 : a ≤ 65535) (hb : 0 ≤ b) (hb2 : b ≤ 65535) :
    Calls Tryd.prog 9 #[.int .u16 a, .int .u16 b] w fun e w' => e = .returned (.tuple #[.int .u16 (addV a b), .bool (carryV a b)]) ∧ w' = w := by
  have e : (decide (IntKind.u16.wrap (a + b) < a)) = carryV a b := by unfold carryV; rw [u16w]; exact decide_eq_decide.2 (by omega)
  have e2 : IntKind.u16.wrap (a + b) = addV a b := by unfold addV; rw [u16w]
  have H : Hid (decide (IntKind.u16.wrap (a + b) < a) = carryV a b) := e
  have H2 : Hid (IntKind.u16.wrap (a + b) = addV a b) := e2
  clear e e2
  go_enter Tryd.func9, Tryd.ntmps9
  go_wp2
  go_ret2
  refine ⟨?_, rfl⟩
  rw [← H.out, ← H2.out]
  rfl

theorem radd_any (a b : Int) (w : World) (ha : 0 ≤ a) (ha2 : a ≤ 65535) (hb : 0 ≤ b) (hb2 : b ≤ 65535) :
    Calls Tryd.prog 10 #[.int .u16 a, .int .u16 b] w fun e w' => e = .returned (.tuple #[.int .u16 (addV a b), .bool (carryV a b)]) ∧ w' = w := by
  unfold addV carryV
  go_enter Tryd.func10, Tryd.ntmps10
  go_wp2
  go_ret2
  refine ⟨?_, rfl⟩
  rfl

theorem sub_any (a b : Int) (w : World) :
    Calls Tryd.prog 11 #[.int .u16 a, .int .u16 b] w fun e w' => e = .returned (.tuple #[.int .u16 (subV a b), .bool (decide (a < b))]) ∧ w' = w := by
  have H : Hid (IntKind.u16.wrap (a - b) = subV a b) := by unfold subV; exact u16w _
  go_enter Tryd.func11, Tryd.ntmps11
  go_wp2
  go_ret2
  refine ⟨?_, rfl⟩
  rw [← H.out]
  rfl

theorem rsub_any (a b : Int) (w : World) (ha : 0 ≤ a) (ha2 : a ≤ 65535) (hb : 0 ≤ b) (hb2 : b ≤ 65535) :
    Calls Tryd.prog 12 #[.int .u16 a, .int .u16 b] w fun e w' => e = .returned (.tuple #[.int .u16 (subV a b), .bool (decide (a < b))]) ∧ w' = w := by
  by_cases h : a < b
  · have H : Hid (a - b + 65536 = subV a b) := by show _ = _; unfold subV; omega
    go_enter Tryd.func12, Tryd.ntmps12
    go_wp2
    go_ret2
    refine ⟨?_, rfl⟩
    rw [← H.out, decide_eq_true h]
    rfl
  · have H : Hid (a - b = subV a b) := by show _ = _; unfold subV; omega
    go_enter Tryd.func12, Tryd.ntmps12
    go_wp2
    go_ret2
    refine ⟨?_, rfl⟩
    rw [← H.out, decide_eq_false (Int.not_lt.2 h)]
    rfl

theorem mul_any (a b : Int) (w : World) (ha : 0 ≤ a) (ha2 : a ≤ 65535) (hb : 0 ≤ b) (hb2 : b ≤ 65535) :
    Calls Tryd.prog 13 #[.int .u16 a, .int .u16 b] w fun e w' => e = .returned (.tuple #[.int .u16 (hiV a b), .int .u16 (loV a b)]) ∧ w' = w := by
  obtain ⟨m1, m2⟩ := mul_bd ha ha2 hb hb2
  have H1 : Hid (a % 4294967296 * (b % 4294967296) % 4294967296 / 65536 = hiV a b) := by
    show _ = _; unfold hiV; rw [Int.emod_eq_of_lt ha (by omega), Int.emod_eq_of_lt hb (by omega), Int.emod_eq_of_lt m1 (by omega)]
  have H2 : Hid (IntKind.u16.wrap (a % 4294967296 * (b % 4294967296) % 4294967296) = loV a b) := by
    show _ = _; unfold loV; rw [u16w, Int.emod_eq_of_lt ha (by omega), Int.emod_eq_of_lt hb (by omega), Int.emod_eq_of_lt m1 (by omega)]
  clear m1 m2 ha ha2 hb hb2
  go_enter Tryd.func13, Tryd.ntmps13
  go_wp2
  go_ret2
  refine ⟨?_, rfl⟩
  rw [← H1.out, ← H2.out]
  rfl

theorem rmul_any (a b : Int) (w : World) (ha : 0 ≤ a) (ha2 : a ≤ 65535) (hb : 0 ≤ b) (hb2 : b ≤ 65535) :
    Calls Tryd.prog 14 #[.int .u16 a, .int .u16 b] w fun e w' => e = .returned (.tuple #[.int .u16 (hiV a b), .int .u16 (loV a b)]) ∧ w' = w := by
  obtain ⟨m1, m2⟩ := mul_bd ha ha2 hb hb2
  go_enter Tryd.func14, Tryd.ntmps14
  go_wp2
  go_ret2
  refine ⟨?_, rfl⟩
  rfl

theorem div_zero (a : Int) (w : World) :
    Calls Tryd.prog 15 #[.int .u16 a, .int .u16 0] w fun e w' => e = .returned (.tuple #[.int .u16 0, .int .u16 0, .int .i64 14]) ∧ w' = w := by
  go_enter Tryd.func15, Tryd.ntmps15
  go_wp2
  go_ret3
  exact ⟨rfl, rfl⟩
theorem rdiv_zero (a : Int) (w : World) :
    Calls Tryd.prog 16 #[.int .u16 a, .int .u16 0] w fun e w' => e = .returned (.tuple #[.int .u16 0, .int .u16 0, .int .i64 14]) ∧ w' = w := by
  go_enter Tryd.func16, Tryd.ntmps16
  go_wp2
  go_ret3
  exact ⟨rfl, rfl⟩
theorem div_any (a b : Int) (w : World) (ha : 0 ≤ a) (ha2 : a ≤ 65535) (h : 0 < b) (hb : b ≤ 65535) :
    Calls Tryd.prog 15 #[.int .u16 a, .int .u16 b] w fun e w' => e = .returned (.tuple #[.int .u16 (a / b), .int .u16 (a % b), .int .i64 0]) ∧ ∃ n, w' = w.drewN n := by
  have hd : 0 ≤ a / b := Int.ediv_nonneg ha (by omega)
  have hd2 : a / b ≤ a := Int.ediv_le_self b ha
  have H : Hid (IntKind.u16.wrap (a.tdiv b) = a / b) := by
    show _ = _; rw [Int.tdiv_eq_ediv_of_nonneg ha, u16w]; omega
  clear hd hd2
  go_enter Tryd.func15, Tryd.ntmps15
  go_wp2
  go_quiet (fail)
  go_wp2
  go_ret3
  refine ⟨?_, _, rfl⟩
  rw [← H.out]
  rfl
theorem rdiv_any (a b : Int) (w : World) (ha : 0 ≤ a) (ha2 : a ≤ 65535) (h : 0 < b) (hb : b ≤ 65535) :
    Calls Tryd.prog 16 #[.int .u16 a, .int .u16 b] w fun e w' => e = .returned (.tuple #[.int .u16 (a / b), .int .u16 (a % b), .int .i64 0]) ∧ ∃ n, w' = w.drewN n := by
  have hd : 0 ≤ a / b := Int.ediv_nonneg ha (by omega)
  have hd2 : a / b ≤ a := Int.ediv_le_self b ha
  have h3 := Int.emod_nonneg a (by omega : b ≠ 0)
  have h4 := Int.emod_lt_of_pos a h
  have H : Hid (IntKind.u16.wrap (a % b) = a % b) := by
    show _ = _; rw [u16w]; omega
  clear h3 h4
  go_enter Tryd.func16, Tryd.ntmps16
  go_wp2
  go_quiet (fail)
  go_wp2
  go_ret3
  refine ⟨?_, _, rfl⟩
  show Ending.returned (.tuple #[.int .u16 (a / b), .int .u16 (IntKind.u16.wrap (a % b)), .int .i64 0]) = _
  rw [H.out]
theorem neg_any (a : Int) (w : World) (ha : 0 ≤ a) (ha2 : a ≤ 65535) :
    Calls Tryd.prog 18 #[.int .u16 a] w fun e w' => e = .returned (.int .u16 (subV 0 a)) ∧ w' = w := by
  have H : Hid (IntKind.u16.wrap (-a) = subV 0 a) := by
    show _ = _; unfold subV; rw [u16w]; omega
  go_enter Tryd.func18, Tryd.ntmps18
  go_wp2
  go_ret
  refine ⟨?_, rfl⟩
  rw [← H.out]
  rfl
theorem rneg_any (a : Int) (w : World) (ha : 0 ≤ a) (ha2 : a ≤ 65535) :
    Calls Tryd.prog 19 #[.int .u16 a] w fun e w' => e = .returned (.int .u16 (subV 0 a)) ∧ w' = w := by
  have c := fun w => rsub_any 0 a w (by omega) (by omega) ha ha2
  go_enter Tryd.func19, Tryd.ntmps19
  go_wp2_with (go_at_call 12; refine (c _).mono ?_; rintro e w' ⟨rfl, rfl⟩)
  go_ret
  exact ⟨rfl, rfl⟩

theorem steps_any (a : Int) (w : World) :
    Calls Tryd.prog 41 #[.int .i64 a] w fun e w' => e = .returned (.int .u64 (a % 16)) ∧ w' = w := by
  have h := and15 a
  have h2 : IntKind.u64.wrap (a % 16) = a % 16 := u64w _ (by omega) (by omega)
  go_enter Tryd.func41, Tryd.ntmps41
  go_wp2
  go_ret
  exact ⟨rfl, rfl⟩
theorem shl_any (a n : Int) (w : World) (ha : 0 ≤ a) (ha2 : a ≤ 65535) :
    Calls Tryd.prog 20 #[.int .u16 a, .int .i64 n] w fun e w' => e = .returned (.int .u16 (shlV a n)) ∧ w' = w := by
  have H : Hid (IntKind.u16.wrap (a * 2 ^ (n % 16).toNat) = shlV a n) := by show _ = _; unfold shlV; exact u16w _
  go_enter Tryd.func20, Tryd.ntmps20
  go_wp2_with (go_at_call 41; refine (steps_any _ _).mono ?_; rintro e w' ⟨rfl, rfl⟩)
  go_ret
  refine ⟨?_, rfl⟩
  rw [← H.out]
  rfl
theorem shr_any (a n : Int) (w : World) (ha : 0 ≤ a) (ha2 : a ≤ 65535) :
    Calls Tryd.prog 22 #[.int .u16 a, .int .i64 n] w fun e w' => e = .returned (.int .u16 (shrV a n)) ∧ w' = w := by
  go_enter Tryd.func22, Tryd.ntmps22
  go_wp2_with (go_at_call 41; refine (steps_any _ _).mono ?_; rintro e w' ⟨rfl, rfl⟩)
  go_ret
  exact ⟨rfl, rfl⟩
theorem sar_any (a n : Int) (w : World) (ha : 0 ≤ a) (ha2 : a ≤ 65535) :
    Calls Tryd.prog 24 #[.int .u16 a, .int .i64 n] w fun e w' => e = .returned (.int .u16 (sarV a n)) ∧ w' = w := by
  have H : Hid (IntKind.u16.wrap (IntKind.i16.wrap a / 2 ^ (n % 16).toNat) = sarV a n) := by
    show _ = _; unfold sarV signedV; rw [u16w, i16w, Int.emod_eq_of_lt ha (by omega)]
  go_enter Tryd.func24, Tryd.ntmps24
  go_wp2_with (go_at_call 41; refine (steps_any _ _).mono ?_; rintro e w' ⟨rfl, rfl⟩)
  go_ret
  refine ⟨?_, rfl⟩
  rw [← H.out]
  rfl
theorem rot_any (a n : Int) (w : World) (ha : 0 ≤ a) (ha2 : a ≤ 65535) :
    Calls Tryd.prog 26 #[.int .u16 a, .int .i64 n] w fun e w' => e = .returned (.int .u16 (rotV a n)) ∧ w' = w := by
  have H : Hid (bits BinOp.or IntKind.u16 (IntKind.u16.wrap (a * 2 ^ (n % 16).toNat)) (a / 2 ^ (16 - n % 16).toNat) = rotV a n) := by
    show _ = _; unfold rotV; rw [u16w]; exact orRot a ha ha2 n
  go_enter Tryd.func26, Tryd.ntmps26
  go_wp2_with (go_at_call 41; refine (steps_any _ _).mono ?_; rintro e w' ⟨rfl, rfl⟩)
  go_ret
  refine ⟨?_, rfl⟩
  rw [← H.out]
  rfl
theorem turns_any (n : Int) (w : World) :
    Calls Tryd.prog 42 #[.int .i64 n] w fun e w' => e = .returned (.int .i64 (n % 16)) ∧ w' = w := by
  have H1 : Hid (n.tmod 16 < 0 → wrap64 (n.tmod 16 + 16) = n % 16) := by
    show _ → _; intro h
    rw [(tmod16 n).1 h]
    unfold wrap64; omega
  have H2 : Hid (0 ≤ n.tmod 16 → n.tmod 16 = n % 16) := (tmod16 n).2
  go_enter Tryd.func42, Tryd.ntmps42
  go_wp2
  · go_ret
    refine ⟨?_, rfl⟩
    rw [← H1.out (by assumption)]
    rfl
  · go_ret
    refine ⟨?_, rfl⟩
    rw [← H2.out (by assumption)]
    rfl
theorem rshl_any (a n : Int) (w : World) (ha : 0 ≤ a) (ha2 : a ≤ 65535) :
    Calls Tryd.prog 21 #[.int .u16 a, .int .i64 n] w fun e w' => e = .returned (.int .u16 (shlV a n)) ∧ w' = w := by
  have H : Hid (shlF a (n % 16).toNat = shlV a n) := shlF_eq a n ha ha2
  go_enter Tryd.func21, Tryd.ntmps21
  go_wp2
  go_loop [5, 6] (fun x i => ∃ k : Nat, (k : Int) ≤ n % 16 ∧ i = .int .i64 k ∧ x = .int .i64 (shlF a k)) (fun _ i => 16 - (intOf i).toNat)
  case atStart => exact ⟨0, by omega, rfl, rfl⟩
  case round =>
    obtain ⟨k, hk, rfl, rfl⟩ := hrel
    have hbd := (moves_bd a ha ha2 k).1
    by_cases hlt : (k : Int) < n % 16
    · go_wp2_with (go_at_call 42; refine (turns_any _ _).mono ?_; rintro e w' ⟨rfl, rfl⟩)
      go_round
      case rel => exact ⟨k + 1, by omega, by go_num, by go_num⟩
      case measure => simp [intOf]; omega
    · go_wp2_with (go_at_call 42; refine (turns_any _ _).mono ?_; rintro e w' ⟨rfl, rfl⟩)
      go_ret
      refine ⟨?_, rfl⟩
      rw [← H.out, show (n % 16).toNat = k by omega]
      rfl
theorem rshr_any (a n : Int) (w : World) (ha : 0 ≤ a) (ha2 : a ≤ 65535) :
    Calls Tryd.prog 23 #[.int .u16 a, .int .i64 n] w fun e w' => e = .returned (.int .u16 (shrV a n)) ∧ w' = w := by
  have H : Hid (shrF a (n % 16).toNat = shrV a n) := shrF_eq a n
  go_enter Tryd.func23, Tryd.ntmps23
  go_wp2
  go_loop [5, 6] (fun x i => ∃ k : Nat, (k : Int) ≤ n % 16 ∧ i = .int .i64 k ∧ x = .int .i64 (shrF a k)) (fun _ i => 16 - (intOf i).toNat)
  case atStart => exact ⟨0, by omega, rfl, rfl⟩
  case round =>
    obtain ⟨k, hk, rfl, rfl⟩ := hrel
    have hbd := (moves_bd a ha ha2 k).2.1
    by_cases hlt : (k : Int) < n % 16
    · go_wp2_with (go_at_call 42; refine (turns_any _ _).mono ?_; rintro e w' ⟨rfl, rfl⟩)
      go_round
      case rel => exact ⟨k + 1, by omega, by go_num, by go_num⟩
      case measure => simp [intOf]; omega
    · go_wp2_with (go_at_call 42; refine (turns_any _ _).mono ?_; rintro e w' ⟨rfl, rfl⟩)
      go_ret
      refine ⟨?_, rfl⟩
      rw [← H.out, show (n % 16).toNat = k by omega]
      rfl
theorem rsar_any (a n : Int) (w : World) (ha : 0 ≤ a) (ha2 : a ≤ 65535) :
    Calls Tryd.prog 25 #[.int .u16 a, .int .i64 n] w fun e w' => e = .returned (.int .u16 (sarV a n)) ∧ w' = w := by
  have H : Hid (sarF a (n % 16).toNat = sarV a n) := sarF_eq a n ha ha2
  go_enter Tryd.func25, Tryd.ntmps25
  go_wp2
  go_loop [5, 6] (fun x i => ∃ k : Nat, (k : Int) ≤ n % 16 ∧ i = .int .i64 k ∧ x = .int .i64 (sarF a k)) (fun _ i => 16 - (intOf i).toNat)
  case atStart => exact ⟨0, by omega, rfl, rfl⟩
  case round =>
    obtain ⟨k, hk, rfl, rfl⟩ := hrel
    have hbd := (moves_bd a ha ha2 k).2.2.1
    by_cases hlt : (k : Int) < n % 16
    · go_wp2_with (go_at_call 42; refine (turns_any _ _).mono ?_; rintro e w' ⟨rfl, rfl⟩)
      go_round
      case rel => exact ⟨k + 1, by omega, by go_num, by go_num⟩
      case measure => simp [intOf]; omega
    · go_wp2_with (go_at_call 42; refine (turns_any _ _).mono ?_; rintro e w' ⟨rfl, rfl⟩)
      go_ret
      refine ⟨?_, rfl⟩
      rw [← H.out, show (n % 16).toNat = k by omega]
      rfl
theorem rrot_any (a n : Int) (w : World) (ha : 0 ≤ a) (ha2 : a ≤ 65535) :
    Calls Tryd.prog 27 #[.int .u16 a, .int .i64 n] w fun e w' => e = .returned (.int .u16 (rotV a n)) ∧ w' = w := by
  have H : Hid (rotF a (n % 16).toNat = rotV a n) := rotF_eq a n ha ha2
  go_enter Tryd.func27, Tryd.ntmps27
  go_wp2
  go_loop [5, 6] (fun x i => ∃ k : Nat, (k : Int) ≤ n % 16 ∧ i = .int .i64 k ∧ x = .int .i64 (rotF a k)) (fun _ i => 16 - (intOf i).toNat)
  case atStart => exact ⟨0, by omega, rfl, rfl⟩
  case round =>
    obtain ⟨k, hk, rfl, rfl⟩ := hrel
    have hbd := (moves_bd a ha ha2 k).2.2.2
    by_cases hlt : (k : Int) < n % 16
    · go_wp2_with (go_at_call 42; refine (turns_any _ _).mono ?_; rintro e w' ⟨rfl, rfl⟩)
      go_round
      case rel => exact ⟨k + 1, by omega, by go_num, by go_num⟩
      case measure => simp [intOf]; omega
    · go_wp2_with (go_at_call 42; refine (turns_any _ _).mono ?_; rintro e w' ⟨rfl, rfl⟩)
      go_ret
      refine ⟨?_, rfl⟩
      rw [← H.out, show (n % 16).toNat = k by omega]
      rfl
theorem ones_any (a : Int) (w : World) (ha : 0 ≤ a) (ha2 : a ≤ 65535) :
    Calls Tryd.prog 28 #[.int .u16 a] w fun e w' => e = .returned (.int .i64 (onesV a)) ∧ w' = w := by
  have H : Hid (onesP a 16 = onesV a) := onesP_eq a
  go_enter Tryd.func28, Tryd.ntmps28
  go_wp2
  go_loop [3, 5] (fun x i => ∃ k : Nat, k ≤ 16 ∧ i = .int .i64 k ∧ x = .int .i64 (onesP a k)) (fun _ i => 16 - (intOf i).toNat)
  case atStart => exact ⟨0, by omega, rfl, rfl⟩
  case round =>
    obtain ⟨k, hk, rfl, rfl⟩ := hrel
    have hbd := onesP_bd a k
    have hd : 0 ≤ a / 2 ^ k := Int.ediv_nonneg ha (Int.le_of_lt (Int.pow_pos (by decide)))
    have hd2 : a / 2 ^ k ≤ a := Int.ediv_le_self _ ha
    have hand := and1w (a / 2 ^ k) hd (by omega)
    have hm := Int.emod_nonneg (a / 2 ^ k) (by decide : (2 : Int) ≠ 0)
    have hm2 := Int.emod_lt_of_pos (a / 2 ^ k) (by decide : (0 : Int) < 2)
    by_cases hlt : k < 16
    · go_wp2
      go_round
      case rel => exact ⟨k + 1, by omega, by go_num, by go_num⟩
      case measure => simp [intOf]; omega
    · go_wp2
      go_ret
      refine ⟨?_, rfl⟩
      rw [← H.out, show 16 = k by omega]
      rfl
theorem rones_any (a : Int) (w : World) (ha : 0 ≤ a) (ha2 : a ≤ 65535) :
    Calls Tryd.prog 29 #[.int .u16 a] w fun e w' => e = .returned (.int .i64 (onesV a)) ∧ w' = w := by
  go_enter Tryd.func29, Tryd.ntmps29
  go_wp2
  go_loop [3, 4] (fun n t => ∃ (f : Nat) (x m : Int), f ≤ 16 ∧ 0 ≤ x ∧ x < 2 ^ f ∧ 0 ≤ m ∧ m + onesF f x = onesV a ∧ m ≤ 16 ∧ t = .int .i64 x ∧ n = .int .i64 m) (fun _ t => (intOf t).toNat)
  case atStart => exact ⟨16, a, 0, by omega, ha, by omega, by omega, by simp [onesV], by omega, rfl, rfl⟩
  case round =>
    obtain ⟨f, x, m, hf, hx, hx2, hm, hs, hm2, rfl, rfl⟩ := hrel
    have hb16 : x < 65536 := Int.lt_of_lt_of_le hx2 (pow16 f (by omega))
    have HS : Hid (m + onesF f x = onesV a ∧ x < 2 ^ f) := ⟨hs, hx2⟩
    clear hs hx2
    by_cases hlt : 0 < x
    · go_wp2
      go_round
      case rel =>
        obtain ⟨hs, hx2⟩ := HS.out
        cases f with
        | zero => simp at hx2; omega
        | succ f =>
          simp only [onesF] at hs
          have hbf := onesF_bd f (x / 2)
          have hbo := (onesF_bd 16 a).2
          refine ⟨f, x / 2, m + x % 2, by omega, by omega, ?_, by omega, by omega, by unfold onesV at hs; omega, by go_num, by go_num⟩
          rw [Int.pow_succ] at hx2; omega
      case measure => simp [intOf]; omega
    · have hx0 : x = 0 := by omega
      subst hx0
      have HE : Hid (m = onesV a) := by have := HS.out.1; rw [onesF_zero] at this; show _ = _; omega
      go_wp2
      go_ret
      refine ⟨?_, rfl⟩
      rw [← HE.out]
      rfl
theorem from_yes (n : Int) (w : World) (h : -32768 ≤ n) (h2 : n ≤ 65535) :
    Calls Tryd.prog 30 #[.int .i64 n] w fun e w' => e = .returned (.tuple #[.int .u16 (n % 65536), .bool true]) ∧ w' = w := by
  have H : Hid (IntKind.u16.wrap n = n % 65536) := u16w n
  go_enter Tryd.func30, Tryd.ntmps30
  go_wp2
  go_ret2
  refine ⟨?_, rfl⟩
  rw [← H.out]
  rfl
theorem from_no (n : Int) (w : World) (h : n < -32768 ∨ 65535 < n) :
    Calls Tryd.prog 30 #[.int .i64 n] w fun e w' => e = .returned (.tuple #[.int .u16 0, .bool false]) ∧ w' = w := by
  rcases h with h | h <;> (go_enter Tryd.func30, Tryd.ntmps30; go_wp2; go_ret2; exact ⟨rfl, rfl⟩)
theorem rfrom_yes (n : Int) (w : World) (h : -32768 ≤ n) (h2 : n ≤ 65535) :
    Calls Tryd.prog 31 #[.int .i64 n] w fun e w' => e = .returned (.tuple #[.int .u16 (n % 65536), .bool true]) ∧ w' = w := by
  by_cases h0 : n < 0
  · have H : Hid (n + 65536 = n % 65536) := by show _ = _; omega
    go_enter Tryd.func31, Tryd.ntmps31
    go_wp2
    go_ret2
    refine ⟨?_, rfl⟩
    rw [← H.out]
    rfl
  · have H : Hid (n = n % 65536) := by show _ = _; omega
    go_enter Tryd.func31, Tryd.ntmps31
    go_wp2
    go_ret2
    refine ⟨?_, rfl⟩
    show Ending.returned (.tuple #[.int .u16 n, .bool true]) = _
    exact ret1 (congrArg (fun z => Value.tuple #[.int .u16 z, .bool true]) H.out)
theorem rfrom_no (n : Int) (w : World) (h : n < -32768 ∨ 65535 < n) :
    Calls Tryd.prog 31 #[.int .i64 n] w fun e w' => e = .returned (.tuple #[.int .u16 0, .bool false]) ∧ w' = w := by
  rcases h with h | h <;> (go_enter Tryd.func31, Tryd.ntmps31; go_wp2; go_ret2; exact ⟨rfl, rfl⟩)
theorem signed_any (a : Int) (w : World) (ha : 0 ≤ a) (ha2 : a ≤ 65535) :
    Calls Tryd.prog 33 #[.int .u16 a] w fun e w' => e = .returned (.int .i64 (signedV a)) ∧ w' = w := by
  have H : Hid (wrap64 (IntKind.i16.wrap a) = signedV a) := by show _ = _; unfold signedV; rw [i16w, Int.emod_eq_of_lt ha (by omega)]; unfold wrap64; split <;> omega
  go_enter Tryd.func33, Tryd.ntmps33
  go_wp2
  go_ret
  refine ⟨?_, rfl⟩
  rw [← H.out]
  rfl
theorem rsigned_any (a : Int) (w : World) (ha : 0 ≤ a) (ha2 : a ≤ 65535) :
    Calls Tryd.prog 34 #[.int .u16 a] w fun e w' => e = .returned (.int .i64 (signedV a)) ∧ w' = w := by
  unfold signedV
  by_cases h : 32768 ≤ a
  · rw [if_pos h]
    go_enter Tryd.func34, Tryd.ntmps34
    go_wp2
    go_ret
    exact ⟨rfl, rfl⟩
  · rw [if_neg h]
    go_enter Tryd.func34, Tryd.ntmps34
    go_wp2
    go_ret
    exact ⟨rfl, rfl⟩
theorem bytes_any (a : Int) (w : World) (ha : 0 ≤ a) (ha2 : a ≤ 65535) :
    Calls Tryd.prog 32 #[.int .u16 a] w fun e w' => e = .returned (.agg #[.int .u8 (a / 256), .int .u8 (a % 256)]) ∧ Below w.heap.size w w' := by
  go_enter Tryd.func32, Tryd.ntmps32
  go_wp2
  exact bodyPost_ret (v := .agg #[.int .u8 (a / 256), .int .u8 (a % 256)]) (by simp [results, Tryd.results32, go_sem]) rfl ⟨rfl, (Below.refl _ _).alloc (Nat.le_refl _) _⟩
theorem rbytes_any (a : Int) (w : World) (ha : 0 ≤ a) (ha2 : a ≤ 65535) :
    Calls Tryd.prog 35 #[.int .u16 a] w fun e w' => e = .returned (.agg #[.int .u8 (a / 256), .int .u8 (a % 256)]) ∧ Below w.heap.size w w' := by
  go_enter Tryd.func35, Tryd.ntmps35
  go_wp2
  exact bodyPost_ret (v := .agg #[.int .u8 (a / 256), .int .u8 (a % 256)]) (by simp [results, Tryd.results35, go_sem]) rfl ⟨rfl, (Below.refl _ _).alloc (Nat.le_refl _) _⟩
theorem join_any (h l : Int) (w : World) (ha : 0 ≤ h) (ha2 : h ≤ 255) (hb : 0 ≤ l) (hb2 : l ≤ 255) :
    Calls Tryd.prog 38 #[.int .u8 h, .int .u8 l] w fun e w' => e = .returned (.int .u16 (h * 256 + l)) ∧ w' = w := by
  have H : Hid (bits BinOp.or IntKind.u16 (h * 256) l = h * 256 + l) :=
    bits_join .u16 16 (by decide) (fun n g1 g2 => by rw [u16w]; omega) 8 _ _ (by omega) (by omega) (by omega) hb (by omega) (by omega)
  go_enter Tryd.func38, Tryd.ntmps38
  go_wp2
  go_ret
  refine ⟨?_, rfl⟩
  rw [← H.out]
  rfl
end Go.Proofs.YtghbmgionmlejaaDoor
