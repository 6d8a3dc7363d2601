/- The document's own reading of digits; the law WordParses. -/
import Derived.Test.YteoappoacapdhaaDoorRefS
import Derived.Test.YteoappoacapdhaaDoorLive
namespace Go.Proofs.YteoappoacapdhaaDoor
open Go.RowKit
set_option linter.unusedVariables false

theorem dig_rdig (b : UInt8) : (48 ≤ b.toNat ∧ b.toNat ≤ 57 → rdig b = (b.toNat : Int) - 48) ∧ (¬ (48 ≤ b.toNat ∧ b.toNat ≤ 57) → 9 < rdig b) := by
  unfold rdig hexN
  refine ⟨fun h => by rw [if_pos h]; rfl, fun h => ?_⟩
  rw [if_neg h]
  split
  · simp; omega
  · simp

def capO (o : Option Int) : Option Int := match o with
  | some m => if m ≤ 65535 then some m else none
  | none => none
def ncapO (o : Option Int) : Option Int := match o with
  | some m => if m ≤ 65535 then some (-m) else none
  | none => none
theorem digL_cap (l : List UInt8) : digL l 0 = capO (decL l 0) := digL_dec l 0 (by omega) (by omega)

set_option maxHeartbeats 4000000 in
set_option maxRecDepth 100000 in
theorem rparse_minus (s : ByteArray) (w : World) (hp : 0 < s.size) (h6 : s.size ≤ 6) (h : s[0].toNat = 45) (R : Option Int) (HR : Hid (R = minO (digO (s.data.toList.drop 1)))) :
    Calls Tryd.prog 47 #[.string s] w fun e w' => e = .returned (.tuple #[.int .u16 (wordO R), .int .i64 (errO R)]) ∧ Below w.heap.size w w' := by
  have h0 : ((s.size : Int) == 0) = false := by rw [beq_eq_false_iff_ne]; omega
  have h6' : ¬ 6 < (s.size : Int) := by omega
  have hp' : (0 : Int) < (s.size : Int) := by omega
  have hz : (s[0].toNat : Int) = 45 := by omega
  have hl1 : (1 : Int) ≤ (s.size : Int) := by omega
  have hT0 : (s.extract 1 s.size).data.toList = s.data.toList.drop 1 := tail_of s
  have hTs : (s.extract 1 s.size).size = s.size - 1 := by rw [Lib.size_eq, hT0, List.length_drop, ← Lib.size_eq]
  obtain ⟨T, hE⟩ : ∃ T, s.extract 1 s.size = T := ⟨_, rfl⟩
  rw [hE] at hT0 hTs
  have hq : (s.toList == [48]) = false := by
    rw [beq_eq_false_iff_ne, Lib.toList_data, head_at s hp]
    intro e
    have := (List.cons.inj e).1
    rw [this] at h
    exact absurd h (by decide)
  have hTn : (T.toList == s.toList) = false := by
    rw [beq_eq_false_iff_ne, Lib.toList_data, Lib.toList_data]
    intro e
    have := congrArg List.length e
    rw [← Lib.size_eq, ← Lib.size_eq] at this
    omega
  have HL : Hid (R = minO (digO T.data.toList) ∧ T.size = s.size - 1) := ⟨by rw [hT0]; exact HR.out, hTs⟩
  have h5 : ¬ 5 < (T.size : Int) := by omega
  clear HR hT0
  by_cases g0 : T.size = 0
  · have hR : R = none := by
      rw [HL.out.1, List.eq_nil_of_length_eq_zero (by rw [← Lib.size_eq]; exact g0 : T.data.toList.length = 0)]
      rfl
    subst hR
    have g0' : (T.size : Int) = 0 := by omega
    clear HL hTn hTs g0
    go_enter Tryd.func47, Tryd.ntmps47
    go_wp2
    go_ret2
    exact ⟨rfl, Below.refl _ _⟩
  have gp : 0 < T.size := by omega
  have gp' : (0 : Int) < (T.size : Int) := by omega
  have g0' : ((T.size : Int) == 0) = false := by rw [beq_eq_false_iff_ne]; omega
  have hTl := head_at T gp
  by_cases g48 : T[0].toNat = 48
  · have hR : R = none := by
      rw [HL.out.1]
      have e48 : T[0] = 48 := u8_eq _ _ g48
      rw [e48] at hTl
      by_cases g1 : T.size = 1
      · have : T.data.toList.drop 1 = [] := List.eq_nil_of_length_eq_zero (by rw [List.length_drop, ← Lib.size_eq]; omega)
        rw [hTl, this]; rfl
      · have : digO T.data.toList = none := by
          unfold digO; rw [if_pos (Or.inr ⟨by rw [hTl]; rfl, by rw [← Lib.size_eq]; omega⟩)]
        rw [this]; rfl
    subst hR
    have g48' : (T[0].toNat : Int) = 48 := by omega
    clear HL hTn hTs g0 hTl g48
    go_enter Tryd.func47, Tryd.ntmps47
    go_wp2
    go_ret2
    exact ⟨rfl, Below.refl _ _⟩
  have g48' : ((T[0].toNat : Int) == 48) = false := by rw [beq_eq_false_iff_ne]; omega
  obtain ⟨O, hO⟩ : ∃ O, decL T.data.toList 0 = O := ⟨_, rfl⟩
  have HQ : Hid (R = ncapO O ∧ ∀ m, O = some m → 1 ≤ m ∧ m < 100000) := by
    have hd : digO T.data.toList = digL T.data.toList 0 := by
      unfold digO; rw [if_neg]
      rintro (g | ⟨g, _⟩)
      · rw [hTl] at g; cases g
      · rw [hTl] at g; simp at g; rw [g] at g48; exact g48 rfl
    have hm : ∀ m, O = some m → 1 ≤ m ∧ m < 100000 := by
      intro m e
      rw [e] at hO
      have hlt := decL_lt _ 0 m (by omega) hO
      rw [← Lib.size_eq] at hlt
      have h10 : ∀ j : Nat, j < 6 → (10 : Int) ^ j ≤ 100000 := by decide
      have := h10 T.size (by omega)
      refine ⟨?_, by omega⟩
      rw [hTl] at hO
      simp only [decL] at hO
      split at hO
      · have hg := decL_ge _ _ m (by omega) hO; omega
      · cases hO
    refine ⟨?_, hm⟩
    rw [HL.out.1, hd, digL_cap, hO]
    cases O with
    | none => rfl
    | some m =>
      have := (hm m rfl).1
      show minO (if m ≤ 65535 then some m else none) = if m ≤ 65535 then some (-m) else none
      split
      · simp only [minO]; rw [if_pos (by omega)]
      · rfl
  have HO : Hid (decL T.data.toList 0 = O) := hO
  clear HL hTs g0 hTl g48 hO
  go_enter Tryd.func47, Tryd.ntmps47
  go_wp2
  go_loop [9, 10] (fun n i => ∃ (k : Nat) (acc : Int), k ≤ T.size ∧ i = .int .i64 k ∧ n = .int .i64 acc ∧ 0 ≤ acc ∧ acc < 10 ^ k ∧ decL (T.data.toList.drop k) acc = O) (fun _ i => T.size - (intOf i).toNat)
  case atStart => exact ⟨0, 0, by omega, rfl, rfl, by omega, by decide, HO.out⟩
  case round =>
    obtain ⟨k, acc, hk, rfl, rfl, ha, ha2, hd⟩ := hrel
    have hacc : acc < 100000 := by
      have : ∀ j : Nat, j < 6 → (10 : Int) ^ j ≤ 100000 := by decide
      have := this k (by omega)
      omega
    by_cases hlt : k < T.size
    · have hlt' : (k : Int) < (T.size : Int) := by omega
      rw [drop_at T k hlt] at hd
      have cD := fun w => rdigit_any (T[k]'hlt) w
      by_cases hdg : 48 ≤ (T[k]'hlt).toNat ∧ (T[k]'hlt).toNat ≤ 57
      · have e := (dig_rdig (T[k]'hlt)).1 hdg
        rw [e] at cD
        simp only [decL] at hd
        rw [if_pos hdg] at hd
        have HD : Hid (decL (List.drop (k + 1) T.data.toList) (acc * 10 + (((T[k]'hlt).toNat : Int) - 48)) = O ∧ acc < 10 ^ k) := ⟨hd, ha2⟩
        obtain ⟨q1, q2⟩ := hdg
        clear hd HO e ha2 HQ
        go_wp2_with (go_at_call 52; refine (cD _).mono ?_; rintro e w' ⟨rfl, rfl⟩)
        go_round
        case rel =>
          refine ⟨k + 1, acc * 10 + (((T[k]'hlt).toNat : Int) - 48), by omega, by go_num, by go_num, by omega, ?_, HD.out.1⟩
          have := HD.out.2
          rw [Int.pow_succ]
          omega
        case measure => simp [intOf]; omega
      · have e := (dig_rdig (T[k]'hlt)).2 hdg
        simp only [decL] at hd
        rw [if_neg hdg] at hd
        generalize rdig (T[k]'hlt) = rd at *
        have hR : R = none := by rw [HQ.out.1, ← hd]; rfl
        subst hR
        clear HQ HO hd ha2 hdg
        go_wp2_with (go_at_call 52; refine (cD _).mono ?_; rintro e w' ⟨rfl, rfl⟩)
        go_ret2
        exact ⟨rfl, Below.refl _ _⟩
    · rw [List.drop_eq_nil_of_le (by simp; omega)] at hd
      simp only [decL] at hd
      have hlt' : ¬ (k : Int) < (T.size : Int) := by omega
      have hm := HQ.out.2 acc hd.symm
      have hR : R = if acc ≤ 65535 then some (-acc) else none := by rw [HQ.out.1, ← hd]; rfl
      by_cases g : acc ≤ 32768
      · rw [if_pos (by omega)] at hR
        have HW : Hid (wordO (some (-acc)) = -acc % 65536 ∧ errO (some (-acc)) = 0) := by
          simp only [wordO, errO]
          rw [if_pos (by omega), if_pos (by omega)]
          exact ⟨rfl, rfl⟩
        subst hR
        have cF := fun w => rfrom_yes (-acc) w (by omega) (by omega)
        clear HQ HO ha2 hd
        go_wp2_with (go_at_call 54; refine (cF _).mono ?_; rintro e w' ⟨rfl, rfl⟩)
        go_ret2
        refine ⟨?_, Below.refl _ _⟩
        rw [HW.out.1, HW.out.2]
        rfl
      · have HW : Hid (wordO R = 0 ∧ errO R = 3) := by
          rw [hR]
          split
          · simp only [wordO, errO]
            rw [if_neg (by omega), if_neg (by omega)]
            exact ⟨rfl, rfl⟩
          · exact ⟨rfl, rfl⟩
        have cF := fun w => rfrom_no (-acc) w (by omega)
        clear HQ HO ha2 hd hR
        go_wp2_with (go_at_call 54; refine (cF _).mono ?_; rintro e w' ⟨rfl, rfl⟩)
        go_ret2
        refine ⟨?_, Below.refl _ _⟩
        rw [HW.out.1, HW.out.2]
        rfl
set_option maxHeartbeats 4000000 in
set_option maxRecDepth 100000 in
theorem rparse_plain (s : ByteArray) (w : World) (hp : 0 < s.size) (h6 : s.size ≤ 6) (h39 : s[0].toNat ≠ 39) (h45 : s[0].toNat ≠ 45) (h120 : s[0].toNat ≠ 120) (R : Option Int) (HR : Hid (R = digO s.data.toList)) :
    Calls Tryd.prog 47 #[.string s] w fun e w' => e = .returned (.tuple #[.int .u16 (wordO R), .int .i64 (errO R)]) ∧ Below w.heap.size w w' := by
  have h0 : ((s.size : Int) == 0) = false := by rw [beq_eq_false_iff_ne]; omega
  have h6' : ¬ 6 < (s.size : Int) := by omega
  have hp' : (0 : Int) < (s.size : Int) := by omega
  have z1 : ((s[0].toNat : Int) == 39) = false := by rw [beq_eq_false_iff_ne]; omega
  have z2 : ((s[0].toNat : Int) == 45) = false := by rw [beq_eq_false_iff_ne]; omega
  have z3 : ((s[0].toNat : Int) == 120) = false := by rw [beq_eq_false_iff_ne]; omega
  clear h39 h45 h120
  have hTl := head_at s hp
  by_cases g5 : 5 < s.size
  · have hR : R = none := by rw [HR.out]; exact digO_long _ (by rw [← Lib.size_eq]; omega)
    subst hR
    have h5 : 5 < (s.size : Int) := by omega
    clear HR hTl
    go_enter Tryd.func47, Tryd.ntmps47
    go_wp2
    go_ret2
    exact ⟨rfl, Below.refl _ _⟩
  have h5 : ¬ 5 < (s.size : Int) := by omega
  by_cases g48 : s[0].toNat = 48 ∧ s.size ≠ 1
  · have e48 : s[0] = 48 := u8_eq _ _ g48.1
    have hR : R = none := by
      rw [HR.out]
      unfold digO; rw [if_pos (Or.inr ⟨by rw [hTl, e48]; rfl, by rw [← Lib.size_eq]; omega⟩)]
    subst hR
    have g48' : (s[0].toNat : Int) = 48 := by omega
    have hq : (s.toList == [48]) = false := by
      rw [beq_eq_false_iff_ne, Lib.toList_data]
      intro e
      have := congrArg List.length e
      rw [← Lib.size_eq] at this
      exact g48.2 this
    clear HR hTl g48 e48
    go_enter Tryd.func47, Tryd.ntmps47
    go_wp2
    go_ret2
    exact ⟨rfl, Below.refl _ _⟩
  have g48' : (((s[0].toNat : Int) == 48) = false) ∨ (((s[0].toNat : Int) == 48) = true ∧ (s.toList == [48]) = true) := by
    by_cases g : s[0].toNat = 48
    · refine Or.inr ⟨by rw [g]; rfl, ?_⟩
      have g1 : s.size = 1 := by omega
      have : s.data.toList.drop 1 = [] := List.eq_nil_of_length_eq_zero (by rw [List.length_drop, ← Lib.size_eq]; omega)
      rw [Lib.toList_data, hTl, this, u8_eq s[0] 48 g]
      rfl
    · exact Or.inl (by rw [beq_eq_false_iff_ne]; omega)
  have hTn : (s.toList == s.toList) = true := beq_self_eq_true _
  obtain ⟨O, hO⟩ : ∃ O, decL s.data.toList 0 = O := ⟨_, rfl⟩
  have HQ : Hid (R = capO O ∧ ∀ m, O = some m → 0 ≤ m ∧ m < 100000) := by
    have hd : digO s.data.toList = digL s.data.toList 0 := by
      unfold digO; rw [if_neg]
      rintro (g | ⟨g, g2⟩)
      · rw [hTl] at g; cases g
      · rw [hTl] at g; simp at g; rw [← Lib.size_eq] at g2
        exact g48 ⟨by rw [g]; rfl, by omega⟩
    have hm : ∀ m, O = some m → 0 ≤ m ∧ m < 100000 := by
      intro m e
      rw [e] at hO
      have hlt := decL_lt _ 0 m (by omega) hO
      have hg := decL_ge _ _ m (by omega) hO
      rw [← Lib.size_eq] at hlt
      have h10 : ∀ j : Nat, j < 6 → (10 : Int) ^ j ≤ 100000 := by decide
      have := h10 s.size (by omega)
      exact ⟨hg, by omega⟩
    refine ⟨?_, hm⟩
    rw [HR.out, hd, digL_cap, hO]
  have HO : Hid (decL s.data.toList 0 = O) := hO
  clear HR hTl g48 hO
  rcases g48' with g48' | ⟨g48', hq⟩
  all_goals
    go_enter Tryd.func47, Tryd.ntmps47
    go_wp2
    go_loop [9, 10] (fun n i => ∃ (k : Nat) (acc : Int), k ≤ s.size ∧ i = .int .i64 k ∧ n = .int .i64 acc ∧ 0 ≤ acc ∧ acc < 10 ^ k ∧ decL (s.data.toList.drop k) acc = O) (fun _ i => s.size - (intOf i).toNat)
    case atStart => exact ⟨0, 0, by omega, rfl, rfl, by omega, by decide, HO.out⟩
    case round =>
      obtain ⟨k, acc, hk, rfl, rfl, ha, ha2, hd⟩ := hrel
      have hacc : acc < 100000 := by
        have : ∀ j : Nat, j < 6 → (10 : Int) ^ j ≤ 100000 := by decide
        have := this k (by omega)
        omega
      by_cases hlt : k < s.size
      · have hlt' : (k : Int) < (s.size : Int) := by omega
        rw [drop_at s k hlt] at hd
        have cD := fun w => rdigit_any (s[k]'hlt) w
        by_cases hdg : 48 ≤ (s[k]'hlt).toNat ∧ (s[k]'hlt).toNat ≤ 57
        · have e := (dig_rdig (s[k]'hlt)).1 hdg
          rw [e] at cD
          simp only [decL] at hd
          rw [if_pos hdg] at hd
          have HD : Hid (decL (List.drop (k + 1) s.data.toList) (acc * 10 + (((s[k]'hlt).toNat : Int) - 48)) = O ∧ acc < 10 ^ k) := ⟨hd, ha2⟩
          obtain ⟨q1, q2⟩ := hdg
          clear hd HO e ha2 HQ
          go_wp2_with (go_at_call 52; refine (cD _).mono ?_; rintro e w' ⟨rfl, rfl⟩)
          go_round
          case rel =>
            refine ⟨k + 1, acc * 10 + (((s[k]'hlt).toNat : Int) - 48), by omega, by go_num, by go_num, by omega, ?_, HD.out.1⟩
            have := HD.out.2
            rw [Int.pow_succ]
            omega
          case measure => simp [intOf]; omega
        · have e := (dig_rdig (s[k]'hlt)).2 hdg
          simp only [decL] at hd
          rw [if_neg hdg] at hd
          generalize rdig (s[k]'hlt) = rd at *
          have hR : R = none := by rw [HQ.out.1, ← hd]; rfl
          subst hR
          clear HQ HO hd ha2 hdg
          go_wp2_with (go_at_call 52; refine (cD _).mono ?_; rintro e w' ⟨rfl, rfl⟩)
          go_ret2
          exact ⟨rfl, Below.refl _ _⟩
      · rw [List.drop_eq_nil_of_le (by simp; omega)] at hd
        simp only [decL] at hd
        have hlt' : ¬ (k : Int) < (s.size : Int) := by omega
        have hm := HQ.out.2 acc hd.symm
        have hR : R = if acc ≤ 65535 then some acc else none := by rw [HQ.out.1, ← hd]; rfl
        by_cases g : acc ≤ 65535
        · rw [if_pos g] at hR
          have HW : Hid (wordO (some acc) = acc % 65536 ∧ errO (some acc) = 0) := by
            simp only [wordO, errO]
            rw [if_pos (by omega), if_pos (by omega)]
            exact ⟨rfl, rfl⟩
          subst hR
          have cF := fun w => rfrom_yes acc w (by omega) (by omega)
          clear HQ HO ha2 hd
          go_wp2_with (go_at_call 54; refine (cF _).mono ?_; rintro e w' ⟨rfl, rfl⟩)
          go_ret2
          refine ⟨?_, Below.refl _ _⟩
          rw [HW.out.1, HW.out.2]
          rfl
        · rw [if_neg g] at hR
          subst hR
          have cF := fun w => rfrom_no acc w (by omega)
          clear HQ HO ha2 hd
          go_wp2_with (go_at_call 54; refine (cF _).mono ?_; rintro e w' ⟨rfl, rfl⟩)
          go_ret2
          exact ⟨rfl, Below.refl _ _⟩
end Go.Proofs.YteoappoacapdhaaDoor
