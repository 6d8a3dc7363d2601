/- Sets of numbers as bits: of, has, size. -/
import Derived.Test.YtedknoadcdnioaaGen
import Derived.Test.YtedknoadcdnioaaNameG
import Derived.Laws.Bits64b
namespace Go.Proofs.Ytedknoadcdnioaa
open Go.RowKit Go.Maps
set_option linter.unusedVariables false
set_option maxRecDepth 100000
theorem pow_lt64 (e : Nat) (he : e < 64) : 2 ^ e < 18446744073709551616 := by
  have := Nat.pow_lt_pow_right (a := 2) (by omega) he
  omega
theorem wrap_pow (e : Nat) (he : e < 64) : IntKind.u64.wrap ((2 : Int) ^ e) = ((2 ^ e : Nat) : Int) := by
  have h1 := pow_lt64 e he
  have h2 : (2 : Int) ^ e = ((2 ^ e : Nat) : Int) := by rw [Int.natCast_pow]; rfl
  rw [h2]
  generalize 2 ^ e = p at *
  rw [IntKind.wrap_u64]
  omega
set_option maxHeartbeats 1000000 in
theorem of_any (e : Nat) (he : e < 64) (w : World) : Calls Try.prog 25 #[.int .u8 e] w fun r w' => r = .returned (.int .u64 ((2 ^ e : Nat) : Int)) ∧ w' = w := by
  have hw := wrap_pow e he
  go_enter Try.func25, Try.ntmps25
  go_wp2
  go_ret
  exact ⟨by simp [Int.natCast_pow], rfl⟩
theorem and_two (s e : Nat) : s &&& 2 ^ e = if s.testBit e then 2 ^ e else 0 := by
  apply Nat.eq_of_testBit_eq
  intro i
  rw [Nat.testBit_and, Nat.testBit_two_pow]
  by_cases h : e = i
  · subst h
    cases hb : s.testBit e with
    | true => simp
    | false => simp
  · cases hb : s.testBit e with
    | true => simp [h]
    | false => simp [h]
theorem and_pow (s e : Nat) : (((s &&& 2 ^ e : Nat) : Int) != 0) = s.testBit e := by
  rw [and_two]
  have : 0 < 2 ^ e := Nat.two_pow_pos e
  cases s.testBit e with
  | false => rfl
  | true =>
    rw [if_pos rfl]
    generalize 2 ^ e = p at *
    simp
    omega
def powZ (e : Nat) : Nat := if e < 64 then 2 ^ e else 0
theorem powZ_lt (e : Nat) : powZ e < 18446744073709551616 := by
  unfold powZ
  split
  · exact pow_lt64 e (by assumption)
  · omega
set_option maxHeartbeats 1000000 in
theorem of_all (e : Nat) (w : World) : Calls Try.prog 25 #[.int .u8 e] w fun r w' => r = .returned (.int .u64 (powZ e)) ∧ w' = w := by
  by_cases he : e < 64
  · have := of_any e he w
    unfold powZ
    rw [if_pos he]
    exact this
  · have hmin : min e 64 = 64 := by omega
    have hz : powZ e = 0 := by unfold powZ; rw [if_neg he]
    rw [hz]
    clear hz
    go_enter Try.func25, Try.ntmps25
    go_wp2
    go_ret
    exact ⟨by simp; decide, rfl⟩
theorem and_powZ (s e : Nat) (hs : s < 18446744073709551616) : (((s &&& powZ e : Nat) : Int) != 0) = s.testBit e := by
  unfold powZ
  by_cases he : e < 64
  · rw [if_pos he]
    exact and_pow s e
  · rw [if_neg he, Nat.and_zero]
    have : s.testBit e = false := Nat.testBit_lt_two_pow (Nat.lt_of_lt_of_le (show s < 2 ^ 64 by omega) (Nat.pow_le_pow_right (by omega) (by omega)))
    rw [this]
    rfl
set_option maxHeartbeats 1000000 in
theorem has_all (s e : Nat) (hs : s < 18446744073709551616) (w : World) : Calls Try.prog 37 #[.int .u64 s, .int .u8 e] w fun r w' => r = .returned (.bool (s.testBit e)) ∧ w' = w := by
  have cO := of_all e w
  have ha := bits_and_u64_nat s (powZ e) hs (powZ_lt e)
  have hz := and_powZ s e hs
  generalize powZ e = pw at *
  generalize s &&& pw = sa at *
  generalize s.testBit e = tb at *
  go_enter Try.func37, Try.ntmps37
  go_wp2_with fail
  refine cO.mono ?_
  rintro r w' ⟨rfl, rfl⟩
  clear cO
  go_wp2
  go_ret
  exact ⟨by simp, rfl⟩
/-- How many of the bits below 9 are there. -/
def pop9 (s : Nat) : Nat := ((List.range 9).filter fun i => s.testBit i).length
set_option maxHeartbeats 2000000 in
theorem ones_any (s : Nat) (hs : s < 512) (w : World) : Calls Try.prog 38 #[.int .u64 s] w fun r w' => r = .returned (.int .i64 (pop9 s)) ∧ w' = w := by
  go_enter Try.func38, Try.ntmps38
  go_wp2
  go_ret
  refine ⟨congrArg (fun x => Ending.returned (Value.int IntKind.i64 x)) ?_, rfl⟩
  revert hs
  revert s
  decide +kernel
theorem size_any (s : Nat) (hs : s < 512) (w : World) : Calls Try.prog 24 #[.int .u64 s] w fun r w' => r = .returned (.int .i64 (pop9 s)) ∧ w' = w := by
  have cO := ones_any s hs w
  generalize (pop9 s : Int) = z at *
  go_enter Try.func24, Try.ntmps24
  go_wp2_with fail
  refine cO.mono ?_
  rintro r w' ⟨rfl, rfl⟩
  clear cO
  go_wp2
  go_ret
  exact ⟨rfl, rfl⟩
end Go.Proofs.Ytedknoadcdnioaa
