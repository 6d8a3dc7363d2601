/- A nil area. -/
import Derived.Test.YtgoofonogdhhoaaArZ
namespace Go.Proofs.Ytgoofonogdhhoaa
open Go.RowKit Go.Maps
set_option linter.unusedVariables false
set_option maxRecDepth 100000
set_option maxHeartbeats 1000000 in
theorem nthere (k : Int) (w : World) : Calls Try.prog 33 #[.pointer none, .int .u8 k] w fun r w' => r = .returned (.int .i64 1) ∧ w' = w := by
  go_enter Try.func33, Try.ntmps33
  go_wp2
  go_ret
  exact ⟨rfl, rfl⟩
set_option maxHeartbeats 1000000 in
theorem nwhere (k : Int) (w : World) : Calls Try.prog 14 #[.pointer none, .int .u8 k] w fun r w' => r = .returned (.tuple #[.int .u16 0, .bool false]) ∧ w' = w := by
  have cT := nthere k w
  go_enter Try.func14, Try.ntmps14
  go_wp2_with fail
  refine cT.mono ?_
  rintro r W ⟨rfl, rfl⟩
  go_wp2
  go_ret2
  exact ⟨rfl, rfl⟩
set_option maxHeartbeats 1000000 in
theorem nentry (k v : Int) (w : World) : Calls Try.prog 20 #[.pointer none, .int .u8 k, .int .u16 v] w fun r w' => r = .returned (.int .i64 1) ∧ w' = w := by
  have cT := nthere k w
  go_enter Try.func20, Try.ntmps20
  go_wp2_with fail
  refine cT.mono ?_
  rintro r W ⟨rfl, rfl⟩
  go_wp2
  go_ret
  exact ⟨rfl, rfl⟩
set_option maxHeartbeats 1000000 in
theorem nready (k : Int) (w : World) : Calls Try.prog 34 #[.pointer none, .int .u8 k] w fun r w' => r = .returned (.int .i64 1) ∧ w' = w := by
  have cT := nthere k w
  go_enter Try.func34, Try.ntmps34
  go_wp2_with fail
  refine cT.mono ?_
  rintro r W ⟨rfl, rfl⟩
  go_wp2
  go_ret
  exact ⟨rfl, rfl⟩
set_option maxHeartbeats 1000000 in
theorem nliving (w : World) : Calls Try.prog 38 #[.pointer none] w fun r w' => r = .returned (.int .i64 1) ∧ w' = w := by
  go_enter Try.func38, Try.ntmps38
  go_wp2
  go_ret
  exact ⟨rfl, rfl⟩
set_option maxHeartbeats 1000000 in
theorem nup (k v : Int) (w : World) : Calls Try.prog 15 #[.pointer none, .int .u8 k, .int .u16 v] w fun r w' => r = .returned (.int .i64 1) ∧ Below w.heap.size w w' := by
  have hX := below_new w (.cells #[.pointer none] 28)
  have cR := nready k (w.alloc (.cells #[.pointer none] 28))
  go_enter_defers Try.func15, Try.ntmps15
  go_wp2_with fail
  refine cR.mono ?_
  rintro r W ⟨rfl, rfl⟩
  go_wp2
  exact ⟨_, results_tmp rfl _ _ _, rfl, hX⟩
set_option maxHeartbeats 1000000 in
theorem nret (w : World) : Calls Try.prog 18 #[.pointer none] w fun r w' => r = .returned (.int .i64 1) ∧ w' = w := by
  have cT := nliving w
  go_enter Try.func18, Try.ntmps18
  go_wp2_with fail
  refine cT.mono ?_
  rintro r W ⟨rfl, rfl⟩
  go_wp2
  go_ret
  exact ⟨rfl, rfl⟩
set_option maxHeartbeats 1000000 in
theorem nkill (w : World) : Calls Try.prog 19 #[.pointer none] w fun r w' => r = .returned (.int .i64 1) ∧ w' = w := by
  have cT := nliving w
  go_enter Try.func19, Try.ntmps19
  go_wp2_with fail
  refine cT.mono ?_
  rintro r W ⟨rfl, rfl⟩
  go_wp2
  go_ret
  exact ⟨rfl, rfl⟩
set_option maxHeartbeats 1000000 in
theorem nset (s : Rg) (w : World) : Calls Try.prog 17 #[.pointer none, .agg s.vs.toArray] w fun r w' => r = .returned (.int .i64 1) ∧ Below w.heap.size w w' := by
  have hX := below_new w (.cells s.vs.toArray 26)
  have cT := nliving (w.alloc (.cells s.vs.toArray 26))
  go_enter Try.func17, Try.ntmps17
  go_wp2_with fail
  refine cT.mono ?_
  rintro r W ⟨rfl, rfl⟩
  go_wp2
  go_ret
  exact ⟨rfl, hX⟩
set_option maxHeartbeats 1000000 in
theorem nregs (w : World) : Calls Try.prog 12 #[.pointer none] w fun r w' => r = .returned (.agg #[.int .u16 0, .int .u16 0, .int .u16 0, .int .u16 0, .int .u16 0, .int .u16 0, .int .u16 0, .int .u16 0, .int .u16 0]) ∧ Below w.heap.size w w' := by
  go_enter Try.func12, Try.ntmps12
  go_wp2
  refine bodyPost_ret (v := .agg #[.int .u16 0, .int .u16 0, .int .u16 0, .int .u16 0, .int .u16 0, .int .u16 0, .int .u16 0, .int .u16 0, .int .u16 0]) (by simp [results, Try.results12, go_sem]) rfl ⟨rfl, below_new w _⟩
set_option maxHeartbeats 1000000 in
theorem ndepth (w : World) : Calls Try.prog 13 #[.pointer none] w fun r w' => r = .returned (.int .i64 0) ∧ w' = w := by
  go_enter Try.func13, Try.ntmps13
  go_wp2
  go_ret
  exact ⟨rfl, rfl⟩
set_option maxHeartbeats 1000000 in
theorem nalive (w : World) : Calls Try.prog 16 #[.pointer none] w fun r w' => r = .returned (.bool false) ∧ Below w.heap.size w w' := by
  go_enter Try.func16, Try.ntmps16
  go_wp2_with fail
  go_quiet (fail)
  go_wp2
  go_ret
  exact ⟨rfl, ⟨rfl, rfl, rfl, Nat.le_refl _, fun _ _ => rfl⟩⟩
set_option maxHeartbeats 1000000 in
theorem nfork (w : World) : Calls Try.prog 21 #[.pointer none] w fun r w' => r = .returned (.pointer none) ∧ w' = w := by
  go_enter Try.func21, Try.ntmps21
  go_wp2
  go_ret
  exact ⟨rfl, rfl⟩
set_option maxHeartbeats 1000000 in
theorem nentries (w : World) : Calls Try.prog 24 #[.pointer none] w fun r w' => r = .returned (.slice none 0 0) ∧ w' = w := by
  go_enter Try.func24, Try.ntmps24
  go_wp2_with fail
  go_loopw [3, 7] (fun s3 s7 wr => ∃ k : Nat, k ≤ 5 ∧ s7 = .int .u8 k ∧ s3 = .slice none 0 0 ∧ wr = w) (fun _ s _ => 6 - (intOf s).toNat)
  case atStart => exact ⟨0, Nat.zero_le _, rfl, rfl, rfl⟩
  case round =>
    obtain ⟨k, hk, rfl, rfl, hw⟩ := hrel
    rw [hw]
    clear hw
    by_cases hlt : k < 5
    · have hltz : (k : Int) < 5 := by omega
      have cW := nwhere k w
      go_wp2_with fail
      refine cW.mono ?_
      rintro r W ⟨rfl, rfl⟩
      clear cW
      go_wp2
      go_roundw
      case rel => exact ⟨k + 1, by omega, by go_num, rfl, by first | rfl | trivial⟩
      case measure => simp [intOf]; omega
    · obtain rfl : k = 5 := by omega
      go_wp2
      go_ret
      exact ⟨rfl, rfl⟩
end Go.Proofs.Ytgoofonogdhhoaa
