/- vm: calls of none; New. -/
import Derived.Test.YtbognbeplmdkdabVmM
namespace Go.Proofs.Ytbognbeplmdkdab
open Go.RowKit Go.Maps
set_option linter.unusedVariables false
set_option maxRecDepth 100000
set_option maxHeartbeats 1000000 in
theorem of_nil (p : Int) (w : World) : Calls Try.prog 20 #[.pointer none, .int .i64 p] w fun r w' => r = .returned (.tuple #[.map none, .int .i64 1]) ∧ w' = w := by
  go_enter Try.func20, Try.ntmps20
  go_wp2
  go_ret2
  exact ⟨rfl, rfl⟩
set_option maxHeartbeats 1000000 in
theorem begin_nil (p : Int) (w : World) : Calls Try.prog 7 #[.pointer none, .int .i64 p] w fun r w' => r = .returned (.int .i64 1) ∧ w' = w := by
  go_enter Try.func7, Try.ntmps7
  go_wp2
  go_ret
  exact ⟨rfl, rfl⟩
set_option maxHeartbeats 1000000 in
theorem end_nil (p : Int) (w : World) : Calls Try.prog 8 #[.pointer none, .int .i64 p] w fun r w' => r = .returned (.int .i64 1) ∧ w' = w := by
  have cO := of_nil p w
  go_enter Try.func8, Try.ntmps8
  go_wp2_with fail
  refine cO.mono ?_
  rintro r W ⟨rfl, hW⟩
  rw [hW]
  clear cO hW
  go_wp2
  go_ret
  exact ⟨rfl, rfl⟩
set_option maxHeartbeats 1000000 in
theorem vfork_nil (p q : Int) (w : World) : Calls Try.prog 9 #[.pointer none, .int .i64 p, .int .i64 q] w fun r w' => r = .returned (.int .i64 1) ∧ w' = w := by
  have cO := of_nil p w
  go_enter Try.func9, Try.ntmps9
  go_wp2_with fail
  refine cO.mono ?_
  rintro r W ⟨rfl, hW⟩
  rw [hW]
  clear cO hW
  go_wp2
  go_ret
  exact ⟨rfl, rfl⟩
set_option maxHeartbeats 1000000 in
theorem map_nil (p n : Int) (w : World) : Calls Try.prog 10 #[.pointer none, .int .i64 p, .int .i64 n] w fun r w' => r = .returned (.int .i64 1) ∧ w' = w := by
  have cO := of_nil p w
  go_enter Try.func10, Try.ntmps10
  go_wp2_with fail
  refine cO.mono ?_
  rintro r W ⟨rfl, hW⟩
  rw [hW]
  clear cO hW
  go_wp2
  go_ret
  exact ⟨rfl, rfl⟩
set_option maxHeartbeats 1000000 in
theorem unmap_nil (p n : Int) (w : World) : Calls Try.prog 11 #[.pointer none, .int .i64 p, .int .i64 n] w fun r w' => r = .returned (.int .i64 1) ∧ w' = w := by
  have cO := of_nil p w
  go_enter Try.func11, Try.ntmps11
  go_wp2_with fail
  refine cO.mono ?_
  rintro r W ⟨rfl, hW⟩
  rw [hW]
  clear cO hW
  go_wp2
  go_ret
  exact ⟨rfl, rfl⟩
set_option maxHeartbeats 1000000 in
theorem peek_nil (p n : Int) (w : World) : Calls Try.prog 4 #[.pointer none, .int .i64 p, .int .i64 n] w fun r w' => r = .returned (.tuple #[.int .u8 0, .int .i64 1]) ∧ w' = w := by
  have cO := of_nil p w
  go_enter Try.func4, Try.ntmps4
  go_wp2_with fail
  refine cO.mono ?_
  rintro r W ⟨rfl, hW⟩
  rw [hW]
  clear cO hW
  go_wp2
  go_ret2
  exact ⟨rfl, rfl⟩
set_option maxHeartbeats 1000000 in
theorem vfill_nil (p n : Int) (b : Value) (w : World) : Calls Try.prog 13 #[.pointer none, .int .i64 p, .int .i64 n, b] w fun r w' => r = .returned (.int .i64 1) ∧ w' = w := by
  have cO := of_nil p w
  go_enter Try.func13, Try.ntmps13
  go_wp2_with fail
  refine cO.mono ?_
  rintro r W ⟨rfl, hW⟩
  rw [hW]
  clear cO hW
  go_wp2
  go_ret
  exact ⟨rfl, rfl⟩
set_option maxHeartbeats 1000000 in
theorem pages_nil (p : Int) (w : World) : Calls Try.prog 14 #[.pointer none, .int .i64 p] w fun r w' => r = .returned (.slice none 0 0) ∧ w' = w := by
  have cO := of_nil p w
  go_enter Try.func14, Try.ntmps14
  go_wp2_with fail
  refine cO.mono ?_
  rintro r W ⟨rfl, hW⟩
  rw [hW]
  clear cO hW
  go_wp2
  go_ret
  exact ⟨rfl, rfl⟩
set_option maxHeartbeats 1000000 in
theorem vframe_nil (p n : Int) (w : World) : Calls Try.prog 5 #[.pointer none, .int .i64 p, .int .i64 n] w fun r w' => r = .returned (.tuple #[.int .i64 0, .bool false]) ∧ w' = w := by
  have cO := of_nil p w
  go_enter Try.func5, Try.ntmps5
  go_wp2_with fail
  refine cO.mono ?_
  rintro r W ⟨rfl, hW⟩
  rw [hW]
  clear cO hW
  go_wp2
  go_ret2
  exact ⟨rfl, rfl⟩
set_option maxHeartbeats 1000000 in
theorem refs_nil (n : Int) (w : World) : Calls Try.prog 15 #[.pointer none, .int .i64 n] w fun r w' => r = .returned (.int .i64 0) ∧ w' = w := by
  go_enter Try.func15, Try.ntmps15
  go_wp2
  go_ret
  exact ⟨rfl, rfl⟩
set_option maxHeartbeats 1000000 in
theorem left_nil (w : World) : Calls Try.prog 16 #[.pointer none] w fun r w' => r = .returned (.int .i64 0) ∧ w' = w := by
  go_enter Try.func16, Try.ntmps16
  go_wp2
  go_ret
  exact ⟨rfl, rfl⟩
set_option maxHeartbeats 1000000 in
theorem copies_nil (w : World) : Calls Try.prog 17 #[.pointer none] w fun r w' => r = .returned (.int .i64 0) ∧ w' = w := by
  go_enter Try.func17, Try.ntmps17
  go_wp2
  go_ret
  exact ⟨rfl, rfl⟩
set_option maxHeartbeats 1000000 in
theorem vcopy_nil (w : World) : Calls Try.prog 18 #[.pointer none] w fun r w' => r = .returned (.pointer none) ∧ w' = w := by
  go_enter Try.func18, Try.ntmps18
  go_wp2
  go_ret
  exact ⟨rfl, rfl⟩
end Go.Proofs.Ytbognbeplmdkdab
