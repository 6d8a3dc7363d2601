/- The program's calls of none. -/
import Derived.Test.YtdlmaddeonidiaaTlbB
namespace Go.Proofs.Ytdlmaddeonidiaa
open Go.RowKit Go.Maps
set_option linter.unusedVariables false
set_option maxRecDepth 100000
theorem at_nil (a p : Int) (w : World) : Calls Try.prog 16 #[.pointer none, .int .u8 a, .int .u8 p] w fun e w' => e = .returned (.int .i64 (-1)) ∧ w' = w := by
  go_enter Try.func16, Try.ntmps16
  go_wp2
  go_ret
  exact ⟨rfl, rfl⟩
theorem out_nil (v : Value) (w : World) : Calls Try.prog 14 #[.pointer none, v] w fun e w' => e = .returned (.int .i64 0) ∧ w' = w := by
  go_enter Try.func14, Try.ntmps14
  go_wp2
  go_ret
  exact ⟨rfl, rfl⟩
set_option maxHeartbeats 1000000 in
theorem find_nil (a p : Int) (w : World) : Calls Try.prog 5 #[.pointer none, .int .u8 a, .int .u8 p] w fun e w' => e = .returned (.tuple #[.agg #[.int .u8 0, .int .u8 0, .int .u8 0, .bool false], .bool false]) ∧ Below w.heap.size w w' := by
  have c1 := at_nil a p (w.alloc (.cells #[.int .u8 0, .int .u8 0, .int .u8 0, .bool false] 23))
  go_enter Try.func5, Try.ntmps5
  go_wp2_with fail
  refine c1.mono ?_
  rintro e W1 ⟨rfl, rfl⟩
  go_wp2
  refine bodyPost_ret (v := .tuple #[.agg #[.int .u8 0, .int .u8 0, .int .u8 0, .bool false], .bool false]) (by simp [results, Try.results5, go_sem]) rfl ⟨rfl, ?_⟩
  exact (Below.refl _ w).alloc (Nat.le_refl _) _
set_option maxHeartbeats 1000000 in
theorem insert_nil (m0 m1 m2 : Int) (m3 : Bool) (w : World) : Calls Try.prog 4 #[.pointer none, .agg #[.int .u8 m0, .int .u8 m1, .int .u8 m2, .bool m3]] w fun e w' => e = .returned (.tuple #[.agg #[.int .u8 0, .int .u8 0, .int .u8 0, .bool false], .bool false, .int .i64 1]) ∧ Below w.heap.size w w' := by
  go_enter Try.func4, Try.ntmps4
  go_wp2
  refine bodyPost_ret (v := .tuple #[.agg #[.int .u8 0, .int .u8 0, .int .u8 0, .bool false], .bool false, .int .i64 1]) (by simp [results, Try.results4, go_sem]) rfl ⟨rfl, ?_⟩
  exact ((Below.refl _ w).alloc (Nat.le_refl _) _).alloc (by simp) _
theorem trans_nil (a d : Int) (b : Bool) (w : World) : Calls Try.prog 6 #[.pointer none, .int .u8 a, .int .u16 d, .bool b] w fun e w' => e = .returned (.tuple #[.int .i64 0, .int .i64 0, .int .i64 1]) ∧ w' = w := by
  go_enter Try.func6, Try.ntmps6
  go_wp2
  go_ret3
  exact ⟨rfl, rfl⟩
theorem drop_nil (a p : Int) (w : World) : Calls Try.prog 8 #[.pointer none, .int .u8 a, .int .u8 p] w fun e w' => e = .returned (.bool false) ∧ Below w.heap.size w w' := by
  have c1 := of_any a p w
  have c2 := fun v W => out_nil v W
  go_enter Try.func8, Try.ntmps8
  go_wp2_with fail
  refine c1.mono ?_
  rintro e W1 ⟨rfl, rfl⟩
  go_wp2_with fail
  refine (c2 _ _).mono ?_
  rintro e W1 ⟨rfl, rfl⟩
  go_wp2
  go_ret
  exact ⟨rfl, (Below.refl _ w).alloc (Nat.le_refl _) _⟩
theorem asid_nil (a : Int) (w : World) : Calls Try.prog 9 #[.pointer none, .int .u8 a] w fun e w' => e = .returned (.int .i64 0) ∧ Below w.heap.size w w' := by
  have c2 := fun v W => out_nil v W
  go_enter Try.func9, Try.ntmps9
  go_wp2_with fail
  refine (c2 _ _).mono ?_
  rintro e W1 ⟨rfl, rfl⟩
  go_wp2
  go_ret
  exact ⟨rfl, (Below.refl _ w).alloc (Nat.le_refl _) _⟩
theorem frame_nil (a : Int) (w : World) : Calls Try.prog 10 #[.pointer none, .int .u8 a] w fun e w' => e = .returned (.int .i64 0) ∧ Below w.heap.size w w' := by
  have c2 := fun v W => out_nil v W
  go_enter Try.func10, Try.ntmps10
  go_wp2_with fail
  refine (c2 _ _).mono ?_
  rintro e W1 ⟨rfl, rfl⟩
  go_wp2
  go_ret
  exact ⟨rfl, (Below.refl _ w).alloc (Nat.le_refl _) _⟩
theorem protect_nil (a p : Int) (b : Bool) (w : World) : Calls Try.prog 11 #[.pointer none, .int .u8 a, .int .u8 p, .bool b] w fun e w' => e = .returned (.bool false) ∧ w' = w := by
  have c1 := at_nil a p w
  go_enter Try.func11, Try.ntmps11
  go_wp2_with fail
  refine c1.mono ?_
  rintro e W1 ⟨rfl, rfl⟩
  go_wp2
  go_ret
  exact ⟨rfl, rfl⟩
theorem list_nil (w : World) : Calls Try.prog 12 #[.pointer none] w fun e w' => e = .returned (.slice none 0 0) ∧ w' = w := by
  go_enter Try.func12, Try.ntmps12
  go_wp2
  go_ret
  exact ⟨rfl, rfl⟩
theorem fork_nil (w : World) : Calls Try.prog 13 #[.pointer none] w fun e w' => e = .returned (.pointer none) ∧ w' = w := by
  go_enter Try.func13, Try.ntmps13
  go_wp2
  go_ret
  exact ⟨rfl, rfl⟩
end Go.Proofs.Ytdlmaddeonidiaa
