/- Which registers an instruction that is not right reads and writes: none. -/
import Derived.Test.YtbjklpdloglniaaDoorCpuI
namespace Go.Proofs.YtbjklpdloglniaaDoor
open Go.RowKit
set_option linter.unusedVariables false
set_option maxRecDepth 100000

theorem asn_back (w : World) : (Instr.typeAssert .nilIface 44 60 true).run Tryd.prog w = .ok (.tuple #[.agg #[], .bool false]) w := by kernel_rfl
theorem asn_call (w : World) : (Instr.typeAssert .nilIface 44 66 true).run Tryd.prog w = .ok (.tuple #[.agg #[.int .u8 0, .int .u8 0, .int .u8 0, .int .u16 0], .bool false]) w := by kernel_rfl
theorem asn_constant (w : World) : (Instr.typeAssert .nilIface 44 64 true).run Tryd.prog w = .ok (.tuple #[.agg #[.int .u8 0, .int .u8 0, .int .u8 0, .int .u16 0], .bool false]) w := by kernel_rfl
theorem asn_lessJump (w : World) : (Instr.typeAssert .nilIface 44 58 true).run Tryd.prog w = .ok (.tuple #[.agg #[.int .u8 0, .int .u8 0, .int .u8 0, .int .u16 0], .bool false]) w := by kernel_rfl
theorem asn_load (w : World) : (Instr.typeAssert .nilIface 44 55 true).run Tryd.prog w = .ok (.tuple #[.agg #[.int .u8 0, .int .u8 0, .int .u8 0, .int .u16 0], .bool false]) w := by kernel_rfl
theorem asn_move (w : World) : (Instr.typeAssert .nilIface 44 52 true).run Tryd.prog w = .ok (.tuple #[.agg #[.int .u8 0, .int .u8 0, .int .u8 0, .int .u16 0], .bool false]) w := by kernel_rfl
theorem asn_quotient (w : World) : (Instr.typeAssert .nilIface 44 53 true).run Tryd.prog w = .ok (.tuple #[.agg #[.int .u8 0, .int .u8 0, .int .u8 0, .int .u16 0], .bool false]) w := by kernel_rfl
theorem asn_reckoning (w : World) : (Instr.typeAssert .nilIface 44 54 true).run Tryd.prog w = .ok (.tuple #[.agg #[.int .u8 0, .int .u8 0, .int .u8 0, .int .u16 0], .bool false]) w := by kernel_rfl
theorem asn_store (w : World) : (Instr.typeAssert .nilIface 44 56 true).run Tryd.prog w = .ok (.tuple #[.agg #[.int .u8 0, .int .u8 0, .int .u8 0, .int .u16 0], .bool false]) w := by kernel_rfl
theorem asn_zeroJump (w : World) : (Instr.typeAssert .nilIface 44 57 true).run Tryd.prog w = .ok (.tuple #[.agg #[.int .u8 0, .int .u8 0, .int .u8 0, .int .u16 0], .bool false]) w := by kernel_rfl
set_option maxHeartbeats 2000000 in
theorem list_none (w : World) : Calls Tryd.prog 8 #[.agg #[.bool false, .bool false, .bool false, .bool false, .bool false, .bool false, .bool false, .bool false]] w fun e w' => e = .returned (.slice none 0 0) ∧ Below w.heap.size w w' := by
  have x0 : ∀ w, (Instr.index 42 (.agg #[.bool false, .bool false, .bool false, .bool false, .bool false, .bool false, .bool false, .bool false]) (.int .i64 0)).run Tryd.prog w = .ok (.bool false) w := fun w => by kernel_rfl
  have x1 : ∀ w, (Instr.index 42 (.agg #[.bool false, .bool false, .bool false, .bool false, .bool false, .bool false, .bool false, .bool false]) (.int .i64 1)).run Tryd.prog w = .ok (.bool false) w := fun w => by kernel_rfl
  have x2 : ∀ w, (Instr.index 42 (.agg #[.bool false, .bool false, .bool false, .bool false, .bool false, .bool false, .bool false, .bool false]) (.int .i64 2)).run Tryd.prog w = .ok (.bool false) w := fun w => by kernel_rfl
  have x3 : ∀ w, (Instr.index 42 (.agg #[.bool false, .bool false, .bool false, .bool false, .bool false, .bool false, .bool false, .bool false]) (.int .i64 3)).run Tryd.prog w = .ok (.bool false) w := fun w => by kernel_rfl
  have x4 : ∀ w, (Instr.index 42 (.agg #[.bool false, .bool false, .bool false, .bool false, .bool false, .bool false, .bool false, .bool false]) (.int .i64 4)).run Tryd.prog w = .ok (.bool false) w := fun w => by kernel_rfl
  have x5 : ∀ w, (Instr.index 42 (.agg #[.bool false, .bool false, .bool false, .bool false, .bool false, .bool false, .bool false, .bool false]) (.int .i64 5)).run Tryd.prog w = .ok (.bool false) w := fun w => by kernel_rfl
  have x6 : ∀ w, (Instr.index 42 (.agg #[.bool false, .bool false, .bool false, .bool false, .bool false, .bool false, .bool false, .bool false]) (.int .i64 6)).run Tryd.prog w = .ok (.bool false) w := fun w => by kernel_rfl
  have x7 : ∀ w, (Instr.index 42 (.agg #[.bool false, .bool false, .bool false, .bool false, .bool false, .bool false, .bool false, .bool false]) (.int .i64 7)).run Tryd.prog w = .ok (.bool false) w := fun w => by kernel_rfl
  go_enter Tryd.func8, Tryd.ntmps8
  go_wp2
  refine wp_loop_rounds 9 ?_
  rw [rounds_succ]
  go_wp2
  rw [rounds_succ]
  go_wp2
  rw [rounds_succ]
  go_wp2
  rw [rounds_succ]
  go_wp2
  rw [rounds_succ]
  go_wp2
  rw [rounds_succ]
  go_wp2
  rw [rounds_succ]
  go_wp2
  rw [rounds_succ]
  go_wp2
  rw [rounds_succ]
  go_wp2
  go_ret
  exact ⟨rfl, nx (Below.refl _ w) _⟩
set_option maxHeartbeats 2000000 in
theorem reads_none (w : World) : Calls Tryd.prog 9 #[.nilIface] w fun e w' => e = .returned (.agg #[.bool false, .bool false, .bool false, .bool false, .bool false, .bool false, .bool false, .bool false]) ∧ Below w.heap.size w w' := by
  have t0 := asn_move
  have t1 := asn_quotient
  have t2 := asn_reckoning
  have t3 := asn_load
  have t4 := asn_store
  have t5 := asn_zeroJump
  have t6 := asn_lessJump
  have t7 := asn_back
  go_enter Tryd.func9, Tryd.ntmps9
  go_wp2
  exact bodyPost_ret (v := .agg #[.bool false, .bool false, .bool false, .bool false, .bool false, .bool false, .bool false, .bool false]) (by simp [results, Tryd.results9, go_sem]) rfl ⟨rfl, nx (nx (Below.refl _ w) _) _⟩
set_option maxHeartbeats 2000000 in
theorem writes_none (w : World) : Calls Tryd.prog 13 #[.nilIface] w fun e w' => e = .returned (.agg #[.bool false, .bool false, .bool false, .bool false, .bool false, .bool false, .bool false, .bool false]) ∧ Below w.heap.size w w' := by
  have t0 := asn_constant
  have t1 := asn_move
  have t2 := asn_quotient
  have t3 := asn_reckoning
  have t4 := asn_load
  have t5 := asn_call
  go_enter Tryd.func13, Tryd.ntmps13
  go_wp2
  exact bodyPost_ret (v := .agg #[.bool false, .bool false, .bool false, .bool false, .bool false, .bool false, .bool false, .bool false]) (by simp [results, Tryd.results13, go_sem]) rfl ⟨rfl, nx (nx (Below.refl _ w) _) _⟩
set_option maxHeartbeats 2000000 in
theorem Reads_no (o a b m : Int) (w : World) (hO : InsOk o a b m) (hR : insR o a b m = false) : Calls Tryd.prog 4 #[insV o a b m] w fun e w' => e = .returned (.slice none 0 0) ∧ Below w.heap.size w w' := by
  have cK := kind_of o a b m .nilIface hO (by unfold kindV; rw [if_pos hR])
  unfold insV at *
  go_enter Tryd.func4, Tryd.ntmps4
  go_wp2_with fail
  refine (cK _).mono ?_
  rintro e W1 ⟨rfl, hB1⟩
  have hb1 := (nx (Below.refl _ w) _).trans (hB1.mono (by simp))
  go_wp2_with fail
  refine (reads_none _).mono ?_
  rintro e W2 ⟨rfl, hB2⟩
  have hb2 := hb1.trans (hB2.mono hb1.size)
  go_wp2_with fail
  refine (list_none _).mono ?_
  rintro e W3 ⟨rfl, hB3⟩
  have hb3 := hb2.trans (hB3.mono hb2.size)
  go_wp2_with fail
  go_ret
  exact ⟨rfl, hb3⟩
set_option maxHeartbeats 2000000 in
theorem Writes_no (o a b m : Int) (w : World) (hO : InsOk o a b m) (hR : insR o a b m = false) : Calls Tryd.prog 6 #[insV o a b m] w fun e w' => e = .returned (.slice none 0 0) ∧ Below w.heap.size w w' := by
  have cK := kind_of o a b m .nilIface hO (by unfold kindV; rw [if_pos hR])
  unfold insV at *
  go_enter Tryd.func6, Tryd.ntmps6
  go_wp2_with fail
  refine (cK _).mono ?_
  rintro e W1 ⟨rfl, hB1⟩
  have hb1 := (nx (Below.refl _ w) _).trans (hB1.mono (by simp))
  go_wp2_with fail
  refine (writes_none _).mono ?_
  rintro e W2 ⟨rfl, hB2⟩
  have hb2 := hb1.trans (hB2.mono hb1.size)
  go_wp2_with fail
  refine (list_none _).mono ?_
  rintro e W3 ⟨rfl, hB3⟩
  have hb3 := hb2.trans (hB3.mono hb2.size)
  go_wp2_with fail
  go_ret
  exact ⟨rfl, hb3⟩
end Go.Proofs.YtbjklpdloglniaaDoor
