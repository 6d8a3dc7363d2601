/- Which registers an instruction reads: the program. -/
import Derived.Test.YtbjklpdloglniaaDoorCpuX
namespace Go.Proofs.YtbjklpdloglniaaDoor
open Go.RowKit
set_option linter.unusedVariables false
set_option maxRecDepth 100000
theorem as_constant_move (v : Value) (w : World) : (Instr.typeAssert (.iface 64 v) 44 52 true).run Tryd.prog w = .ok (.tuple #[.agg #[.int .u8 0, .int .u8 0, .int .u8 0, .int .u16 0], .bool false]) w := by kernel_rfl
theorem as_constant_reckoning (v : Value) (w : World) : (Instr.typeAssert (.iface 64 v) 44 54 true).run Tryd.prog w = .ok (.tuple #[.agg #[.int .u8 0, .int .u8 0, .int .u8 0, .int .u16 0], .bool false]) w := by kernel_rfl
theorem as_constant_load (v : Value) (w : World) : (Instr.typeAssert (.iface 64 v) 44 55 true).run Tryd.prog w = .ok (.tuple #[.agg #[.int .u8 0, .int .u8 0, .int .u8 0, .int .u16 0], .bool false]) w := by kernel_rfl
theorem as_constant_store (v : Value) (w : World) : (Instr.typeAssert (.iface 64 v) 44 56 true).run Tryd.prog w = .ok (.tuple #[.agg #[.int .u8 0, .int .u8 0, .int .u8 0, .int .u16 0], .bool false]) w := by kernel_rfl
theorem as_constant_zeroJump (v : Value) (w : World) : (Instr.typeAssert (.iface 64 v) 44 57 true).run Tryd.prog w = .ok (.tuple #[.agg #[.int .u8 0, .int .u8 0, .int .u8 0, .int .u16 0], .bool false]) w := by kernel_rfl
theorem as_constant_lessJump (v : Value) (w : World) : (Instr.typeAssert (.iface 64 v) 44 58 true).run Tryd.prog w = .ok (.tuple #[.agg #[.int .u8 0, .int .u8 0, .int .u8 0, .int .u16 0], .bool false]) w := by kernel_rfl
theorem as_constant_back (v : Value) (w : World) : (Instr.typeAssert (.iface 64 v) 44 60 true).run Tryd.prog w = .ok (.tuple #[.agg #[], .bool false]) w := by kernel_rfl
theorem as_jump_zeroJump (v : Value) (w : World) : (Instr.typeAssert (.iface 65 v) 44 57 true).run Tryd.prog w = .ok (.tuple #[.agg #[.int .u8 0, .int .u8 0, .int .u8 0, .int .u16 0], .bool false]) w := by kernel_rfl
theorem as_jump_lessJump (v : Value) (w : World) : (Instr.typeAssert (.iface 65 v) 44 58 true).run Tryd.prog w = .ok (.tuple #[.agg #[.int .u8 0, .int .u8 0, .int .u8 0, .int .u16 0], .bool false]) w := by kernel_rfl
theorem as_jump_back (v : Value) (w : World) : (Instr.typeAssert (.iface 65 v) 44 60 true).run Tryd.prog w = .ok (.tuple #[.agg #[], .bool false]) w := by kernel_rfl
theorem as_call_back (v : Value) (w : World) : (Instr.typeAssert (.iface 66 v) 44 60 true).run Tryd.prog w = .ok (.tuple #[.agg #[], .bool false]) w := by kernel_rfl
theorem mk_set2 (k l : Nat) (hk : k < 8) (hl : l < 8) : [Value.bool (decide (0 = k)), .bool (decide (1 = k)), .bool (decide (2 = k)), .bool (decide (3 = k)), .bool (decide (4 = k)), .bool (decide (5 = k)), .bool (decide (6 = k)), .bool (decide (7 = k))].set l (.bool true) = [Value.bool (decide (0 = k) || decide (0 = l)), .bool (decide (1 = k) || decide (1 = l)), .bool (decide (2 = k) || decide (2 = l)), .bool (decide (3 = k) || decide (3 = l)), .bool (decide (4 = k) || decide (4 = l)), .bool (decide (5 = k) || decide (5 = l)), .bool (decide (6 = k) || decide (6 = l)), .bool (decide (7 = k) || decide (7 = l))] := by
  revert l
  exact eight (by simp) (by simp) (by simp) (by simp) (by simp) (by simp) (by simp) (by simp)
theorem mk_at2 (k l : Nat) (hl : l < 8) : #[Value.bool (decide (0 = k)), .bool (decide (1 = k)), .bool (decide (2 = k)), .bool (decide (3 = k)), .bool (decide (4 = k)), .bool (decide (5 = k)), .bool (decide (6 = k)), .bool (decide (7 = k))][l]? = some (.bool (decide (l = k))) := by
  revert l
  exact eight rfl rfl rfl rfl rfl rfl rfl rfl
set_option maxHeartbeats 2000000 in
theorem reads_move (o a b m : Int) (w : World) (hx : 0 ≤ b) (hx2 : b < 8) : Calls Tryd.prog 9 #[.iface 52 (insV o a b m)] w fun e w' => e = .returned (mkV (fun j => decide (j = b.toNat))) ∧ Below w.heap.size w w' := by
  have t0 := as_move_move
  have hs := mk_set b.toNat (by omega)
  have hc := mk_at b.toNat (by omega)
  unfold insV mkV
  go_enter Tryd.func9, Tryd.ntmps9
  go_wp2
  exact bodyPost_ret (v := .agg #[.bool (decide (0 = b.toNat)), .bool (decide (1 = b.toNat)), .bool (decide (2 = b.toNat)), .bool (decide (3 = b.toNat)), .bool (decide (4 = b.toNat)), .bool (decide (5 = b.toNat)), .bool (decide (6 = b.toNat)), .bool (decide (7 = b.toNat))]) (by simp [results, Tryd.results9, go_sem]) rfl ⟨rfl, nx (nx (nx (Below.refl _ w) _) _) _⟩
set_option maxHeartbeats 2000000 in
theorem reads_load (o a b m : Int) (w : World) (hx : 0 ≤ b) (hx2 : b < 8) : Calls Tryd.prog 9 #[.iface 55 (insV o a b m)] w fun e w' => e = .returned (mkV (fun j => decide (j = b.toNat))) ∧ Below w.heap.size w w' := by
  have t0 := as_load_move
  have t1 := as_load_quotient
  have t2 := as_load_reckoning
  have t3 := as_load_load
  have hs := mk_set b.toNat (by omega)
  have hc := mk_at b.toNat (by omega)
  unfold insV mkV
  go_enter Tryd.func9, Tryd.ntmps9
  go_wp2
  exact bodyPost_ret (v := .agg #[.bool (decide (0 = b.toNat)), .bool (decide (1 = b.toNat)), .bool (decide (2 = b.toNat)), .bool (decide (3 = b.toNat)), .bool (decide (4 = b.toNat)), .bool (decide (5 = b.toNat)), .bool (decide (6 = b.toNat)), .bool (decide (7 = b.toNat))]) (by simp [results, Tryd.results9, go_sem]) rfl ⟨rfl, nx (nx (nx (Below.refl _ w) _) _) _⟩
set_option maxHeartbeats 2000000 in
theorem reads_zeroJump (o a b m : Int) (w : World) (hx : 0 ≤ a) (hx2 : a < 8) : Calls Tryd.prog 9 #[.iface 57 (insV o a b m)] w fun e w' => e = .returned (mkV (fun j => decide (j = a.toNat))) ∧ Below w.heap.size w w' := by
  have t0 := as_zeroJump_move
  have t1 := as_zeroJump_quotient
  have t2 := as_zeroJump_reckoning
  have t3 := as_zeroJump_load
  have t4 := as_zeroJump_store
  have t5 := as_zeroJump_zeroJump
  have hs := mk_set a.toNat (by omega)
  have hc := mk_at a.toNat (by omega)
  unfold insV mkV
  go_enter Tryd.func9, Tryd.ntmps9
  go_wp2
  exact bodyPost_ret (v := .agg #[.bool (decide (0 = a.toNat)), .bool (decide (1 = a.toNat)), .bool (decide (2 = a.toNat)), .bool (decide (3 = a.toNat)), .bool (decide (4 = a.toNat)), .bool (decide (5 = a.toNat)), .bool (decide (6 = a.toNat)), .bool (decide (7 = a.toNat))]) (by simp [results, Tryd.results9, go_sem]) rfl ⟨rfl, nx (nx (nx (Below.refl _ w) _) _) _⟩
set_option maxHeartbeats 2000000 in
theorem reads_back (w : World) : Calls Tryd.prog 9 #[.iface 60 (.agg #[])] w fun e w' => e = .returned (mkV (fun j => decide (j = 7))) ∧ Below w.heap.size w w' := by
  have t0 := as_back_move
  have t1 := as_back_quotient
  have t2 := as_back_reckoning
  have t3 := as_back_load
  have t4 := as_back_store
  have t5 := as_back_zeroJump
  have t6 := as_back_lessJump
  have t7 := as_back_back
  unfold mkV
  go_enter Tryd.func9, Tryd.ntmps9
  go_wp2
  exact bodyPost_ret (v := mkV (fun j => decide (j = 7))) (by simp [results, Tryd.results9, go_sem, mkV]) rfl ⟨rfl, nx (nx (nx (Below.refl _ w) _) _) _⟩
set_option maxHeartbeats 2000000 in
theorem reads_pass (v : Value) (w : World) : Calls Tryd.prog 9 #[.iface 62 v] w fun e w' => e = .returned (.agg #[.bool false, .bool false, .bool false, .bool false, .bool false, .bool false, .bool false, .bool false]) ∧ Below w.heap.size w w' := by
  have t0 := as_pass_move
  have t1 := as_pass_quotient
  have t2 := as_pass_reckoning
  have t3 := as_pass_load
  have t4 := as_pass_store
  have t5 := as_pass_zeroJump
  have t6 := as_pass_lessJump
  have t7 := as_pass_back
  go_enter Tryd.func9, Tryd.ntmps9
  go_wp2
  exact bodyPost_ret (v := .agg #[.bool false, .bool false, .bool false, .bool false, .bool false, .bool false, .bool false, .bool false]) (by simp [results, Tryd.results9, go_sem]) rfl ⟨rfl, nx (nx (Below.refl _ w) _) _⟩
set_option maxHeartbeats 2000000 in
theorem reads_halt (v : Value) (w : World) : Calls Tryd.prog 9 #[.iface 63 v] w fun e w' => e = .returned (.agg #[.bool false, .bool false, .bool false, .bool false, .bool false, .bool false, .bool false, .bool false]) ∧ Below w.heap.size w w' := by
  have t0 := as_halt_move
  have t1 := as_halt_quotient
  have t2 := as_halt_reckoning
  have t3 := as_halt_load
  have t4 := as_halt_store
  have t5 := as_halt_zeroJump
  have t6 := as_halt_lessJump
  have t7 := as_halt_back
  go_enter Tryd.func9, Tryd.ntmps9
  go_wp2
  exact bodyPost_ret (v := .agg #[.bool false, .bool false, .bool false, .bool false, .bool false, .bool false, .bool false, .bool false]) (by simp [results, Tryd.results9, go_sem]) rfl ⟨rfl, nx (nx (Below.refl _ w) _) _⟩
set_option maxHeartbeats 2000000 in
theorem reads_constant (v : Value) (w : World) : Calls Tryd.prog 9 #[.iface 64 v] w fun e w' => e = .returned (.agg #[.bool false, .bool false, .bool false, .bool false, .bool false, .bool false, .bool false, .bool false]) ∧ Below w.heap.size w w' := by
  have t0 := as_constant_move
  have t1 := as_constant_quotient
  have t2 := as_constant_reckoning
  have t3 := as_constant_load
  have t4 := as_constant_store
  have t5 := as_constant_zeroJump
  have t6 := as_constant_lessJump
  have t7 := as_constant_back
  go_enter Tryd.func9, Tryd.ntmps9
  go_wp2
  exact bodyPost_ret (v := .agg #[.bool false, .bool false, .bool false, .bool false, .bool false, .bool false, .bool false, .bool false]) (by simp [results, Tryd.results9, go_sem]) rfl ⟨rfl, nx (nx (Below.refl _ w) _) _⟩
set_option maxHeartbeats 2000000 in
theorem reads_jump (v : Value) (w : World) : Calls Tryd.prog 9 #[.iface 65 v] w fun e w' => e = .returned (.agg #[.bool false, .bool false, .bool false, .bool false, .bool false, .bool false, .bool false, .bool false]) ∧ Below w.heap.size w w' := by
  have t0 := as_jump_move
  have t1 := as_jump_quotient
  have t2 := as_jump_reckoning
  have t3 := as_jump_load
  have t4 := as_jump_store
  have t5 := as_jump_zeroJump
  have t6 := as_jump_lessJump
  have t7 := as_jump_back
  go_enter Tryd.func9, Tryd.ntmps9
  go_wp2
  exact bodyPost_ret (v := .agg #[.bool false, .bool false, .bool false, .bool false, .bool false, .bool false, .bool false, .bool false]) (by simp [results, Tryd.results9, go_sem]) rfl ⟨rfl, nx (nx (Below.refl _ w) _) _⟩
set_option maxHeartbeats 2000000 in
theorem reads_call (v : Value) (w : World) : Calls Tryd.prog 9 #[.iface 66 v] w fun e w' => e = .returned (.agg #[.bool false, .bool false, .bool false, .bool false, .bool false, .bool false, .bool false, .bool false]) ∧ Below w.heap.size w w' := by
  have t0 := as_call_move
  have t1 := as_call_quotient
  have t2 := as_call_reckoning
  have t3 := as_call_load
  have t4 := as_call_store
  have t5 := as_call_zeroJump
  have t6 := as_call_lessJump
  have t7 := as_call_back
  go_enter Tryd.func9, Tryd.ntmps9
  go_wp2
  exact bodyPost_ret (v := .agg #[.bool false, .bool false, .bool false, .bool false, .bool false, .bool false, .bool false, .bool false]) (by simp [results, Tryd.results9, go_sem]) rfl ⟨rfl, nx (nx (Below.refl _ w) _) _⟩
set_option maxHeartbeats 2000000 in
theorem reads_system (v : Value) (w : World) : Calls Tryd.prog 9 #[.iface 67 v] w fun e w' => e = .returned (.agg #[.bool false, .bool false, .bool false, .bool false, .bool false, .bool false, .bool false, .bool false]) ∧ Below w.heap.size w w' := by
  have t0 := as_system_move
  have t1 := as_system_quotient
  have t2 := as_system_reckoning
  have t3 := as_system_load
  have t4 := as_system_store
  have t5 := as_system_zeroJump
  have t6 := as_system_lessJump
  have t7 := as_system_back
  go_enter Tryd.func9, Tryd.ntmps9
  go_wp2
  exact bodyPost_ret (v := .agg #[.bool false, .bool false, .bool false, .bool false, .bool false, .bool false, .bool false, .bool false]) (by simp [results, Tryd.results9, go_sem]) rfl ⟨rfl, nx (nx (Below.refl _ w) _) _⟩
set_option maxHeartbeats 4000000 in
theorem reads_quotient (o a b m : Int) (w : World) (ha : 0 ≤ a) (ha2 : a < 8) (hb : 0 ≤ b) (hb2 : b < 8) : Calls Tryd.prog 9 #[.iface 53 (insV o a b m)] w fun e w' => e = .returned (mkV (fun j => decide (j = a.toNat) || decide (j = b.toNat))) ∧ Below w.heap.size w w' := by
  have t0 := as_quotient_move
  have t1 := as_quotient_quotient
  have hs := mk_set a.toNat (by omega)
  have hc := mk_at a.toNat (by omega)
  have hs2 := mk_set2 a.toNat b.toNat (by omega) (by omega)
  have hc2 := mk_at2 a.toNat b.toNat (by omega)
  have hc3 := mk_at b.toNat (by omega)
  unfold insV mkV
  go_enter Tryd.func9, Tryd.ntmps9
  go_wp2_with fail
  go_region
  go_wp2
  exact bodyPost_ret (v := .agg #[.bool (decide (0 = a.toNat) || decide (0 = b.toNat)), .bool (decide (1 = a.toNat) || decide (1 = b.toNat)), .bool (decide (2 = a.toNat) || decide (2 = b.toNat)), .bool (decide (3 = a.toNat) || decide (3 = b.toNat)), .bool (decide (4 = a.toNat) || decide (4 = b.toNat)), .bool (decide (5 = a.toNat) || decide (5 = b.toNat)), .bool (decide (6 = a.toNat) || decide (6 = b.toNat)), .bool (decide (7 = a.toNat) || decide (7 = b.toNat))]) (by simp [results, Tryd.results9, go_sem]) rfl ⟨rfl, (nx (nx (nx (Below.refl _ w) _) _) _).drew⟩
set_option maxHeartbeats 4000000 in
theorem reads_reckoning (o a b m : Int) (w : World) (ha : 0 ≤ a) (ha2 : a < 8) (hb : 0 ≤ b) (hb2 : b < 8) : Calls Tryd.prog 9 #[.iface 54 (insV o a b m)] w fun e w' => e = .returned (mkV (fun j => decide (j = a.toNat) || decide (j = b.toNat))) ∧ Below w.heap.size w w' := by
  have t0 := as_reckoning_move
  have t1 := as_reckoning_quotient
  have t2 := as_reckoning_reckoning
  have hs := mk_set a.toNat (by omega)
  have hc := mk_at a.toNat (by omega)
  have hs2 := mk_set2 a.toNat b.toNat (by omega) (by omega)
  have hc2 := mk_at2 a.toNat b.toNat (by omega)
  have hc3 := mk_at b.toNat (by omega)
  unfold insV mkV
  go_enter Tryd.func9, Tryd.ntmps9
  go_wp2_with fail
  go_region
  go_wp2
  exact bodyPost_ret (v := .agg #[.bool (decide (0 = a.toNat) || decide (0 = b.toNat)), .bool (decide (1 = a.toNat) || decide (1 = b.toNat)), .bool (decide (2 = a.toNat) || decide (2 = b.toNat)), .bool (decide (3 = a.toNat) || decide (3 = b.toNat)), .bool (decide (4 = a.toNat) || decide (4 = b.toNat)), .bool (decide (5 = a.toNat) || decide (5 = b.toNat)), .bool (decide (6 = a.toNat) || decide (6 = b.toNat)), .bool (decide (7 = a.toNat) || decide (7 = b.toNat))]) (by simp [results, Tryd.results9, go_sem]) rfl ⟨rfl, (nx (nx (nx (Below.refl _ w) _) _) _).drew⟩
set_option maxHeartbeats 4000000 in
theorem reads_store (o a b m : Int) (w : World) (ha : 0 ≤ a) (ha2 : a < 8) (hb : 0 ≤ b) (hb2 : b < 8) : Calls Tryd.prog 9 #[.iface 56 (insV o a b m)] w fun e w' => e = .returned (mkV (fun j => decide (j = a.toNat) || decide (j = b.toNat))) ∧ Below w.heap.size w w' := by
  have t0 := as_store_move
  have t1 := as_store_quotient
  have t2 := as_store_reckoning
  have t3 := as_store_load
  have t4 := as_store_store
  have hs := mk_set a.toNat (by omega)
  have hc := mk_at a.toNat (by omega)
  have hs2 := mk_set2 a.toNat b.toNat (by omega) (by omega)
  have hc2 := mk_at2 a.toNat b.toNat (by omega)
  have hc3 := mk_at b.toNat (by omega)
  unfold insV mkV
  go_enter Tryd.func9, Tryd.ntmps9
  go_wp2_with fail
  go_region
  go_wp2
  exact bodyPost_ret (v := .agg #[.bool (decide (0 = a.toNat) || decide (0 = b.toNat)), .bool (decide (1 = a.toNat) || decide (1 = b.toNat)), .bool (decide (2 = a.toNat) || decide (2 = b.toNat)), .bool (decide (3 = a.toNat) || decide (3 = b.toNat)), .bool (decide (4 = a.toNat) || decide (4 = b.toNat)), .bool (decide (5 = a.toNat) || decide (5 = b.toNat)), .bool (decide (6 = a.toNat) || decide (6 = b.toNat)), .bool (decide (7 = a.toNat) || decide (7 = b.toNat))]) (by simp [results, Tryd.results9, go_sem]) rfl ⟨rfl, (nx (nx (nx (Below.refl _ w) _) _) _).drew⟩
set_option maxHeartbeats 4000000 in
theorem reads_lessJump (o a b m : Int) (w : World) (ha : 0 ≤ a) (ha2 : a < 8) (hb : 0 ≤ b) (hb2 : b < 8) : Calls Tryd.prog 9 #[.iface 58 (insV o a b m)] w fun e w' => e = .returned (mkV (fun j => decide (j = a.toNat) || decide (j = b.toNat))) ∧ Below w.heap.size w w' := by
  have t0 := as_lessJump_move
  have t1 := as_lessJump_quotient
  have t2 := as_lessJump_reckoning
  have t3 := as_lessJump_load
  have t4 := as_lessJump_store
  have t5 := as_lessJump_zeroJump
  have t6 := as_lessJump_lessJump
  have hs := mk_set a.toNat (by omega)
  have hc := mk_at a.toNat (by omega)
  have hs2 := mk_set2 a.toNat b.toNat (by omega) (by omega)
  have hc2 := mk_at2 a.toNat b.toNat (by omega)
  have hc3 := mk_at b.toNat (by omega)
  unfold insV mkV
  go_enter Tryd.func9, Tryd.ntmps9
  go_wp2_with fail
  go_region
  go_wp2
  exact bodyPost_ret (v := .agg #[.bool (decide (0 = a.toNat) || decide (0 = b.toNat)), .bool (decide (1 = a.toNat) || decide (1 = b.toNat)), .bool (decide (2 = a.toNat) || decide (2 = b.toNat)), .bool (decide (3 = a.toNat) || decide (3 = b.toNat)), .bool (decide (4 = a.toNat) || decide (4 = b.toNat)), .bool (decide (5 = a.toNat) || decide (5 = b.toNat)), .bool (decide (6 = a.toNat) || decide (6 = b.toNat)), .bool (decide (7 = a.toNat) || decide (7 = b.toNat))]) (by simp [results, Tryd.results9, go_sem]) rfl ⟨rfl, (nx (nx (nx (Below.refl _ w) _) _) _).drew⟩
end Go.Proofs.YtbjklpdloglniaaDoor
