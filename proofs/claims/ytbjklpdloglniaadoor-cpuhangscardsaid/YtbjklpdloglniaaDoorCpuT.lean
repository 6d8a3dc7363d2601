/- What an assertion of a kind answers, kind by kind. -/
import Derived.Test.YtbjklpdloglniaaDoorCpuB
namespace Go.Proofs.YtbjklpdloglniaaDoor
open Go.RowKit
set_option linter.unusedVariables false

theorem as_pass_halt (v : Value) (w : World) : (Instr.typeAssert (.iface 62 v) 44 63 true).run Tryd.prog w = .ok (.tuple #[.agg #[], .bool false]) w := by kernel_rfl
theorem as_pass_quotient (v : Value) (w : World) : (Instr.typeAssert (.iface 62 v) 44 53 true).run Tryd.prog w = .ok (.tuple #[.agg #[.int .u8 0, .int .u8 0, .int .u8 0, .int .u16 0], .bool false]) w := by kernel_rfl
theorem as_pass_constant (v : Value) (w : World) : (Instr.typeAssert (.iface 62 v) 44 64 true).run Tryd.prog w = .ok (.tuple #[.agg #[.int .u8 0, .int .u8 0, .int .u8 0, .int .u16 0], .bool false]) w := by kernel_rfl
theorem as_pass_move (v : Value) (w : World) : (Instr.typeAssert (.iface 62 v) 44 52 true).run Tryd.prog w = .ok (.tuple #[.agg #[.int .u8 0, .int .u8 0, .int .u8 0, .int .u16 0], .bool false]) w := by kernel_rfl
theorem as_pass_reckoning (v : Value) (w : World) : (Instr.typeAssert (.iface 62 v) 44 54 true).run Tryd.prog w = .ok (.tuple #[.agg #[.int .u8 0, .int .u8 0, .int .u8 0, .int .u16 0], .bool false]) w := by kernel_rfl
theorem as_pass_load (v : Value) (w : World) : (Instr.typeAssert (.iface 62 v) 44 55 true).run Tryd.prog w = .ok (.tuple #[.agg #[.int .u8 0, .int .u8 0, .int .u8 0, .int .u16 0], .bool false]) w := by kernel_rfl
theorem as_pass_store (v : Value) (w : World) : (Instr.typeAssert (.iface 62 v) 44 56 true).run Tryd.prog w = .ok (.tuple #[.agg #[.int .u8 0, .int .u8 0, .int .u8 0, .int .u16 0], .bool false]) w := by kernel_rfl
theorem as_pass_jump (v : Value) (w : World) : (Instr.typeAssert (.iface 62 v) 44 65 true).run Tryd.prog w = .ok (.tuple #[.agg #[.int .u8 0, .int .u8 0, .int .u8 0, .int .u16 0], .bool false]) w := by kernel_rfl
theorem as_pass_zeroJump (v : Value) (w : World) : (Instr.typeAssert (.iface 62 v) 44 57 true).run Tryd.prog w = .ok (.tuple #[.agg #[.int .u8 0, .int .u8 0, .int .u8 0, .int .u16 0], .bool false]) w := by kernel_rfl
theorem as_pass_lessJump (v : Value) (w : World) : (Instr.typeAssert (.iface 62 v) 44 58 true).run Tryd.prog w = .ok (.tuple #[.agg #[.int .u8 0, .int .u8 0, .int .u8 0, .int .u16 0], .bool false]) w := by kernel_rfl
theorem as_pass_call (v : Value) (w : World) : (Instr.typeAssert (.iface 62 v) 44 66 true).run Tryd.prog w = .ok (.tuple #[.agg #[.int .u8 0, .int .u8 0, .int .u8 0, .int .u16 0], .bool false]) w := by kernel_rfl
theorem as_pass_back (v : Value) (w : World) : (Instr.typeAssert (.iface 62 v) 44 60 true).run Tryd.prog w = .ok (.tuple #[.agg #[], .bool false]) w := by kernel_rfl
theorem as_pass_system (v : Value) (w : World) : (Instr.typeAssert (.iface 62 v) 44 67 true).run Tryd.prog w = .ok (.tuple #[.agg #[.int .u8 0, .int .u8 0, .int .u8 0, .int .u16 0], .bool false]) w := by kernel_rfl
theorem as_halt_halt (v : Value) (w : World) : (Instr.typeAssert (.iface 63 v) 44 63 true).run Tryd.prog w = .ok (.tuple #[v, .bool true]) w := by kernel_rfl
theorem as_halt_constant (v : Value) (w : World) : (Instr.typeAssert (.iface 63 v) 44 64 true).run Tryd.prog w = .ok (.tuple #[.agg #[.int .u8 0, .int .u8 0, .int .u8 0, .int .u16 0], .bool false]) w := by kernel_rfl
theorem as_halt_move (v : Value) (w : World) : (Instr.typeAssert (.iface 63 v) 44 52 true).run Tryd.prog w = .ok (.tuple #[.agg #[.int .u8 0, .int .u8 0, .int .u8 0, .int .u16 0], .bool false]) w := by kernel_rfl
theorem as_halt_quotient (v : Value) (w : World) : (Instr.typeAssert (.iface 63 v) 44 53 true).run Tryd.prog w = .ok (.tuple #[.agg #[.int .u8 0, .int .u8 0, .int .u8 0, .int .u16 0], .bool false]) w := by kernel_rfl
theorem as_halt_reckoning (v : Value) (w : World) : (Instr.typeAssert (.iface 63 v) 44 54 true).run Tryd.prog w = .ok (.tuple #[.agg #[.int .u8 0, .int .u8 0, .int .u8 0, .int .u16 0], .bool false]) w := by kernel_rfl
theorem as_halt_load (v : Value) (w : World) : (Instr.typeAssert (.iface 63 v) 44 55 true).run Tryd.prog w = .ok (.tuple #[.agg #[.int .u8 0, .int .u8 0, .int .u8 0, .int .u16 0], .bool false]) w := by kernel_rfl
theorem as_halt_store (v : Value) (w : World) : (Instr.typeAssert (.iface 63 v) 44 56 true).run Tryd.prog w = .ok (.tuple #[.agg #[.int .u8 0, .int .u8 0, .int .u8 0, .int .u16 0], .bool false]) w := by kernel_rfl
theorem as_halt_jump (v : Value) (w : World) : (Instr.typeAssert (.iface 63 v) 44 65 true).run Tryd.prog w = .ok (.tuple #[.agg #[.int .u8 0, .int .u8 0, .int .u8 0, .int .u16 0], .bool false]) w := by kernel_rfl
theorem as_halt_zeroJump (v : Value) (w : World) : (Instr.typeAssert (.iface 63 v) 44 57 true).run Tryd.prog w = .ok (.tuple #[.agg #[.int .u8 0, .int .u8 0, .int .u8 0, .int .u16 0], .bool false]) w := by kernel_rfl
theorem as_halt_lessJump (v : Value) (w : World) : (Instr.typeAssert (.iface 63 v) 44 58 true).run Tryd.prog w = .ok (.tuple #[.agg #[.int .u8 0, .int .u8 0, .int .u8 0, .int .u16 0], .bool false]) w := by kernel_rfl
theorem as_halt_call (v : Value) (w : World) : (Instr.typeAssert (.iface 63 v) 44 66 true).run Tryd.prog w = .ok (.tuple #[.agg #[.int .u8 0, .int .u8 0, .int .u8 0, .int .u16 0], .bool false]) w := by kernel_rfl
theorem as_halt_back (v : Value) (w : World) : (Instr.typeAssert (.iface 63 v) 44 60 true).run Tryd.prog w = .ok (.tuple #[.agg #[], .bool false]) w := by kernel_rfl
theorem as_halt_system (v : Value) (w : World) : (Instr.typeAssert (.iface 63 v) 44 67 true).run Tryd.prog w = .ok (.tuple #[.agg #[.int .u8 0, .int .u8 0, .int .u8 0, .int .u16 0], .bool false]) w := by kernel_rfl
theorem as_constant_halt (v : Value) (w : World) : (Instr.typeAssert (.iface 64 v) 44 63 true).run Tryd.prog w = .ok (.tuple #[.agg #[], .bool false]) w := by kernel_rfl
theorem as_constant_quotient (v : Value) (w : World) : (Instr.typeAssert (.iface 64 v) 44 53 true).run Tryd.prog w = .ok (.tuple #[.agg #[.int .u8 0, .int .u8 0, .int .u8 0, .int .u16 0], .bool false]) w := by kernel_rfl
theorem as_constant_constant (v : Value) (w : World) : (Instr.typeAssert (.iface 64 v) 44 64 true).run Tryd.prog w = .ok (.tuple #[v, .bool true]) w := by kernel_rfl
theorem as_move_halt (v : Value) (w : World) : (Instr.typeAssert (.iface 52 v) 44 63 true).run Tryd.prog w = .ok (.tuple #[.agg #[], .bool false]) w := by kernel_rfl
theorem as_move_quotient (v : Value) (w : World) : (Instr.typeAssert (.iface 52 v) 44 53 true).run Tryd.prog w = .ok (.tuple #[.agg #[.int .u8 0, .int .u8 0, .int .u8 0, .int .u16 0], .bool false]) w := by kernel_rfl
theorem as_move_constant (v : Value) (w : World) : (Instr.typeAssert (.iface 52 v) 44 64 true).run Tryd.prog w = .ok (.tuple #[.agg #[.int .u8 0, .int .u8 0, .int .u8 0, .int .u16 0], .bool false]) w := by kernel_rfl
theorem as_move_move (v : Value) (w : World) : (Instr.typeAssert (.iface 52 v) 44 52 true).run Tryd.prog w = .ok (.tuple #[v, .bool true]) w := by kernel_rfl
theorem as_quotient_halt (v : Value) (w : World) : (Instr.typeAssert (.iface 53 v) 44 63 true).run Tryd.prog w = .ok (.tuple #[.agg #[], .bool false]) w := by kernel_rfl
theorem as_quotient_quotient (v : Value) (w : World) : (Instr.typeAssert (.iface 53 v) 44 53 true).run Tryd.prog w = .ok (.tuple #[v, .bool true]) w := by kernel_rfl
theorem as_quotient_constant (v : Value) (w : World) : (Instr.typeAssert (.iface 53 v) 44 64 true).run Tryd.prog w = .ok (.tuple #[.agg #[.int .u8 0, .int .u8 0, .int .u8 0, .int .u16 0], .bool false]) w := by kernel_rfl
theorem as_quotient_move (v : Value) (w : World) : (Instr.typeAssert (.iface 53 v) 44 52 true).run Tryd.prog w = .ok (.tuple #[.agg #[.int .u8 0, .int .u8 0, .int .u8 0, .int .u16 0], .bool false]) w := by kernel_rfl
theorem as_reckoning_halt (v : Value) (w : World) : (Instr.typeAssert (.iface 54 v) 44 63 true).run Tryd.prog w = .ok (.tuple #[.agg #[], .bool false]) w := by kernel_rfl
theorem as_reckoning_quotient (v : Value) (w : World) : (Instr.typeAssert (.iface 54 v) 44 53 true).run Tryd.prog w = .ok (.tuple #[.agg #[.int .u8 0, .int .u8 0, .int .u8 0, .int .u16 0], .bool false]) w := by kernel_rfl
theorem as_reckoning_constant (v : Value) (w : World) : (Instr.typeAssert (.iface 54 v) 44 64 true).run Tryd.prog w = .ok (.tuple #[.agg #[.int .u8 0, .int .u8 0, .int .u8 0, .int .u16 0], .bool false]) w := by kernel_rfl
theorem as_reckoning_move (v : Value) (w : World) : (Instr.typeAssert (.iface 54 v) 44 52 true).run Tryd.prog w = .ok (.tuple #[.agg #[.int .u8 0, .int .u8 0, .int .u8 0, .int .u16 0], .bool false]) w := by kernel_rfl
theorem as_reckoning_reckoning (v : Value) (w : World) : (Instr.typeAssert (.iface 54 v) 44 54 true).run Tryd.prog w = .ok (.tuple #[v, .bool true]) w := by kernel_rfl
theorem as_load_halt (v : Value) (w : World) : (Instr.typeAssert (.iface 55 v) 44 63 true).run Tryd.prog w = .ok (.tuple #[.agg #[], .bool false]) w := by kernel_rfl
theorem as_load_quotient (v : Value) (w : World) : (Instr.typeAssert (.iface 55 v) 44 53 true).run Tryd.prog w = .ok (.tuple #[.agg #[.int .u8 0, .int .u8 0, .int .u8 0, .int .u16 0], .bool false]) w := by kernel_rfl
theorem as_load_constant (v : Value) (w : World) : (Instr.typeAssert (.iface 55 v) 44 64 true).run Tryd.prog w = .ok (.tuple #[.agg #[.int .u8 0, .int .u8 0, .int .u8 0, .int .u16 0], .bool false]) w := by kernel_rfl
theorem as_load_move (v : Value) (w : World) : (Instr.typeAssert (.iface 55 v) 44 52 true).run Tryd.prog w = .ok (.tuple #[.agg #[.int .u8 0, .int .u8 0, .int .u8 0, .int .u16 0], .bool false]) w := by kernel_rfl
theorem as_load_reckoning (v : Value) (w : World) : (Instr.typeAssert (.iface 55 v) 44 54 true).run Tryd.prog w = .ok (.tuple #[.agg #[.int .u8 0, .int .u8 0, .int .u8 0, .int .u16 0], .bool false]) w := by kernel_rfl
theorem as_load_load (v : Value) (w : World) : (Instr.typeAssert (.iface 55 v) 44 55 true).run Tryd.prog w = .ok (.tuple #[v, .bool true]) w := by kernel_rfl
theorem as_store_halt (v : Value) (w : World) : (Instr.typeAssert (.iface 56 v) 44 63 true).run Tryd.prog w = .ok (.tuple #[.agg #[], .bool false]) w := by kernel_rfl
theorem as_store_quotient (v : Value) (w : World) : (Instr.typeAssert (.iface 56 v) 44 53 true).run Tryd.prog w = .ok (.tuple #[.agg #[.int .u8 0, .int .u8 0, .int .u8 0, .int .u16 0], .bool false]) w := by kernel_rfl
theorem as_store_constant (v : Value) (w : World) : (Instr.typeAssert (.iface 56 v) 44 64 true).run Tryd.prog w = .ok (.tuple #[.agg #[.int .u8 0, .int .u8 0, .int .u8 0, .int .u16 0], .bool false]) w := by kernel_rfl
theorem as_store_move (v : Value) (w : World) : (Instr.typeAssert (.iface 56 v) 44 52 true).run Tryd.prog w = .ok (.tuple #[.agg #[.int .u8 0, .int .u8 0, .int .u8 0, .int .u16 0], .bool false]) w := by kernel_rfl
theorem as_store_reckoning (v : Value) (w : World) : (Instr.typeAssert (.iface 56 v) 44 54 true).run Tryd.prog w = .ok (.tuple #[.agg #[.int .u8 0, .int .u8 0, .int .u8 0, .int .u16 0], .bool false]) w := by kernel_rfl
theorem as_store_load (v : Value) (w : World) : (Instr.typeAssert (.iface 56 v) 44 55 true).run Tryd.prog w = .ok (.tuple #[.agg #[.int .u8 0, .int .u8 0, .int .u8 0, .int .u16 0], .bool false]) w := by kernel_rfl
theorem as_store_store (v : Value) (w : World) : (Instr.typeAssert (.iface 56 v) 44 56 true).run Tryd.prog w = .ok (.tuple #[v, .bool true]) w := by kernel_rfl
theorem as_jump_halt (v : Value) (w : World) : (Instr.typeAssert (.iface 65 v) 44 63 true).run Tryd.prog w = .ok (.tuple #[.agg #[], .bool false]) w := by kernel_rfl
theorem as_jump_quotient (v : Value) (w : World) : (Instr.typeAssert (.iface 65 v) 44 53 true).run Tryd.prog w = .ok (.tuple #[.agg #[.int .u8 0, .int .u8 0, .int .u8 0, .int .u16 0], .bool false]) w := by kernel_rfl
theorem as_jump_constant (v : Value) (w : World) : (Instr.typeAssert (.iface 65 v) 44 64 true).run Tryd.prog w = .ok (.tuple #[.agg #[.int .u8 0, .int .u8 0, .int .u8 0, .int .u16 0], .bool false]) w := by kernel_rfl
theorem as_jump_move (v : Value) (w : World) : (Instr.typeAssert (.iface 65 v) 44 52 true).run Tryd.prog w = .ok (.tuple #[.agg #[.int .u8 0, .int .u8 0, .int .u8 0, .int .u16 0], .bool false]) w := by kernel_rfl
theorem as_jump_reckoning (v : Value) (w : World) : (Instr.typeAssert (.iface 65 v) 44 54 true).run Tryd.prog w = .ok (.tuple #[.agg #[.int .u8 0, .int .u8 0, .int .u8 0, .int .u16 0], .bool false]) w := by kernel_rfl
theorem as_jump_load (v : Value) (w : World) : (Instr.typeAssert (.iface 65 v) 44 55 true).run Tryd.prog w = .ok (.tuple #[.agg #[.int .u8 0, .int .u8 0, .int .u8 0, .int .u16 0], .bool false]) w := by kernel_rfl
theorem as_jump_store (v : Value) (w : World) : (Instr.typeAssert (.iface 65 v) 44 56 true).run Tryd.prog w = .ok (.tuple #[.agg #[.int .u8 0, .int .u8 0, .int .u8 0, .int .u16 0], .bool false]) w := by kernel_rfl
theorem as_jump_jump (v : Value) (w : World) : (Instr.typeAssert (.iface 65 v) 44 65 true).run Tryd.prog w = .ok (.tuple #[v, .bool true]) w := by kernel_rfl
theorem as_zeroJump_halt (v : Value) (w : World) : (Instr.typeAssert (.iface 57 v) 44 63 true).run Tryd.prog w = .ok (.tuple #[.agg #[], .bool false]) w := by kernel_rfl
theorem as_zeroJump_quotient (v : Value) (w : World) : (Instr.typeAssert (.iface 57 v) 44 53 true).run Tryd.prog w = .ok (.tuple #[.agg #[.int .u8 0, .int .u8 0, .int .u8 0, .int .u16 0], .bool false]) w := by kernel_rfl
theorem as_zeroJump_constant (v : Value) (w : World) : (Instr.typeAssert (.iface 57 v) 44 64 true).run Tryd.prog w = .ok (.tuple #[.agg #[.int .u8 0, .int .u8 0, .int .u8 0, .int .u16 0], .bool false]) w := by kernel_rfl
theorem as_zeroJump_move (v : Value) (w : World) : (Instr.typeAssert (.iface 57 v) 44 52 true).run Tryd.prog w = .ok (.tuple #[.agg #[.int .u8 0, .int .u8 0, .int .u8 0, .int .u16 0], .bool false]) w := by kernel_rfl
theorem as_zeroJump_reckoning (v : Value) (w : World) : (Instr.typeAssert (.iface 57 v) 44 54 true).run Tryd.prog w = .ok (.tuple #[.agg #[.int .u8 0, .int .u8 0, .int .u8 0, .int .u16 0], .bool false]) w := by kernel_rfl
theorem as_zeroJump_load (v : Value) (w : World) : (Instr.typeAssert (.iface 57 v) 44 55 true).run Tryd.prog w = .ok (.tuple #[.agg #[.int .u8 0, .int .u8 0, .int .u8 0, .int .u16 0], .bool false]) w := by kernel_rfl
theorem as_zeroJump_store (v : Value) (w : World) : (Instr.typeAssert (.iface 57 v) 44 56 true).run Tryd.prog w = .ok (.tuple #[.agg #[.int .u8 0, .int .u8 0, .int .u8 0, .int .u16 0], .bool false]) w := by kernel_rfl
theorem as_zeroJump_jump (v : Value) (w : World) : (Instr.typeAssert (.iface 57 v) 44 65 true).run Tryd.prog w = .ok (.tuple #[.agg #[.int .u8 0, .int .u8 0, .int .u8 0, .int .u16 0], .bool false]) w := by kernel_rfl
theorem as_zeroJump_zeroJump (v : Value) (w : World) : (Instr.typeAssert (.iface 57 v) 44 57 true).run Tryd.prog w = .ok (.tuple #[v, .bool true]) w := by kernel_rfl
theorem as_lessJump_halt (v : Value) (w : World) : (Instr.typeAssert (.iface 58 v) 44 63 true).run Tryd.prog w = .ok (.tuple #[.agg #[], .bool false]) w := by kernel_rfl
theorem as_lessJump_quotient (v : Value) (w : World) : (Instr.typeAssert (.iface 58 v) 44 53 true).run Tryd.prog w = .ok (.tuple #[.agg #[.int .u8 0, .int .u8 0, .int .u8 0, .int .u16 0], .bool false]) w := by kernel_rfl
theorem as_lessJump_constant (v : Value) (w : World) : (Instr.typeAssert (.iface 58 v) 44 64 true).run Tryd.prog w = .ok (.tuple #[.agg #[.int .u8 0, .int .u8 0, .int .u8 0, .int .u16 0], .bool false]) w := by kernel_rfl
theorem as_lessJump_move (v : Value) (w : World) : (Instr.typeAssert (.iface 58 v) 44 52 true).run Tryd.prog w = .ok (.tuple #[.agg #[.int .u8 0, .int .u8 0, .int .u8 0, .int .u16 0], .bool false]) w := by kernel_rfl
theorem as_lessJump_reckoning (v : Value) (w : World) : (Instr.typeAssert (.iface 58 v) 44 54 true).run Tryd.prog w = .ok (.tuple #[.agg #[.int .u8 0, .int .u8 0, .int .u8 0, .int .u16 0], .bool false]) w := by kernel_rfl
theorem as_lessJump_load (v : Value) (w : World) : (Instr.typeAssert (.iface 58 v) 44 55 true).run Tryd.prog w = .ok (.tuple #[.agg #[.int .u8 0, .int .u8 0, .int .u8 0, .int .u16 0], .bool false]) w := by kernel_rfl
theorem as_lessJump_store (v : Value) (w : World) : (Instr.typeAssert (.iface 58 v) 44 56 true).run Tryd.prog w = .ok (.tuple #[.agg #[.int .u8 0, .int .u8 0, .int .u8 0, .int .u16 0], .bool false]) w := by kernel_rfl
theorem as_lessJump_jump (v : Value) (w : World) : (Instr.typeAssert (.iface 58 v) 44 65 true).run Tryd.prog w = .ok (.tuple #[.agg #[.int .u8 0, .int .u8 0, .int .u8 0, .int .u16 0], .bool false]) w := by kernel_rfl
theorem as_lessJump_zeroJump (v : Value) (w : World) : (Instr.typeAssert (.iface 58 v) 44 57 true).run Tryd.prog w = .ok (.tuple #[.agg #[.int .u8 0, .int .u8 0, .int .u8 0, .int .u16 0], .bool false]) w := by kernel_rfl
theorem as_lessJump_lessJump (v : Value) (w : World) : (Instr.typeAssert (.iface 58 v) 44 58 true).run Tryd.prog w = .ok (.tuple #[v, .bool true]) w := by kernel_rfl
theorem as_call_halt (v : Value) (w : World) : (Instr.typeAssert (.iface 66 v) 44 63 true).run Tryd.prog w = .ok (.tuple #[.agg #[], .bool false]) w := by kernel_rfl
theorem as_call_quotient (v : Value) (w : World) : (Instr.typeAssert (.iface 66 v) 44 53 true).run Tryd.prog w = .ok (.tuple #[.agg #[.int .u8 0, .int .u8 0, .int .u8 0, .int .u16 0], .bool false]) w := by kernel_rfl
theorem as_call_constant (v : Value) (w : World) : (Instr.typeAssert (.iface 66 v) 44 64 true).run Tryd.prog w = .ok (.tuple #[.agg #[.int .u8 0, .int .u8 0, .int .u8 0, .int .u16 0], .bool false]) w := by kernel_rfl
theorem as_call_move (v : Value) (w : World) : (Instr.typeAssert (.iface 66 v) 44 52 true).run Tryd.prog w = .ok (.tuple #[.agg #[.int .u8 0, .int .u8 0, .int .u8 0, .int .u16 0], .bool false]) w := by kernel_rfl
theorem as_call_reckoning (v : Value) (w : World) : (Instr.typeAssert (.iface 66 v) 44 54 true).run Tryd.prog w = .ok (.tuple #[.agg #[.int .u8 0, .int .u8 0, .int .u8 0, .int .u16 0], .bool false]) w := by kernel_rfl
theorem as_call_load (v : Value) (w : World) : (Instr.typeAssert (.iface 66 v) 44 55 true).run Tryd.prog w = .ok (.tuple #[.agg #[.int .u8 0, .int .u8 0, .int .u8 0, .int .u16 0], .bool false]) w := by kernel_rfl
theorem as_call_store (v : Value) (w : World) : (Instr.typeAssert (.iface 66 v) 44 56 true).run Tryd.prog w = .ok (.tuple #[.agg #[.int .u8 0, .int .u8 0, .int .u8 0, .int .u16 0], .bool false]) w := by kernel_rfl
theorem as_call_jump (v : Value) (w : World) : (Instr.typeAssert (.iface 66 v) 44 65 true).run Tryd.prog w = .ok (.tuple #[.agg #[.int .u8 0, .int .u8 0, .int .u8 0, .int .u16 0], .bool false]) w := by kernel_rfl
theorem as_call_zeroJump (v : Value) (w : World) : (Instr.typeAssert (.iface 66 v) 44 57 true).run Tryd.prog w = .ok (.tuple #[.agg #[.int .u8 0, .int .u8 0, .int .u8 0, .int .u16 0], .bool false]) w := by kernel_rfl
theorem as_call_lessJump (v : Value) (w : World) : (Instr.typeAssert (.iface 66 v) 44 58 true).run Tryd.prog w = .ok (.tuple #[.agg #[.int .u8 0, .int .u8 0, .int .u8 0, .int .u16 0], .bool false]) w := by kernel_rfl
theorem as_call_call (v : Value) (w : World) : (Instr.typeAssert (.iface 66 v) 44 66 true).run Tryd.prog w = .ok (.tuple #[v, .bool true]) w := by kernel_rfl
theorem as_back_halt (v : Value) (w : World) : (Instr.typeAssert (.iface 60 v) 44 63 true).run Tryd.prog w = .ok (.tuple #[.agg #[], .bool false]) w := by kernel_rfl
theorem as_back_quotient (v : Value) (w : World) : (Instr.typeAssert (.iface 60 v) 44 53 true).run Tryd.prog w = .ok (.tuple #[.agg #[.int .u8 0, .int .u8 0, .int .u8 0, .int .u16 0], .bool false]) w := by kernel_rfl
theorem as_back_constant (v : Value) (w : World) : (Instr.typeAssert (.iface 60 v) 44 64 true).run Tryd.prog w = .ok (.tuple #[.agg #[.int .u8 0, .int .u8 0, .int .u8 0, .int .u16 0], .bool false]) w := by kernel_rfl
theorem as_back_move (v : Value) (w : World) : (Instr.typeAssert (.iface 60 v) 44 52 true).run Tryd.prog w = .ok (.tuple #[.agg #[.int .u8 0, .int .u8 0, .int .u8 0, .int .u16 0], .bool false]) w := by kernel_rfl
theorem as_back_reckoning (v : Value) (w : World) : (Instr.typeAssert (.iface 60 v) 44 54 true).run Tryd.prog w = .ok (.tuple #[.agg #[.int .u8 0, .int .u8 0, .int .u8 0, .int .u16 0], .bool false]) w := by kernel_rfl
theorem as_back_load (v : Value) (w : World) : (Instr.typeAssert (.iface 60 v) 44 55 true).run Tryd.prog w = .ok (.tuple #[.agg #[.int .u8 0, .int .u8 0, .int .u8 0, .int .u16 0], .bool false]) w := by kernel_rfl
theorem as_back_store (v : Value) (w : World) : (Instr.typeAssert (.iface 60 v) 44 56 true).run Tryd.prog w = .ok (.tuple #[.agg #[.int .u8 0, .int .u8 0, .int .u8 0, .int .u16 0], .bool false]) w := by kernel_rfl
theorem as_back_jump (v : Value) (w : World) : (Instr.typeAssert (.iface 60 v) 44 65 true).run Tryd.prog w = .ok (.tuple #[.agg #[.int .u8 0, .int .u8 0, .int .u8 0, .int .u16 0], .bool false]) w := by kernel_rfl
theorem as_back_zeroJump (v : Value) (w : World) : (Instr.typeAssert (.iface 60 v) 44 57 true).run Tryd.prog w = .ok (.tuple #[.agg #[.int .u8 0, .int .u8 0, .int .u8 0, .int .u16 0], .bool false]) w := by kernel_rfl
theorem as_back_lessJump (v : Value) (w : World) : (Instr.typeAssert (.iface 60 v) 44 58 true).run Tryd.prog w = .ok (.tuple #[.agg #[.int .u8 0, .int .u8 0, .int .u8 0, .int .u16 0], .bool false]) w := by kernel_rfl
theorem as_back_call (v : Value) (w : World) : (Instr.typeAssert (.iface 60 v) 44 66 true).run Tryd.prog w = .ok (.tuple #[.agg #[.int .u8 0, .int .u8 0, .int .u8 0, .int .u16 0], .bool false]) w := by kernel_rfl
theorem as_back_back (v : Value) (w : World) : (Instr.typeAssert (.iface 60 v) 44 60 true).run Tryd.prog w = .ok (.tuple #[v, .bool true]) w := by kernel_rfl
theorem as_system_halt (v : Value) (w : World) : (Instr.typeAssert (.iface 67 v) 44 63 true).run Tryd.prog w = .ok (.tuple #[.agg #[], .bool false]) w := by kernel_rfl
theorem as_system_quotient (v : Value) (w : World) : (Instr.typeAssert (.iface 67 v) 44 53 true).run Tryd.prog w = .ok (.tuple #[.agg #[.int .u8 0, .int .u8 0, .int .u8 0, .int .u16 0], .bool false]) w := by kernel_rfl
theorem as_system_constant (v : Value) (w : World) : (Instr.typeAssert (.iface 67 v) 44 64 true).run Tryd.prog w = .ok (.tuple #[.agg #[.int .u8 0, .int .u8 0, .int .u8 0, .int .u16 0], .bool false]) w := by kernel_rfl
theorem as_system_move (v : Value) (w : World) : (Instr.typeAssert (.iface 67 v) 44 52 true).run Tryd.prog w = .ok (.tuple #[.agg #[.int .u8 0, .int .u8 0, .int .u8 0, .int .u16 0], .bool false]) w := by kernel_rfl
theorem as_system_reckoning (v : Value) (w : World) : (Instr.typeAssert (.iface 67 v) 44 54 true).run Tryd.prog w = .ok (.tuple #[.agg #[.int .u8 0, .int .u8 0, .int .u8 0, .int .u16 0], .bool false]) w := by kernel_rfl
theorem as_system_load (v : Value) (w : World) : (Instr.typeAssert (.iface 67 v) 44 55 true).run Tryd.prog w = .ok (.tuple #[.agg #[.int .u8 0, .int .u8 0, .int .u8 0, .int .u16 0], .bool false]) w := by kernel_rfl
theorem as_system_store (v : Value) (w : World) : (Instr.typeAssert (.iface 67 v) 44 56 true).run Tryd.prog w = .ok (.tuple #[.agg #[.int .u8 0, .int .u8 0, .int .u8 0, .int .u16 0], .bool false]) w := by kernel_rfl
theorem as_system_jump (v : Value) (w : World) : (Instr.typeAssert (.iface 67 v) 44 65 true).run Tryd.prog w = .ok (.tuple #[.agg #[.int .u8 0, .int .u8 0, .int .u8 0, .int .u16 0], .bool false]) w := by kernel_rfl
theorem as_system_zeroJump (v : Value) (w : World) : (Instr.typeAssert (.iface 67 v) 44 57 true).run Tryd.prog w = .ok (.tuple #[.agg #[.int .u8 0, .int .u8 0, .int .u8 0, .int .u16 0], .bool false]) w := by kernel_rfl
theorem as_system_lessJump (v : Value) (w : World) : (Instr.typeAssert (.iface 67 v) 44 58 true).run Tryd.prog w = .ok (.tuple #[.agg #[.int .u8 0, .int .u8 0, .int .u8 0, .int .u16 0], .bool false]) w := by kernel_rfl
theorem as_system_call (v : Value) (w : World) : (Instr.typeAssert (.iface 67 v) 44 66 true).run Tryd.prog w = .ok (.tuple #[.agg #[.int .u8 0, .int .u8 0, .int .u8 0, .int .u16 0], .bool false]) w := by kernel_rfl
theorem as_system_back (v : Value) (w : World) : (Instr.typeAssert (.iface 67 v) 44 60 true).run Tryd.prog w = .ok (.tuple #[.agg #[], .bool false]) w := by kernel_rfl
theorem as_system_system (v : Value) (w : World) : (Instr.typeAssert (.iface 67 v) 44 67 true).run Tryd.prog w = .ok (.tuple #[v, .bool true]) w := by kernel_rfl
end Go.Proofs.YtbjklpdloglniaaDoor
