/- When registers, and what is asked for, are the same. -/
import Derived.Test.YtbjklpdloglniaaDoorCpuI
namespace Go.Proofs.YtbjklpdloglniaaDoor
open Go.RowKit
set_option linter.unusedVariables false
set_option maxRecDepth 100000
theorem eqGuardR : Tryd.prog.eqGuardType Tryd.prog.depth 26 = false := by kernel_rfl
theorem eqGuardA : Tryd.prog.eqGuardType Tryd.prog.depth 35 = false := by kernel_rfl
set_option maxHeartbeats 2000000 in
theorem eqAcc (w : World) (x : Acc) : (Op.equalIn 10000 35 (accV x) (accV x)).run Tryd.prog w = .ok true w := by
  obtain ⟨x0, x1, x2, x3, x4⟩ := x
  unfold accV
  show (Op.equalIn (9998 + 1 + 1) 35 _ _).run Tryd.prog w = _
  rw [Op.equalIn]
  simp only [Sem.run_bind, run_underlying Tryd.underlying35, Result.andThen_ok]
  simp [go_sem]
set_option maxHeartbeats 2000000 in
theorem eqArr8 (w : World) (r : Nat → Int) : (Op.equalIn 9999 24 (arV r) (arV r)).run Tryd.prog w = .ok true w := by
  have h5 : ∀ x y, (Op.equalIn 9998 23 (.int .u16 x) (.int .u16 y)).run Tryd.prog w = .ok (x == y) w := fun x y => run_equalIn_int w 9997 23 .u16 .u16 x y Tryd.underlying23
  unfold arV
  show (Op.equalIn (9997 + 1 + 1) 24 _ _).run Tryd.prog w = _
  rw [Op.equalIn]
  simp only [Sem.run_bind, run_underlying Tryd.underlying24, Result.andThen_ok]
  simp [go_sem, List.range'_succ, h5]
set_option maxHeartbeats 2000000 in
theorem eqRgs (w : World) (pc : Int) (r : Nat → Int) : (Op.equalIn 10000 26 (rgV pc r) (rgV pc r)).run Tryd.prog w = .ok true w := by
  have h8 := eqArr8
  unfold arV at h8
  unfold rgV
  show (Op.equalIn (9998 + 1 + 1) 26 _ _).run Tryd.prog w = _
  rw [Op.equalIn]
  simp only [Sem.run_bind, run_underlying Tryd.underlying26, Result.andThen_ok]
  simp [go_sem, h8]
end Go.Proofs.YtbjklpdloglniaaDoor
