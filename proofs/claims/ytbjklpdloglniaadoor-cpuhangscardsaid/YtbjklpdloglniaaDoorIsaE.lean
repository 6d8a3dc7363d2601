/- When two instructions are the same: the program. -/
import Derived.Test.YtbjklpdloglniaaDoorIsaP
namespace Go.Proofs.YtbjklpdloglniaaDoor
open Go.RowKit
set_option linter.unusedVariables false

theorem take_fold (L : List (Nat × Int)) (k : Nat) (h : k < L.length) (i : Int × Int × Int × Int) : (L.take (k + 1)).foldl layP i = layP ((L.take k).foldl layP i) L[k] := by
  rw [List.take_succ_eq_append_getElem h, List.foldl_append]
  rfl
theorem eqGuardI : Tryd.prog.eqGuardType Tryd.prog.depth 29 = false := by kernel_rfl
theorem eqIns (w : World) (o' a' b' m' o a b m : Int) : (Op.equalIn 10000 29 (.agg #[.int .u8 o', .int .u8 a', .int .u8 b', .int .u16 m']) (.agg #[.int .u8 o, .int .u8 a, .int .u8 b, .int .u16 m])).run Tryd.prog w = .ok (decide ((o', a', b', m') = (o, a, b, m))) w := by
  show (Op.equalIn (9998 + 1 + 1) 29 _ _).run Tryd.prog w = _
  rw [Op.equalIn]
  simp only [Sem.run_bind, run_underlying Tryd.underlying29, Result.andThen_ok]
  by_cases e1 : o' = o <;> by_cases e2 : a' = a <;> by_cases e3 : b' = b <;> by_cases e4 : m' = m <;> simp [go_sem, e1, e2, e3, e4]
end Go.Proofs.YtbjklpdloglniaaDoor
