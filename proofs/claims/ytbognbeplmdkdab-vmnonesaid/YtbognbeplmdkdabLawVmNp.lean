/- VmNone: the walk. -/
import Derived.Test.YtbognbeplmdkdabVmN
import Derived.Test.YtbognbeplmdkdabVmNil
namespace Go.Proofs.Ytbognbeplmdkdab
open Go.RowKit Go.Maps
set_option linter.unusedVariables false
set_option maxRecDepth 100000
set_option maxHeartbeats 1000000 in
theorem poke_nil (p n b : Int) (w : World) : Calls Try.prog 12 #[.pointer none, .int .i64 p, .int .i64 n, .int .u8 b] w fun r w' => r = .returned (.int .i64 1) ∧ Below w.heap.size w w' := by
  have cF := fun v W => vfill_nil p n v W
  go_enter Try.func12, Try.ntmps12
  go_wp2_with fail
  refine (cF _ _).mono ?_
  rintro r W ⟨rfl, hW⟩
  rw [hW]
  clear cF hW
  go_wp2
  go_ret
  exact ⟨rfl, below_new _ _⟩
end Go.Proofs.Ytbognbeplmdkdab
