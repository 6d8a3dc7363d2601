/- VmNone: the walk. -/
import Derived.Test.YtbognbeplmdkdabLawVmNa
import Derived.Test.YtbognbeplmdkdabLawVmNb
import Derived.Test.YtbognbeplmdkdabLawVmNc
namespace Go.Proofs.Ytbognbeplmdkdab
open Go.RowKit Go.Maps
set_option linter.unusedVariables false
set_option maxRecDepth 100000
theorem none_law (k p q m c n : Int) (u : Value) (w : World) : Calls Try.prog 3 #[.agg #[.int .i64 k, .int .i64 p, .int .i64 q, .int .i64 m, .int .u8 c, u], .int .i64 n] w fun r w' => r = .returned (.bool true) ∧ Below w.heap.size w w' := by
  by_cases h1 : n < 1
  · exact none_low k p q m c n u h1 w
  by_cases h2 : 64 < n
  · exact none_high k p q m c n u h2 w
  · exact none_good k p q m c n u (by omega) (by omega) w
end Go.Proofs.Ytbognbeplmdkdab
