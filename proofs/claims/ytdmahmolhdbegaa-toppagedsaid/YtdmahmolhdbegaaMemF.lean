/- What must be whatever is asked. -/
import Derived.Test.YtdmahmolhdbegaaMemE
namespace Go.Proofs.Ytdmahmolhdbegaa
open Go.RowKit Go.Maps
set_option linter.unusedVariables false
set_option maxRecDepth 100000
theorem live_bytes : (putL (putL zeroL (0 * 32 + 30) [258 / 256, 258 % 256]) (0 * 32 + 31) [7, 8]).getD (0 * 32 + 30) 0 = 1 ∧ (putL (putL zeroL (0 * 32 + 30) [258 / 256, 258 % 256]) (0 * 32 + 31) [7, 8]).getD (1 * 32 + 0) 0 = 8 := by
  constructor <;> decide +kernel
end Go.Proofs.Ytdmahmolhdbegaa
