/- What must be whatever is asked: of names, it is. -/
import Derived.Test.YtmepnnlmhlndmaaDoorNameI
namespace Go.Proofs.YtmepnnlmhlndmaaDoor
open Go.RowKit Go.Shelf
set_option linter.unusedVariables false

set_option maxRecDepth 100000 in
theorem live_derive : deriveO [47, 97] 9#8 [206, 178] = ([47, 97, 47, 206, 178], 9#8, 0) := by decide
set_option maxRecDepth 100000 in
theorem live_print : printO [47, 97, 47, 206, 178] 9#8 = ([47, 97, 47, 206, 178, 32, 114, 103], 0) := by decide
set_option maxRecDepth 100000 in
theorem live_opens : opensB [47, 97] 1#8 [47, 97, 47, 98] 1#8 = true := by decide
set_option maxRecDepth 100000 in
theorem live_above : aboveB [47, 97, 98] [47, 97] = false := by decide

end Go.Proofs.YtmepnnlmhlndmaaDoor
