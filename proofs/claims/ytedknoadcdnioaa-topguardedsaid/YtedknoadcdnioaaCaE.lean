/- The program's table: Derive and Restrict that come to an end. -/
import Derived.Test.YtedknoadcdnioaaCaD
namespace Go.Proofs.Ytedknoadcdnioaa
open Go.RowKit Go.Maps Go.Sort
set_option linter.unusedVariables false
set_option maxRecDepth 100000
end Go.Proofs.Ytedknoadcdnioaa
