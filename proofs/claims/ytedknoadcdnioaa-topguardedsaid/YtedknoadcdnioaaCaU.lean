/- The document's table: Find. -/
import Derived.Test.YtedknoadcdnioaaCaT
namespace Go.Proofs.Ytedknoadcdnioaa
open Go.RowKit Go.Maps Go.Sort
set_option linter.unusedVariables false
set_option maxRecDepth 100000
end Go.Proofs.Ytedknoadcdnioaa
