/- The document's table: Drop, Derive, Restrict, Fork, Room. -/
import Derived.Test.YtedknoadcdnioaaCaR
import Derived.Test.YtedknoadcdnioaaCaJ
namespace Go.Proofs.Ytedknoadcdnioaa
open Go.RowKit Go.Maps
set_option linter.unusedVariables false
set_option maxRecDepth 100000
end Go.Proofs.Ytedknoadcdnioaa
