/- Two memories side by side, the program's and the document's; a deed on both. -/
import Derived.Test.YtdmahmolhdbegaaMemV
namespace Go.Proofs.Ytdmahmolhdbegaa
open Go.RowKit Go.Maps
set_option linter.unusedVariables false
set_option maxRecDepth 100000
end Go.Proofs.Ytdmahmolhdbegaa
