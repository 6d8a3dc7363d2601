/- The document's memory: is a frame clean. -/
import Derived.Test.YtdmahmolhdbegaaMemL
import Derived.BigRegion
namespace Go.Proofs.Ytdmahmolhdbegaa
open Go.RowKit Go.Maps
set_option linter.unusedVariables false
set_option maxRecDepth 100000
end Go.Proofs.Ytdmahmolhdbegaa
