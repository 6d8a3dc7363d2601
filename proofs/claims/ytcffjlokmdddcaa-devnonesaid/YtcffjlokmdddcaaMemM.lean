/- The document's memory: is a frame clean. -/
import Derived.Test.YtcffjlokmdddcaaMemL
import Derived.BigRegion
namespace Go.Proofs.Ytcffjlokmdddcaa
open Go.RowKit Go.Maps
set_option linter.unusedVariables false
set_option maxRecDepth 100000
end Go.Proofs.Ytcffjlokmdddcaa
