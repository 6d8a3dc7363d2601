/- The document's memory: what is read and written. -/
import Derived.Test.YtcffjlokmdddcaaMemR
namespace Go.Proofs.Ytcffjlokmdddcaa
open Go.RowKit Go.Maps
set_option linter.unusedVariables false
set_option maxRecDepth 100000
end Go.Proofs.Ytcffjlokmdddcaa
