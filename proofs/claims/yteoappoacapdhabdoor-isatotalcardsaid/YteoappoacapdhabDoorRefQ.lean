/- The document's own reading of a word as text: the same number, or none. -/
import Derived.Test.YteoappoacapdhabDoorRefP
namespace Go.Proofs.YteoappoacapdhabDoor
open Go.RowKit
set_option linter.unusedVariables false

end Go.Proofs.YteoappoacapdhabDoor
