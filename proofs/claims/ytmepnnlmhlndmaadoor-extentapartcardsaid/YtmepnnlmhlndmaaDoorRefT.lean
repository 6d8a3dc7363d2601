/- The document's answer for what stands above two names. -/
import Derived.Test.YtmepnnlmhlndmaaDoorRefR
namespace Go.Proofs.YtmepnnlmhlndmaaDoor
open Go.RowKit Go.Shelf
set_option linter.unusedVariables false

end Go.Proofs.YtmepnnlmhlndmaaDoor
