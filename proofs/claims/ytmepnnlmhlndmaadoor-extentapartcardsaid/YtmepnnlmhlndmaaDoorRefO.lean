/- The document's answers for names: how many labels, the name above, one below, what stands above what. -/
import Derived.Test.YtmepnnlmhlndmaaDoorRefN
namespace Go.Proofs.YtmepnnlmhlndmaaDoor
open Go.RowKit Go.Shelf
set_option linter.unusedVariables false

end Go.Proofs.YtmepnnlmhlndmaaDoor
