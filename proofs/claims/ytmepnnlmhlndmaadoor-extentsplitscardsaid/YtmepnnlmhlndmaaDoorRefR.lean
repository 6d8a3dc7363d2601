/- The document's answers for names: what stands above what, what stands above both; whether texts are the same. -/
import Derived.Test.YtmepnnlmhlndmaaDoorRefO
namespace Go.Proofs.YtmepnnlmhlndmaaDoor
open Go.RowKit Go.Shelf
set_option linter.unusedVariables false

end Go.Proofs.YtmepnnlmhlndmaaDoor
