/- The document's answer for what stands above two names. -/
import Derived.Test.YtioinppclejbhaaDoorRefR
namespace Go.Proofs.YtioinppclejbhaaDoor
open Go.RowKit Go.Shelf
set_option linter.unusedVariables false

end Go.Proofs.YtioinppclejbhaaDoor
