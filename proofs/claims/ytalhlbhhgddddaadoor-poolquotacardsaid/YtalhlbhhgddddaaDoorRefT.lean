/- The document's answer for what stands above two names. -/
import Derived.Test.YtalhlbhhgddddaaDoorRefR
namespace Go.Proofs.YtalhlbhhgddddaaDoor
open Go.RowKit Go.Shelf
set_option linter.unusedVariables false

end Go.Proofs.YtalhlbhhgddddaaDoor
