/- The document's answers for names: how many labels, the name above, one below, what stands above what. -/
import Derived.Test.YtalhlbhhgddddaaDoorRefN
namespace Go.Proofs.YtalhlbhhgddddaaDoor
open Go.RowKit Go.Shelf
set_option linter.unusedVariables false

end Go.Proofs.YtalhlbhhgddddaaDoor
