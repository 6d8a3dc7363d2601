/- The document's answer for what stands above two names. -/
import Derived.Test.YtjocjjclgebfnaaDoorRefR
namespace Go.Proofs.YtjocjjclgebfnaaDoor
open Go.RowKit Go.Shelf
set_option linter.unusedVariables false

end Go.Proofs.YtjocjjclgebfnaaDoor
