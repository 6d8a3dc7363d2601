/- What each function of words does, told by the numbers of the text Nums: both the program's and the document's own. -/
import Derived.Test.YtdmahmolhdbegaaRows
import Derived.Test.YtdmahmolhdbegaaNums
import Derived.WalkKit
import Derived.WalkSpells
import Derived.WalkLawsBesides
import Derived.Handy
import Derived.Deep.QuietTactic
import Derived.BigQuiet
namespace Go.Proofs.Ytdmahmolhdbegaa
open Go.RowKit
set_option linter.unusedVariables false

theorem ret1 {v v' : Value} (h : v = v') : Ending.returned v = .returned v' := by rw [h]
theorem int1 {k : IntKind} {a b : Int} (h : a = b) : Value.int k a = .int k b := by rw [h]

end Go.Proofs.Ytdmahmolhdbegaa
