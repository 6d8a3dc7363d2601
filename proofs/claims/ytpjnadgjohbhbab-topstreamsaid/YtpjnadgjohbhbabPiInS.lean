/- A text and a byte as they come in. -/
import Derived.Test.YtpjnadgjohbhbabPiIn2
namespace Go.Proofs.Ytpjnadgjohbhbab
open Go.ChangeShapes Go.WideShapes Go.ChangeAt Go.RowKit Go.ChangeMaps Go.Joins
theorem laidOut : laidOutB Try.prog = true := by kernel_rfl
theorem own : ownKnob Try.prog.godebug = none := by kernel_rfl
end Go.Proofs.Ytpjnadgjohbhbab
