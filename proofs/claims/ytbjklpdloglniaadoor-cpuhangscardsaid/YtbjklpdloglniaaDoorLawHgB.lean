/- CpuHangs: the walk, with live. -/
import Derived.Test.YtbjklpdloglniaaDoorLawHg
import Derived.Test.YtbjklpdloglniaaDoorCpuQ
namespace Go.Proofs.YtbjklpdloglniaaDoor
open Go.RowKit
theorem changs_law (pc : Int) (r : Nat → Int) (pc2 : Int) (t : Nat → Int) (o a b m : Int) (w : World) (hp : Wd pc) (hr : ∀ k, Wd (r k)) (_hp2 : Wd pc2) (ht : ∀ k, Wd (t k)) (hO : InsOk o a b m) :
    Calls Tryd.prog 3 #[rgV pc r, rgV pc2 t, insV o a b m] w fun e w' => e = .returned (.bool true) ∧ Below w.heap.size w w' := changs_a clive_any pc r pc2 t o a b m w hp hr ht hO
end Go.Proofs.YtbjklpdloglniaaDoor
