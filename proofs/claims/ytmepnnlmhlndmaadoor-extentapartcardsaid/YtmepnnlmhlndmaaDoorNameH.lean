/- What is made of a capability. -/
import Derived.Test.YtmepnnlmhlndmaaDoorNameG
namespace Go.Proofs.YtmepnnlmhlndmaaDoor
open Go.RowKit Go.Shelf
set_option linter.unusedVariables false

/-- A capability and an error. -/
def capsV (o : List UInt8 × BitVec 8 × Int) : Value := .tuple #[capV ⟨o.1.toArray⟩ o.2.1.toNat, .int .i64 o.2.2]
def restrictO (n : List UInt8) (r x : BitVec 8) : List UInt8 × BitVec 8 × Int := if rightB n r.toNat && decide ((x.toNat : Int) ≤ 31) then (n, r &&& x, 0) else ([], 0#8, 3)

def deriveO (n : List UInt8) (r : BitVec 8) (l : List UInt8) : List UInt8 × BitVec 8 × Int :=
  if rightB n r.toNat && labB ⟨l.toArray⟩ then (if r &&& 8#8 = 0#8 then ([], 0#8, 7) else if (childO n l).2 = 0 then ((childO n l).1, r, 0) else ([], 0#8, (childO n l).2)) else ([], 0#8, 3)

end Go.Proofs.YtmepnnlmhlndmaaDoor
