/- The document's own reading of digits; the law WordParses. -/
import Derived.Test.YteoappoacapdhabDoorRefS
import Derived.Test.YteoappoacapdhabDoorLive
namespace Go.Proofs.YteoappoacapdhabDoor
open Go.RowKit
set_option linter.unusedVariables false

theorem dig_rdig (b : UInt8) : (48 ≤ b.toNat ∧ b.toNat ≤ 57 → rdig b = (b.toNat : Int) - 48) ∧ (¬ (48 ≤ b.toNat ∧ b.toNat ≤ 57) → 9 < rdig b) := by
  unfold rdig hexN
  refine ⟨fun h => by rw [if_pos h]; rfl, fun h => ?_⟩
  rw [if_neg h]
  split
  · simp; omega
  · simp

def capO (o : Option Int) : Option Int := match o with
  | some m => if m ≤ 65535 then some m else none
  | none => none
def ncapO (o : Option Int) : Option Int := match o with
  | some m => if m ≤ 65535 then some (-m) else none
  | none => none
theorem digL_cap (l : List UInt8) : digL l 0 = capO (decL l 0) := digL_dec l 0 (by omega) (by omega)

end Go.Proofs.YteoappoacapdhabDoor
