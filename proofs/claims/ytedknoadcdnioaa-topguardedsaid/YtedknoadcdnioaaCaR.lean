/- The document's table: slot, Get, Put, Drop, New, Fork. -/
import Derived.Test.YtedknoadcdnioaaCaC
namespace Go.Proofs.Ytedknoadcdnioaa
open Go.RowKit Go.Maps
set_option linter.unusedVariables false
set_option maxRecDepth 100000
theorem slot_name (o : Option Rc) : ((slotC o).1.toList == ([] : List UInt8)) = !o.isSome := by
  cases o with
  | none => simp [slotC, zC, Lib.toList_data]
  | some c =>
    have h1 : ((slotC (some c)).1.toList == ([] : List UInt8)) = false := by
      rw [beq_eq_false_iff_ne, Lib.toList_data]
      exact rc_ne c
    rw [h1]
    rfl
end Go.Proofs.Ytedknoadcdnioaa
