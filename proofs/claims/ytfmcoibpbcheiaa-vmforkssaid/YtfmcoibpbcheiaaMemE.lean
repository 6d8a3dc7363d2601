/- A memory is filled. -/
import Derived.Test.YtfmcoibpbcheiaaMemD
namespace Go.Proofs.Ytfmcoibpbcheiaa
open Go.RowKit Go.Maps
set_option linter.unusedVariables false
set_option maxRecDepth 100000
def slLen : Value → Nat
  | .slice _ n _ => n
  | _ => 0
structure Hid2 (p : Prop) : Prop where
  out : p
theorem putL_take {L vs : List Int} {K d m : Nat} (h : K + vs.length ≤ L.length) (hd : d + m ≤ vs.length) : putL (putL L K (vs.take d)) (K + d) ((vs.drop d).take m) = putL L K (vs.take (d + m)) := by
  have e : (vs.take d).length = d := by rw [List.length_take]; omega
  have := putL_putL (L := L) (u := vs.take d) (v := (vs.drop d).take m) (k := K) (by omega)
  rw [e] at this
  rw [this, List.take_add]
end Go.Proofs.Ytfmcoibpbcheiaa
