/- The document's memory: frames that are zeroed, copied, filled; a new one; a word. -/
import Derived.Test.YtcffjlokmdddcaaMemS
namespace Go.Proofs.Ytcffjlokmdddcaa
open Go.RowKit Go.Maps
set_option linter.unusedVariables false
set_option maxRecDepth 100000
theorem putL_snoc {L vs : List Int} {k i : Nat} (h : k + vs.length ≤ L.length) (hi : i < vs.length) : putL (putL L k (vs.take i)) (k + i) [vs.getD i 0] = putL L k (vs.take (i + 1)) := by
  have e := putL_take (L := L) (vs := vs) (K := k) (d := i) (m := 1) h (by omega)
  rw [← e]
  congr 1
  rw [List.drop_eq_getElem_cons hi, List.getD_eq_getElem?_getD, List.getElem?_eq_getElem hi]
  rfl
end Go.Proofs.Ytcffjlokmdddcaa
