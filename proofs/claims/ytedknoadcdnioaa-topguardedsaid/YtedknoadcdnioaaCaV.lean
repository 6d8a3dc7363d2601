/- The document's table: Slots. -/
import Derived.Test.YtedknoadcdnioaaCaU
namespace Go.Proofs.Ytedknoadcdnioaa
open Go.RowKit Go.Maps
set_option linter.unusedVariables false
set_option maxRecDepth 100000
theorem thL_snoc (q : Fin 12 → Bool) (k : Nat) (hk : k < 12) : thL q (k + 1) = thL q k ++ (if q ⟨k, hk⟩ then [⟨k, hk⟩] else []) := by simp [thL, hk]
end Go.Proofs.Ytedknoadcdnioaa
