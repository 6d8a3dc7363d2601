/- The document's table: Room, Find, Slots, Fork. -/
import Derived.Test.YtedknoadcdnioaaCaS
namespace Go.Proofs.Ytedknoadcdnioaa
open Go.RowKit Go.Maps
set_option linter.unusedVariables false
set_option maxRecDepth 100000
theorem firstO_at (q : Fin 12 → Bool) (we : Int) (k : Nat) (hk : k < 12) (h : thL q k = []) (hq : q ⟨k, hk⟩ = true) : firstO q we = ((k : Int), 0) := by
  have h1 : thL q (k + 1) = [⟨k, hk⟩] := by simp [thL, h, hk, hq]
  obtain ⟨r, hr⟩ := thL_pre q (k + 1) 12 (by omega)
  unfold firstO
  rw [← hr, h1]
  rfl
theorem thL_no (q : Fin 12 → Bool) (k : Nat) (hk : k < 12) (h : thL q k = []) (hq : q ⟨k, hk⟩ = false) : thL q (k + 1) = [] := by simp [thL, h, hk, hq]
theorem firstO_no (q : Fin 12 → Bool) (we : Int) (h : thL q 12 = []) : firstO q we = (0, we) := by unfold firstO; rw [h]
end Go.Proofs.Ytedknoadcdnioaa
