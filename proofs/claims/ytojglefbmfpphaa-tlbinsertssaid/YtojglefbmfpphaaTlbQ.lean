/- The document's Insert, whole; two objects side by side; when lists of mappings are the same. -/
import Derived.Test.YtojglefbmfpphaaTlbP
namespace Go.Proofs.Ytojglefbmfpphaa
open Go.RowKit Go.Maps
set_option linter.unusedVariables false
set_option maxRecDepth 100000

theorem rinsert_any (B tb : Nat) (v : Value) (L : List Mp) (m : Mp) (w : World) (h : Ob B 57 w tb v L) (hG : Good L) (hm : MpOk m) (hr : rngB m = true) (hB : B ≤ w.heap.size) :
    Calls Try.prog 33 #[.pointer (some ⟨tb, 0, none⟩), mpV m] w fun e w' => e = .returned (.tuple #[mpV (insO m L), .bool (insK m L).isSome, .int .i64 0]) ∧ ∃ v', Stp B 57 w w' tb v v' (insL m L) := by
  have hL := hG.few
  cases hk : L.findIdx? (ofB m.1 m.2.1) with
  | some k =>
    obtain ⟨hkl, _, _⟩ := idx_some hk
    have e1 : insK m L = some k := by unfold insK; rw [hk]
    have e2 : insO m L = L[k] := by unfold insO; rw [e1]; simp [List.getElem?_eq_getElem hkl]
    have e3 : insL m L = L.eraseIdx k ++ [m] := by unfold insL; rw [e1]
    rw [e1, e2, e3]
    exact rinsert_found B tb v L m w h (by omega) hm hr hB k hkl hk
  | none =>
    by_cases h8 : L.length = 8
    · have h0 : 0 < L.length := by omega
      have e1 : insK m L = some 0 := by unfold insK; rw [hk]; simp [h8]
      have e2 : insO m L = L[0] := by unfold insO; rw [e1]; simp [List.getElem?_eq_getElem h0]
      have e3 : insL m L = L.eraseIdx 0 ++ [m] := by unfold insL; rw [e1]
      rw [e1, e2, e3]
      exact rinsert_full B tb v L m w h (by omega) hm hr hB hk h8 h0
    · have e1 : insK m L = none := by unfold insK; rw [hk]; simp [h8]
      have e2 : insO m L = zM := by unfold insO; rw [e1]
      have e3 : insL m L = L ++ [m] := by unfold insL; rw [e1]
      rw [e1, e2, e3]
      exact rinsert_none B tb v L m w h (by omega) hm hr hB hk h8
end Go.Proofs.Ytojglefbmfpphaa
