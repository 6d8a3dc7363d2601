/- The program's Insert, whole; the document's at and cut. -/
import Derived.Test.YtdlmaddeonidiaaTlbJ
import Derived.BigRegion
namespace Go.Proofs.Ytdlmaddeonidiaa
open Go.RowKit Go.Maps
set_option linter.unusedVariables false
set_option maxRecDepth 100000

set_option maxHeartbeats 2000000 in
theorem insert_bad (tb : Nat) (m : Mp) (w : World) (hm : MpOk m) (hr : rngB m = false) :
    Calls Try.prog 4 #[.pointer (some ⟨tb, 0, none⟩), mpV m] w fun e w' => e = .returned (.tuple #[mpV zM, .bool false, .int .i64 2]) ∧ Below w.heap.size w w' := by
  obtain ⟨m0, m1, m2, m3⟩ := m
  obtain ⟨o0, o1, o2, o3, o4, o5⟩ := hm
  simp only at o0 o1 o2 o3 o4 o5
  have hr' : ¬ (m1 < 16 ∧ m2 < 64) := by simpa [rngB] using hr
  clear hr
  unfold mpV
  by_cases h1 : 16 ≤ m1
  · clear hr'
    go_enter Try.func4, Try.ntmps4
    go_wp2
    refine bodyPost_ret (v := .tuple #[.agg #[.int .u8 0, .int .u8 0, .int .u8 0, .bool false], .bool false, .int .i64 2]) (by simp [results, Try.results4, go_sem]) rfl ⟨rfl, ?_⟩
    exact ((Below.refl _ w).alloc (Nat.le_refl _) _).alloc (by simp) _
  · have h2 : 64 ≤ m2 := by omega
    clear hr'
    go_enter Try.func4, Try.ntmps4
    go_wp2
    refine bodyPost_ret (v := .tuple #[.agg #[.int .u8 0, .int .u8 0, .int .u8 0, .bool false], .bool false, .int .i64 2]) (by simp [results, Try.results4, go_sem]) rfl ⟨rfl, ?_⟩
    exact ((Below.refl _ w).alloc (Nat.le_refl _) _).alloc (by simp) _
theorem insert_any (B tb : Nat) (v : Value) (L : List Mp) (m : Mp) (w : World) (h : Ob B 43 w tb v L) (hG : Good L) (hm : MpOk m) (hr : rngB m = true) (hB : B ≤ w.heap.size) :
    Calls Try.prog 4 #[.pointer (some ⟨tb, 0, none⟩), mpV m] w fun e w' => e = .returned (.tuple #[mpV (insO m L), .bool (insK m L).isSome, .int .i64 0]) ∧ ∃ v', Stp B 43 w w' tb v v' (insL m L) := by
  have hL := hG.few
  cases hk : L.findIdx? (ofB m.1 m.2.1) with
  | some k =>
    obtain ⟨hkl, _, _⟩ := idx_some hk
    have e1 : insK m L = some k := by unfold insK; rw [hk]
    have e2 : insO m L = L[k] := by unfold insO; rw [e1]; simp [List.getElem?_eq_getElem hkl]
    have e3 : insL m L = L.filter (fun x => !eqB L[k] x) ++ [m] := by unfold insL; rw [e1, out_eq hG.kd k hkl]
    rw [e1, e2, e3]
    exact insert_found B tb v L m w h (by omega) hm hr hB k hkl hk
  | none =>
    by_cases h8 : L.length = 8
    · have h0 : 0 < L.length := by omega
      have e1 : insK m L = some 0 := by unfold insK; rw [hk]; simp [h8]
      have e2 : insO m L = L[0] := by unfold insO; rw [e1]; simp [List.getElem?_eq_getElem h0]
      have e3 : insL m L = L.filter (fun x => !eqB L[0] x) ++ [m] := by unfold insL; rw [e1, out_eq hG.kd 0 h0]
      rw [e1, e2, e3]
      exact insert_full B tb v L m w h (by omega) hm hr hB hk h8 h0
    · have e1 : insK m L = none := by unfold insK; rw [hk]; simp [h8]
      have e2 : insO m L = zM := by unfold insO; rw [e1]
      have e3 : insL m L = L ++ [m] := by unfold insL; rw [e1]
      rw [e1, e2, e3]
      exact insert_none B tb v L m w h (by omega) hm hr hB hk h8

end Go.Proofs.Ytdlmaddeonidiaa
