/- The program's Insert, whole; the document's at and cut. -/
import Derived.Test.YtdmahmolhdbegaaPgTlbJ
import Derived.BigRegion
namespace Go.Proofs.Ytdmahmolhdbegaa.Tb
open Go.RowKit Go.Maps
set_option linter.unusedVariables false
set_option maxRecDepth 100000

set_option maxHeartbeats 2000000 in
theorem insert_bad (tb : Nat) (m : Mp) (w : World) (hm : MpOk m) (hr : rngB m = false) :
    Calls Try.prog 11 #[.pointer (some ⟨tb, 0, none⟩), mpV m] w fun e w' => e = .returned (.tuple #[mpV zM, .bool false, .int .i64 2]) ∧ Below w.heap.size w w' := by
  obtain ⟨m0, m1, m2, m3⟩ := m
  obtain ⟨o0, o1, o2, o3, o4, o5⟩ := hm
  simp only at o0 o1 o2 o3 o4 o5
  have hr' : ¬ (m1 < 16 ∧ m2 < 64) := by simpa [rngB] using hr
  clear hr
  unfold mpV
  by_cases h1 : 16 ≤ m1
  · clear hr'
    go_enter Try.func11, Try.ntmps11
    go_wp2
    refine bodyPost_ret (v := .tuple #[.agg #[.int .u8 0, .int .u8 0, .int .u8 0, .bool false], .bool false, .int .i64 2]) (by simp [results, Try.results11, go_sem]) rfl ⟨rfl, ?_⟩
    exact ((Below.refl _ w).alloc (Nat.le_refl _) _).alloc (by simp) _
  · have h2 : 64 ≤ m2 := by omega
    clear hr'
    go_enter Try.func11, Try.ntmps11
    go_wp2
    refine bodyPost_ret (v := .tuple #[.agg #[.int .u8 0, .int .u8 0, .int .u8 0, .bool false], .bool false, .int .i64 2]) (by simp [results, Try.results11, go_sem]) rfl ⟨rfl, ?_⟩
    exact ((Below.refl _ w).alloc (Nat.le_refl _) _).alloc (by simp) _
theorem insert_any (B tb : Nat) (v : Value) (L : List Mp) (m : Mp) (w : World) (h : Ob B 80 w tb v L) (hG : Good L) (hm : MpOk m) (hr : rngB m = true) (hB : B ≤ w.heap.size) :
    Calls Try.prog 11 #[.pointer (some ⟨tb, 0, none⟩), mpV m] w fun e w' => e = .returned (.tuple #[mpV (insO m L), .bool (insK m L).isSome, .int .i64 0]) ∧ ∃ v', Stp B 80 w w' tb v v' (insL m L) := by
  have hL := hG.few
  cases hk : L.findIdx? (ofB m.1 m.2.1) with
  | some k =>
    obtain ⟨hkl, _, _⟩ := idx_some hk
    have e1 : insK m L = some k := by unfold insK; rw [hk]
    have e2 : insO m L = L[k] := by unfold insO; rw [e1]; simp [List.getElem?_eq_getElem hkl]
    have e3 : insL m L = L.filter (fun x => !eqB L[k] x) ++ [m] := by unfold insL; rw [e1, out_eq hG.kd k hkl]
    rw [e1, e2, e3]
    exact insert_found B tb v L m w h (by omega) hm hr hB k hkl hk
  | none =>
    by_cases h8 : L.length = 8
    · have h0 : 0 < L.length := by omega
      have e1 : insK m L = some 0 := by unfold insK; rw [hk]; simp [h8]
      have e2 : insO m L = L[0] := by unfold insO; rw [e1]; simp [List.getElem?_eq_getElem h0]
      have e3 : insL m L = L.filter (fun x => !eqB L[0] x) ++ [m] := by unfold insL; rw [e1, out_eq hG.kd 0 h0]
      rw [e1, e2, e3]
      exact insert_full B tb v L m w h (by omega) hm hr hB hk h8 h0
    · have e1 : insK m L = none := by unfold insK; rw [hk]; simp [h8]
      have e2 : insO m L = zM := by unfold insO; rw [e1]
      have e3 : insL m L = L ++ [m] := by unfold insL; rw [e1]
      rw [e1, e2, e3]
      exact insert_none B tb v L m w h (by omega) hm hr hB hk h8

set_option maxHeartbeats 4000000 in
theorem rat_any (B tb : Nat) (v : Value) (L : List Mp) (a p : Int) (w : World) (h : Ob B 108 w tb v L) (hL : L.length ≤ 1000) :
    Calls Try.prog 81 #[.pointer (some ⟨tb, 0, none⟩), .int .u8 a, .int .u8 p] w fun e w' => e = .returned (.int .i64 (idxI (ofB a p) L)) ∧ w' = w := by
  have hcell := h.cell
  obtain ⟨ad, cap, rfl, hcap, _, hc⟩ := Mps.of_own h.row
  have HC := h.row
  have HC : Hid (∀ j m, L[j]? = some m → ∃ g, ad = some ⟨g, 0, none⟩ ∧ w.cell? ⟨g, j * 4, none⟩ = some (.int .u8 m.1) ∧ w.cell? ⟨g, j * 4 + 1, none⟩ = some (.int .u8 m.2.1)) := fun j m hj => by
    obtain ⟨g, cap', e, _, hR⟩ := own_row h.row (by intro e; subst e; cases hj)
    injection e with e
    obtain ⟨c0, c1, _, _⟩ := hR.at j m hj
    exact ⟨g, e, c0, c1⟩
  clear h hc
  go_enter Try.func81, Try.ntmps81
  go_wp2
  go_loopw [7] (fun s7 wr => ∃ kk : Nat, kk ≤ L.length ∧ s7 = .int .i64 kk ∧ wr = w ∧ Hid (∀ j (hj : j < L.length), j < kk → ofB a p L[j] = false)) (fun s7 _ => L.length - (intOf s7).toNat)
  case atStart => exact ⟨0, Nat.zero_le _, rfl, rfl, fun j hj h => absurd h (Nat.not_lt_zero _)⟩
  case round =>
    obtain ⟨kk, hkk, rfl, rfl, HA⟩ := hrel
    by_cases hlt : kk < L.length
    · have hltz : (kk : Int) < (L.length : Int) := by omega
      obtain ⟨g', rfl, c0, c1⟩ := HC.out kk L[kk] (List.getElem?_eq_getElem hlt)
      have HY : Hid (ofB a p L[kk] = true → idxI (ofB a p) L = kk) := fun hh => by
        unfold idxI
        rw [idx_hit kk hlt hh (fun j hj => HA.out j (by omega) hj)]
      have HN : Hid (ofB a p L[kk] = false → ∀ j (hj : j < L.length), j < kk + 1 → ofB a p L[j] = false) := fun hh j hj hlt' => by
        by_cases e : j = kk
        · subst e; exact hh
        · exact HA.out j hj (by omega)
      generalize hy : L[kk] = y at *
      clear hy
      obtain ⟨y0, y1, y2, y3⟩ := y
      simp only at c0 c1
      by_cases e0 : y0 = a
      · by_cases e1 : y1 = p
        · subst e0
          subst e1
          have HY' : Hid (idxI (ofB y0 y1) L = kk) := HY.out (by simp [ofB])
          have q0 : (y0 == y0) = true := by simp
          have q1 : (y1 == y1) = true := by simp
          clear HY HN
          go_wp2
          go_ret
          exact ⟨by rw [HY'.out]; rfl, rfl⟩
        · subst e0
          have HN' : Hid (∀ j (hj : j < L.length), j < kk + 1 → ofB y0 p L[j] = false) := HN.out (by simp [ofB, e1])
          have q0 : (y0 == y0) = true := by simp
          have q1 : (y1 == p) = false := by simpa using e1
          clear HY HN
          go_wp2
          go_roundw
          case rel => exact ⟨kk + 1, by omega, by go_num, trivial, HN'.out⟩
          case measure => simp [intOf]; omega
      · have HN' : Hid (∀ j (hj : j < L.length), j < kk + 1 → ofB a p L[j] = false) := HN.out (by simp [ofB, e0])
        have q0 : (y0 == a) = false := by simpa using e0
        clear HY HN
        go_wp2
        go_roundw
        case rel => exact ⟨kk + 1, by omega, by go_num, trivial, HN'.out⟩
        case measure => simp [intOf]; omega
    · have hltz : ¬ (kk : Int) < (L.length : Int) := by omega
      have HY : Hid (idxI (ofB a p) L = -1) := by
        show _ = _
        unfold idxI
        rw [idx_miss (fun j hj => HA.out j hj (by omega))]
      go_wp2
      go_ret
      exact ⟨by rw [HY.out]; rfl, rfl⟩
end Go.Proofs.Ytdmahmolhdbegaa.Tb
