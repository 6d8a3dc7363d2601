/- The document's vm: Fork, where it may. The document's vm: New; Fill. The document's vm: Fill. The document's vm: Fill, byte by byte. -/
import Derived.Test.YtfmcoibpbcheiaaVrM
namespace Go.Proofs.Ytfmcoibpbcheiaa
open Go.RowKit Go.Maps
set_option linter.unusedVariables false
set_option maxRecDepth 100000
theorem page_row : (Try.prog.info? 76).map (·.size) = some 32 := by kernel_rfl
set_option maxHeartbeats 2000000 in
theorem rfork_ok (B : Nat) (o : Ro) (N : Nat) (s : Vs) (L : List Int) (p q : Fin 6) (w : World) (h : Rb B w o N s L) (hp : s.has p = true) (hq : s.has q = false) : Calls Try.prog 48 #[.pointer (some ⟨o.b, 0, none⟩), .int .i64 p.1, .int .i64 q.1] w fun r w' => r = .returned (.int .i64 0) ∧ Rb B w' o N (fkS s p q) L ∧ Apart (XR o) w w' := by
  have cM := rmay_any B o N s L p.1 w h
  have em : mayE s p.1 = 0 := by unfold mayE; rw [prc_has0 s p hp]
  rw [em] at cM
  have cF := rfresh_any B o N s L q.1 w h
  rw [freshE_at, hq] at cF
  simp only [Bool.false_eq_true, if_false] at cF
  have hpq : p.1 ≠ q.1 := fun e => by
    have : p = q := by ext; exact e
    rw [this, hq] at hp
    cases hp
  have hd := h.below (below_drew w)
  obtain ⟨z1, z2⟩ := hd.hs q
  have h1 := hd.seth q true
  obtain ⟨ROW, r1, r2, r3, r4⟩ := h1.setrow p q
  have HS1 := Hid3.mk r3
  have HS0 : Hid3 (w.drew.rangeAt o.b (7 + p.1 * 32) ROW) := ⟨fun j v hv => by
    have e := r3 j v hv
    have hj : j < 32 := by have := (List.getElem?_eq_some_iff.1 hv).1; omega
    have e2 : (w.drew.setCell ⟨o.b, 1 + q.1, none⟩ (.bool true)).cell? ⟨o.b, 7 + p.1 * 32 + j, none⟩ = w.drew.cell? ⟨o.b, 7 + p.1 * 32 + j, none⟩ := by
      obtain ⟨P, c, _⟩ := hd.c
      have c1 := c.set (1 + q.1) (.bool true)
      rw [c1.cell, c.cell, List.getElem?_set_ne (by have := q.2; omega)]
    rw [e2] at e
    exact e⟩
  have HS2 : Hid3 (((w.drew.setCell ⟨o.b, 1 + q.1, none⟩ (.bool true)).setCells o.b (7 + q.1 * 32) ROW).rangeAt o.b (7 + p.1 * 32) ROW) := ⟨World.rangeAt_setCells_apart r3 o.b (7 + q.1 * 32) _ (.inr (by rw [r1]; omega))⟩
  have HST1 := Hid3.mk (run_storeB w.drew o.b (1 + q.1) (s.has q) true z1 z2)
  have HSZ : Hid3 ((Try.prog.info? 76).map (·.size) = some ROW.length) := ⟨by rw [r1]; exact page_row⟩
  have HST2 : Hid3 ((Instr.storeAt 76 (.pointer (some ⟨o.b, 7 + q.1 * 32, none⟩)) (.agg ROW.toArray)).run Try.prog (w.drew.setCell ⟨o.b, 1 + q.1, none⟩ (.bool true)) = .ok () ((w.drew.setCell ⟨o.b, 1 + q.1, none⟩ (.bool true)).setCells o.b (7 + q.1 * 32) ROW)) := ⟨by
    have hth : (w.drew.setCell ⟨o.b, 1 + q.1, none⟩ (.bool true)).there o.b (7 + q.1 * 32) ROW.toArray.size := fun j hj => by
      have hj' : j < 32 := by rw [List.size_toArray, r1] at hj; exact hj
      obtain ⟨P, c, hl, _⟩ := h1.c
      refine ⟨?_, c.thaw _⟩
      rw [c.cell, List.getElem?_eq_getElem (by rw [rcs_len, hl]; have := q.2; omega)]
      rfl
    have := run_storeAt_mid (P := Try.prog) (w.drew.setCell ⟨o.b, 1 + q.1, none⟩ (.bool true)) o.b (7 + q.1 * 32) 76 ROW.toArray hth (by rw [List.size_toArray]; exact HSZ.out) (all_oneCell_toArray r2)
    simpa using this⟩
  have HV : Hid3 (Rb B ((w.drew.setCell ⟨o.b, 1 + q.1, none⟩ (.bool true)).setCells o.b (7 + q.1 * 32) ROW) o N (fkS s p q) L) := ⟨r4.congr rfl rfl rfl⟩
  have HA : Hid3 (Apart (XR o) w ((w.drew.setCell ⟨o.b, 1 + q.1, none⟩ (.bool true)).setCells o.b (7 + q.1 * 32) ROW)) := ⟨((Apart.of_below (below_drew w)).trans (Apart.at (X := XR o) _ o.b _ _ (.inl rfl))).trans (row_apart0 o.b _ _ _ (XR o) (.inl rfl))⟩
  clear h hp hq em hd h1 r1 r2 r3 r4 z1 z2
  obtain ⟨p, hp⟩ := p
  obtain ⟨q, hq⟩ := q
  have h5 : (p : Int) < 6 := by omega
  have h6 : (q : Int) < 6 := by omega
  simp only at *
  go_enter Try.func48, Try.ntmps48
  go_wp2_with fail
  refine cM.mono ?_
  rintro r0 W ⟨rfl, hW⟩
  rw [hW]
  clear cM hW
  go_wp2_with fail
  refine cF.mono ?_
  rintro r0 W ⟨rfl, hW⟩
  rw [hW]
  clear cF hW
  go_wp2_with fail
  refine wp_region_held_drew (S := fun w' => w'.rangeAt o.b (7 + p * 32) ROW) (by kernel_rfl) HS0.out (fun hHeld => ?_)
  refine takeD (i := 0) (v := ?v21) (some 21) rfl rfl (by kernel_rfl) (by kernel_rfl) (by kernel_rfl) (fun _ _ _ h => h) (Or.inl ⟨by rfl, ?hy21⟩) (by assumption) ?_
  case hy21 => (intro w' hSw; (try dsimp only at hSw); go_simp; try (with_reducible rfl))
  simp only [Act.put, List.setIfInBounds_toArray, List.set_cons_zero, List.set_cons_succ]
  refine takeD (i := 1) (v := ?v22) (some 22) rfl rfl (by kernel_rfl) (by kernel_rfl) (by kernel_rfl) (fun _ _ _ h => h) (Or.inl ⟨by rfl, ?hy22⟩) (by assumption) ?_
  case hy22 => (intro w' hSw; (try dsimp only at hSw); go_simp; try (with_reducible rfl))
  simp only [Act.put, List.setIfInBounds_toArray, List.set_cons_zero, List.set_cons_succ]
  refine takeD (i := 2) (v := ?v23) (some 23) rfl rfl (by kernel_rfl) (by kernel_rfl) (by kernel_rfl) (fun _ _ _ h => h) (Or.inl ⟨by rfl, ?hy23⟩) (by assumption) ?_
  case hy23 => (intro w' hSw; (try dsimp only at hSw); go_simp; try (with_reducible rfl))
  simp only [Act.put, List.setIfInBounds_toArray, List.set_cons_zero, List.set_cons_succ]
  refine takeD (i := 3) (v := ?v24) (some 24) rfl rfl (by kernel_rfl) (by kernel_rfl) (by kernel_rfl) (fun _ _ _ h => h) (Or.inl ⟨by rfl, ?hy24⟩) (by assumption) ?_
  case hy24 => (intro w' hSw; (try dsimp only at hSw); go_simp; try (with_reducible rfl))
  simp only [Act.put, List.setIfInBounds_toArray, List.set_cons_zero, List.set_cons_succ]
  refine takeD (i := 4) (v := ?v25) (some 25) rfl rfl (by kernel_rfl) (by kernel_rfl) (by kernel_rfl) (fun _ _ _ h => h) (Or.inl ⟨by rfl, ?hy25⟩) (by assumption) ?_
  case hy25 => (intro w' hSw; (try dsimp only at hSw); go_simp; try (with_reducible rfl))
  simp only [Act.put, List.setIfInBounds_toArray, List.set_cons_zero, List.set_cons_succ]
  refine takeD (i := 5) (v := ?v26) (some 26) rfl rfl (by kernel_rfl) (by kernel_rfl) (by kernel_rfl) (fun _ _ _ h => h) (Or.inl ⟨by rfl, ?hy26⟩) (by assumption) ?_
  case hy26 => (intro w' hSw; (try dsimp only at hSw); go_simp; try (with_reducible rfl))
  simp only [Act.put, List.setIfInBounds_toArray, List.set_cons_zero, List.set_cons_succ]
  refine takeD (i := 6) (v := ?v27) (some 27) rfl rfl (by kernel_rfl) (by kernel_rfl) (by kernel_rfl) (fun _ _ _ h => h) (Or.inl ⟨by rfl, ?hy27⟩) (by assumption) ?_
  case hy27 => (intro w' hSw; (try dsimp only at hSw); go_simp; try (with_reducible rfl))
  simp only [Act.put, List.setIfInBounds_toArray, List.set_cons_zero, List.set_cons_succ]
  refine takeD (i := 7) (v := ?v28) (some 28) rfl rfl (by kernel_rfl) (by kernel_rfl) (by kernel_rfl) (fun _ _ _ h => h) (Or.inl ⟨by rfl, ?hy28⟩) (by assumption) ?_
  case hy28 => (intro w' hSw; (try dsimp only at hSw); go_simp; try (with_reducible rfl))
  simp only [Act.put, List.setIfInBounds_toArray, List.set_cons_zero, List.set_cons_succ]
  refine takeD (i := 8) (v := ?v29) (some 29) rfl rfl (by kernel_rfl) (by kernel_rfl) (by kernel_rfl) (fun _ _ _ h => h) (Or.inl ⟨by rfl, ?hy29⟩) (by assumption) ?_
  case hy29 => (intro w' hSw; (try dsimp only at hSw); go_simp; try (with_reducible rfl))
  simp only [Act.put, List.setIfInBounds_toArray, List.set_cons_zero, List.set_cons_succ]
  refine takeD (i := 10) (v := ?v31) (some 31) rfl rfl (by kernel_rfl) (by kernel_rfl) (by kernel_rfl) (fun _ _ _ h => h) (Or.inl ⟨by rfl, ?hy31⟩) (by assumption) ?_
  case hy31 => (intro w' hSw; (try dsimp only at hSw); go_simp; try (with_reducible rfl))
  simp only [Act.put, List.setIfInBounds_toArray, List.set_cons_zero, List.set_cons_succ]
  refine takeD (i := 11) (v := ?v32) (some 32) rfl rfl (by kernel_rfl) (by kernel_rfl) (by kernel_rfl) (fun _ _ _ h => h) (Or.inl ⟨by rfl, ?hy32⟩) (by assumption) ?_
  case hy32 => (intro w' hSw; (try dsimp only at hSw); go_simp; try (with_reducible rfl))
  simp only [Act.put, List.setIfInBounds_toArray, List.set_cons_zero, List.set_cons_succ]
  refine takeD (i := 14) (v := ?v34) (some 34) rfl rfl (by kernel_rfl) (by kernel_rfl) (by kernel_rfl) (fun _ _ _ h => h) (Or.inl ⟨by rfl, ?hy34⟩) (by assumption) ?_
  case hy34 => (intro w' hSw; (try dsimp only at hSw); go_simp; try (with_reducible rfl))
  simp only [Act.put, List.setIfInBounds_toArray, List.set_cons_zero, List.set_cons_succ]
  refine takeD (i := 15) (v := ?v35) (some 35) rfl rfl (by kernel_rfl) (by kernel_rfl) (by kernel_rfl) (fun _ _ _ h => h) (Or.inl ⟨by rfl, ?hy35⟩) (by assumption) ?_
  case hy35 => (intro w' hSw; (try dsimp only at hSw); go_simp; try (with_reducible rfl))
  simp only [Act.put, List.setIfInBounds_toArray, List.set_cons_zero, List.set_cons_succ]
  refine wpAnyH_take (i := 9) (v := .agg ROW.toArray) rfl (by kernel_rfl) (by kernel_rfl) (by kernel_rfl) (fun _ _ _ h => h) (yieldsIf_load_mid (by rfl) 76 _ rfl o.b (7 + p * 32) rfl ROW _ (fun w hw => hw) Try.underlying76 rfl HSZ.out) (by assumption) ?_
  try simp only [Act.put, List.setIfInBounds_toArray]
  refine takeD (i := 12) (v := ?v33) (some 33) rfl rfl (by kernel_rfl) (by kernel_rfl) (by kernel_rfl) (fun _ _ _ h => h) (Or.inl ⟨by rfl, ?hy33⟩) (by assumption) ?_
  case hy33 => (intro w' hSw; (try dsimp only at hSw); go_simp; try (with_reducible rfl))
  simp only [Act.put]
  refine wpAnyH_ready (rs := [13]) (by kernel_rfl) (by simp) (AllReadyH.cons rfl (fun K hK => ?_) AllReadyH.nil)
  refine step_store none rfl rfl 4 _ _ rfl _ _ rfl rfl HST1.out ?_
  refine hK.out _ _ HS1.out (fun hHeld2 => ?_)
  clear hK K hHeld
  have hHeld := hHeld2
  clear hHeld2
  try simp only [Act.put]
  refine takeD (i := 16) (v := ?v36) (some 36) rfl rfl (by kernel_rfl) (by kernel_rfl) (by kernel_rfl) (fun _ _ _ h => h) (Or.inl ⟨by rfl, ?hy36⟩) (by assumption) ?_
  case hy36 => (intro w' hSw; (try dsimp only at hSw); go_simp; try (with_reducible rfl))
  simp only [Act.put]
  refine wpAnyH_ready (rs := [17]) (by kernel_rfl) (by simp) (AllReadyH.cons rfl (fun K hK => ?_) AllReadyH.nil)
  refine step_store none rfl rfl 76 _ _ rfl _ _ rfl rfl HST2.out ?_
  refine hK.out _ _ HS2.out (fun hHeld2 => ?_)
  clear hK K hHeld
  have hHeld := hHeld2
  clear hHeld2
  try simp only [Act.put]
  refine wpAnyH_done (by kernel_rfl) ?_ _
  go_wp2
  go_ret
  exact ⟨rfl, HV.out, HA.out⟩
end Go.Proofs.Ytfmcoibpbcheiaa
namespace Go.Proofs.Ytfmcoibpbcheiaa
open Go.RowKit Go.Maps
set_option linter.unusedVariables false
set_option maxRecDepth 100000
def pg0 : Nat → List Value
  | 0 => []
  | n + 1 => .bool false :: .int .i64 0 :: pg0 n
theorem pg0_len : ∀ n, (pg0 n).length = 2 * n
  | 0 => rfl
  | n + 1 => by show (pg0 n).length + 1 + 1 = _; rw [pg0_len n]; omega
theorem pg0_at : ∀ n j, j < n → (pg0 n)[2 * j]? = some (.bool false) ∧ (pg0 n)[2 * j + 1]? = some (.int .i64 0)
  | 0, j, h => absurd h (Nat.not_lt_zero j)
  | n + 1, 0, _ => ⟨rfl, rfl⟩
  | n + 1, j + 1, h => by
    have e : 2 * (j + 1) = 2 * j + 1 + 1 := by omega
    rw [e]
    exact pg0_at n j (by omega)
theorem rvm_built (m : Nat) : Try.prog.built 79 [(0, .pointer (some ⟨m, 0, none⟩))] = some (rcs m (fun _ => false) (pg0 96) 0).toArray := by kernel_rfl
theorem pgl0 : Pgl (pg0 96) (fun _ _ => none) := ⟨pg0_len 96, fun p k hk => by
  have := p.2
  obtain ⟨a, b⟩ := pg0_at 96 (p.1 * 16 + k) (by omega)
  rw [show 2 * (p.1 * 16 + k) = p.1 * 32 + k * 2 by omega] at a b
  exact ⟨a, b⟩⟩
set_option maxHeartbeats 1000000 in
theorem rvnew_ok (N : Nat) (w : World) (h1 : 1 ≤ N) (h2 : N ≤ 64) : Calls Try.prog 20 #[.int .i64 N] w fun r w' => (∃ o, r = .returned (.pointer (some ⟨o.b, 0, none⟩)) ∧ Rb w.heap.size w' o N (vs0 N) zeroL) ∧ Below w.heap.size w w' := by
  have c1 := rnew_any N w h1 h2 (32 * N) rfl
  have hb2 := rvm_built (w.heap.size + 1)
  generalize hV0 : (rcs (w.heap.size + 1) (fun _ => false) (pg0 96) 0).toArray = V0 at *
  have HV := Hid3.mk hV0
  clear hV0
  go_enter Try.func20, Try.ntmps20
  go_wp2_with fail
  refine c1.mono ?_
  rintro r W ⟨rfl, hM, hB⟩
  have HM := Hid3.mk hM
  have HB := Hid3.mk hB
  clear c1 hM hB
  go_wp2_with (refine Go.wpList_buildTo rfl _ _ rfl _ rfl V0 ?hx ?_; case hx => (simp [Act.eval]; exact hb2))
  go_ret
  refine ⟨⟨⟨W.heap.size, w.heap.size + 1, w.heap.size⟩, rfl, ⟨HB.out.size, by show w.heap.size ≤ w.heap.size + 1; omega, Nat.le_refl _, ⟨pg0 96, ?_, pgl0⟩, HM.out.below (below_new _ _)⟩⟩, HB.out.trans ((below_new W _).mono HB.out.size)⟩
  show Cl _ W.heap.size _ (rcs (w.heap.size + 1) (fun _ => false) (pg0 96) 0)
  unfold Cl
  rw [HV.out]
  exact heap_alloc_new _ _
end Go.Proofs.Ytfmcoibpbcheiaa
namespace Go.Proofs.Ytfmcoibpbcheiaa
open Go.RowKit Go.Maps
set_option linter.unusedVariables false
set_option maxRecDepth 100000
/-- How many pages the first so many bytes touch. -/
def pcn (a i : Nat) : Nat := if i = 0 then 0 else pcs a i
theorem pcn_new {a i : Nat} (h : i = 0 ∨ (a + i) % 32 = 0) : a / 32 + pcn a i = (a + i) / 32 ∧ pcn a (i + 1) = pcn a i + 1 := by
  unfold pcn pcs
  rw [if_neg (show ¬ (i + 1 = 0) by omega)]
  by_cases h0 : i = 0
  · rw [if_pos h0]
    subst h0
    constructor <;> omega
  · rw [if_neg h0]
    constructor <;> omega
theorem pcn_old {a i : Nat} (h0 : i ≠ 0) (h : (a + i) % 32 ≠ 0) : pcn a (i + 1) = pcn a i ∧ ∃ j, j < pcn a i ∧ a / 32 + j = (a + i) / 32 := by
  unfold pcn pcs
  rw [if_neg (show ¬ (i + 1 = 0) by omega), if_neg h0]
  refine ⟨by omega, (a + i) / 32 - a / 32, by omega, by omega⟩
theorem pcn_in {a i : Nat} : ∃ j, j < pcn a (i + 1) ∧ a / 32 + j = (a + i) / 32 := by
  unfold pcn pcs
  rw [if_neg (show ¬ (i + 1 = 0) by omega)]
  exact ⟨(a + i) / 32 - a / 32, by omega, by omega⟩
theorem pcn_le (a : Nat) {i m : Nat} (h : i ≤ m) : pcn a i ≤ pcn a m := by
  unfold pcn pcs
  split <;> split <;> omega
theorem gap_mk {s : Vs} {p : Fin 6} {first c : Nat} (j : Nat) (hj : j < c) (h : s.pg p ((first + j : Nat) : Int) = none) : gap s p first c = true := by
  unfold gap
  rw [List.any_eq_true]
  exact ⟨j, List.mem_range.2 hj, by rw [h]; rfl⟩
theorem ndT_succ (s : Vs) (p : Fin 6) (first c : Nat) : ndT s p first (c + 1) = ndT s p first c + nd s p (first + c) := rfl
/-- What Fill answers, once the address is one. -/
theorem fillE_in {N : Nat} {s : Vs} {p : Fin 6} {a m : Nat} (hp : s.has p = true) (ha : a < 512) (hm : a + m ≤ 512) : fillE N s p.1 (a : Int) m = if m = 0 then 0 else if gap s p (a / 32) (pcs a m) = true then 10 else if (zr N s : Int) < ndT s p (a / 32) (pcs a m) then 4 else 0 := by
  have e : inA (a : Int) m = true := by
    unfold inA
    rw [decide_eq_true (by omega), decide_eq_true (by omega), decide_eq_true (by omega)]
    rfl
  unfold fillE
  rw [prc_has0 s p hp]
  simp only [e, Bool.true_eq_false, if_false, Int.toNat_natCast]
set_option maxHeartbeats 1000000 in
theorem rfill_noent (B : Nat) (o : Ro) (N : Nat) (s : Vs) (L : List Int) (pid addr : Int) (v : Value) (w : World) (h : Rb B w o N s L) (hp : prc s pid = none) : Calls Try.prog 53 #[.pointer (some ⟨o.b, 0, none⟩), .int .i64 pid, .int .i64 addr, v] w fun r w' => r = .returned (.int .i64 5) ∧ w' = w := by
  have cM := rmay_any B o N s L pid w h
  have em : mayE s pid = 5 := by unfold mayE; rw [hp]
  rw [em] at cM
  clear h hp em
  go_enter Try.func53, Try.ntmps53
  go_wp2_with fail
  refine cM.mono ?_
  rintro r0 W ⟨rfl, hW⟩
  rw [hW]
  clear cM hW
  go_wp2
  go_ret
  exact ⟨rfl, rfl⟩
set_option maxHeartbeats 1000000 in
theorem rfill_range (B : Nat) (o : Ro) (N : Nat) (s : Vs) (L : List Int) (p : Fin 6) (addr : Int) (x : Option Addr) (m cap : Nat) (w : World) (h : Rb B w o N s L) (hp : s.has p = true) (ha : inA addr m = false) (hm : (m : Int) ≤ 9223372036854775807) : Calls Try.prog 53 #[.pointer (some ⟨o.b, 0, none⟩), .int .i64 p.1, .int .i64 addr, .slice x m cap] w fun r w' => r = .returned (.int .i64 2) ∧ w' = w := by
  have cM := rmay_any B o N s L p.1 w h
  have em : mayE s p.1 = 0 := by unfold mayE; rw [prc_has0 s p hp]
  rw [em] at cM
  have hc : addr < 0 ∨ (¬ addr < 0 ∧ 512 ≤ addr) ∨ (¬ addr < 0 ∧ ¬ 512 ≤ addr ∧ 512 - addr < (m : Int)) := by
    by_cases c1 : addr < 0
    · exact .inl c1
    by_cases c2 : 512 ≤ addr
    · exact .inr (.inl ⟨c1, c2⟩)
    · refine .inr (.inr ⟨c1, c2, ?_⟩)
      unfold inA at ha
      rw [decide_eq_true (by omega), decide_eq_true (by omega)] at ha
      have : ¬ (m : Int) ≤ 512 - addr := by simpa using ha
      omega
  clear h hp em ha
  rcases hc with h1 | ⟨h1, h2⟩ | ⟨h1, h2, h3⟩
  · go_enter Try.func53, Try.ntmps53
    go_wp2_with fail
    refine cM.mono ?_
    rintro r0 W ⟨rfl, hW⟩
    rw [hW]
    clear cM hW
    go_wp2
    go_ret
    exact ⟨rfl, rfl⟩
  · go_enter Try.func53, Try.ntmps53
    go_wp2_with fail
    refine cM.mono ?_
    rintro r0 W ⟨rfl, hW⟩
    rw [hW]
    clear cM hW
    go_wp2
    go_ret
    exact ⟨rfl, rfl⟩
  · have hw : IntKind.i64.wrap (512 - addr) = 512 - addr := by rw [IntKind.wrap_i64]; omega
    go_enter Try.func53, Try.ntmps53
    go_wp2_with fail
    refine cM.mono ?_
    rintro r0 W ⟨rfl, hW⟩
    rw [hW]
    clear cM hW
    go_wp2
    go_ret
    exact ⟨rfl, rfl⟩
end Go.Proofs.Ytfmcoibpbcheiaa
namespace Go.Proofs.Ytfmcoibpbcheiaa
open Go.RowKit Go.Maps
set_option linter.unusedVariables false
set_option maxRecDepth 100000
/-- What there is when so many bytes are written. -/
def flT (N : Nat) (s : Vs) (p : Fin 6) (a i : Nat) : Vs := alN N s p (a / 32) (pcn a i)
def FlK (B : Nat) (W : World) (o : Ro) (N : Nat) (s : Vs) (V : Fin 6 → Nat → Int) (p : Fin 6) (a : Nat) (b : Nat → Int) (i : Nat) : Prop := ∃ L', Rb B W o N (flT N s p a i) L' ∧ L'.length = 2048 ∧ Vw (flT N s p a i).pg L' (upVs V p a b i)
theorem pcn_pos {a m : Nat} (h : m ≠ 0) : pcn a m = pcs a m := if_neg h
theorem fl_step (B : Nat) (o : Ro) (N : Nat) (s : Vs) (V : Fin 6 → Nat → Int) (p : Fin 6) (a m i : Nat) (b : Nat → Int) (W : World) (hF : Fr N s) (hcp : 0 ≤ s.cp ∧ s.cp ≤ 80000) (hp : s.has p = true) (hm : a + m ≤ 512) (hi : i < m) (hg : gap s p (a / 32) (pcs a m) = false) (hz : ndT s p (a / 32) (pcs a m) ≤ zr N s) (h : FlK B W o N s V p a b i) :
    Calls Try.prog 52 #[.pointer (some ⟨o.b, 0, none⟩), .int .i64 p.1, .int .i64 ((a + i : Nat) : Int), .int .u8 (b i)] W fun r w' => (∃ e, r = .returned (.int .i64 e)) ∧ FlK B w' o N s V p a b (i + 1) ∧ Apart (XR o) W w' := by
  obtain ⟨L, hR, hL, hVw⟩ := h
  have hc : a / 32 + pcs a m ≤ 16 := (pcs_ar (by omega) hm).1
  have hle : pcn a (i + 1) ≤ pcs a m := by rw [← pcn_pos (by omega : m ≠ 0)]; exact pcn_le a (by omega)
  have hle0 : pcn a i ≤ pcs a m := by rw [← pcn_pos (by omega : m ≠ 0)]; exact pcn_le a (by omega)
  have K := alN_ok hF hc (gap_no hg) hz (pcn a i) hle0
  have hpT : (flT N s p a i).has p = true := by show (alN N s p (a / 32) (pcn a i)).has p = true; rw [K.has]; exact hp
  have Kcp := K.cp
  -- the page, and what becomes of it
  have key : ∃ f, (flT N s p a i).pg p (((a + i) / 32 : Nat) : Int) = some f ∧ ndI (flT N s p a i) f ≤ zr N (flT N s p a i) ∧ alF N (flT N s p a i) p ((a + i) / 32) = flT N s p a (i + 1) := by
    by_cases c : i = 0 ∨ (a + i) % 32 = 0
    · obtain ⟨e1, e2⟩ := pcn_new c
      obtain ⟨r1, r2⟩ := K.rest (pcn a i) (Nat.le_refl _) (by omega)
      cases hf : s.pg p ((a / 32 + pcn a i : Nat) : Int) with
      | none => exact absurd hf (gap_no hg _ (by omega))
      | some f =>
        rw [hf] at r1
        have hmono := ndT_mono s p (a / 32) (pcn a i + 1) (pcs a m - (pcn a i + 1))
        rw [show pcn a i + 1 + (pcs a m - (pcn a i + 1)) = pcs a m by omega, ndT_succ] at hmono
        have hKz := K.z
        refine ⟨f, by rw [← e1]; exact r1, ?_, ?_⟩
        · have e3 : nd (alN N s p (a / 32) (pcn a i)) p (a / 32 + pcn a i) = ndI (alN N s p (a / 32) (pcn a i)) f := by unfold nd; rw [r1]; rfl
          show ndI (alN N s p (a / 32) (pcn a i)) f ≤ zr N (alN N s p (a / 32) (pcn a i))
          omega
        · show alF N (alN N s p (a / 32) (pcn a i)) p ((a + i) / 32) = alN N s p (a / 32) (pcn a (i + 1))
          rw [e2, ← e1]
          rfl
    · have c1 : i ≠ 0 := fun e => c (.inl e)
      have c2 : (a + i) % 32 ≠ 0 := fun e => c (.inr e)
      obtain ⟨e1, j, hj, e2⟩ := pcn_old c1 c2
      obtain ⟨g, g1, g2, g3⟩ := K.done j hj
      rw [e2] at g2
      have ho : ownB (flT N s p a i) (g : Int) = true := (own_iff K.fr p ((a + i) / 32) (g : Int) g2).2 ⟨by omega, g3⟩
      refine ⟨(g : Int), g2, ?_, ?_⟩
      · rcases nd_cases (flT N s p a i) (g : Int) with ⟨n1, _⟩ | ⟨_, n2⟩
        · rw [n1]; omega
        · rw [ho] at n2; cases n2
      · unfold alF
        have e3 : ((flT N s p a i).pg p (((a + i) / 32 : Nat) : Int)).getD 0 = (g : Int) := by
          show ((alN N s p (a / 32) (pcn a i)).pg p (((a + i) / 32 : Nat) : Int)).getD 0 = _
          rw [g2]; rfl
        rw [e3, if_pos ho]
        show alN N s p (a / 32) (pcn a i) = alN N s p (a / 32) (pcn a (i + 1))
        rw [e1]
  obtain ⟨f, k1, k2, k3⟩ := key
  have hE : fillE N (flT N s p a i) p.1 ((a + i : Nat) : Int) 1 = 0 := by
    rw [fillE_in hpT (by omega) (by omega), pcs_one, gap_one, k1]
    have en : ndT (flT N s p a i) p ((a + i) / 32) 1 = ndI (flT N s p a i) f := by
      show 0 + nd (flT N s p a i) p ((a + i) / 32 + 0) = _
      unfold nd
      rw [Nat.add_zero, k1, Int.zero_add]
      rfl
    rw [en, if_neg (by omega), if_neg (by simp), if_neg (by omega)]
  have hS : fillS N (flT N s p a i) p.1 ((a + i : Nat) : Int) 1 (fun _ => b i) = { flT N s p a (i + 1) with L := wrL N (flT N s p a (i + 1)) p (a + i) (fun _ => b i) 1 } := by
    unfold fillS
    rw [prc_has0 _ p hpT]
    simp only [Int.toNat_natCast, pcs_one]
    rw [if_pos ⟨hE, by omega⟩]
    have e : alN N (flT N s p a i) p ((a + i) / 32) 1 = flT N s p a (i + 1) := k3
    rw [e]
  have hVV : fillV N (flT N s p a i) (upVs V p a b i) p.1 ((a + i : Nat) : Int) 1 (fun _ => b i) = upVs V p a b (i + 1) := by
    unfold fillV
    rw [prc_has0 _ p hpT]
    simp only [Int.toNat_natCast]
    rw [if_pos ⟨hE, by omega⟩]
    rfl
  have c := rpoke_any B o N (flT N s p a i) L (upVs V p a b i) p.1 ((a + i : Nat) : Int) (b i) W hR K.fr hVw hL (by
    show 0 ≤ (alN N s p (a / 32) (pcn a i)).cp ∧ (alN N s p (a / 32) (pcn a i)).cp ≤ 90000
    omega)
  rw [hS, hVV] at c
  refine c.mono ?_
  rintro r w' ⟨rfl, ⟨L2, q1, q2, q3⟩, q4⟩
  exact ⟨⟨_, rfl⟩, ⟨L2, q1.congr rfl rfl rfl, q2, q3⟩, q4⟩
/-- What Fill leaves, and what is seen then. -/
theorem fl_end {B : Nat} {W : World} {o : Ro} {N : Nat} {s : Vs} {V : Fin 6 → Nat → Int} {p : Fin 6} {a m : Nat} {b : Nat → Int} (hp : s.has p = true) (he : fillE N s p.1 (a : Int) m = 0) (h : FlK B W o N s V p a b m) : ∃ L', Rb B W o N (fillS N s p.1 (a : Int) m b) L' ∧ L'.length = 2048 ∧ Vw (fillS N s p.1 (a : Int) m b).pg L' (fillV N s V p.1 (a : Int) m b) := by
  obtain ⟨L, h1, h2, h3⟩ := h
  unfold fillS fillV
  rw [prc_has0 s p hp]
  simp only [Int.toNat_natCast]
  by_cases c : m = 0
  · subst c
    rw [if_neg (fun x => x.2 rfl), if_neg (fun x => x.2 rfl)]
    exact ⟨L, h1, h2, h3⟩
  · rw [if_pos ⟨he, c⟩, if_pos ⟨he, c⟩]
    unfold flT at h1 h3
    rw [pcn_pos c] at h1 h3
    exact ⟨L, h1.congr rfl rfl rfl, h2, h3⟩
theorem fl_err {B : Nat} {W : World} {o : Ro} {N : Nat} {s : Vs} {V : Fin 6 → Nat → Int} {L : List Int} {pid addr : Int} {m : Nat} {b : Nat → Int} (he : fillE N s pid addr m ≠ 0) (h : Rb B W o N s L) (hL : L.length = 2048) (hV : Vw s.pg L V) : ∃ L', Rb B W o N (fillS N s pid addr m b) L' ∧ L'.length = 2048 ∧ Vw (fillS N s pid addr m b).pg L' (fillV N s V pid addr m b) := by
  rw [fillS_err he]
  have e : fillV N s V pid addr m b = V := by
    unfold fillV
    split
    · rfl
    · rw [if_neg (fun x => he x.1)]
  rw [e]
  exact ⟨L, h, hL, hV⟩
end Go.Proofs.Ytfmcoibpbcheiaa
