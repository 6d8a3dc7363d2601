/- The document's Find, Translate, Drop, Asid, Frame, Protect. -/
import Derived.Test.YtojglefbmfpphaaTlbL
namespace Go.Proofs.Ytojglefbmfpphaa
open Go.RowKit Go.Maps
set_option linter.unusedVariables false
set_option maxRecDepth 100000

set_option maxHeartbeats 2000000 in
theorem rfind_any (B tb : Nat) (v : Value) (L : List Mp) (a p : Int) (w : World) (h : Ob B 57 w tb v L) (hL : L.length ≤ 1000) :
    Calls Try.prog 15 #[.pointer (some ⟨tb, 0, none⟩), .int .u8 a, .int .u8 p] w fun e w' => e = .returned (.tuple #[mpV (fdM a p L), .bool (fdB a p L)]) ∧ Below w.heap.size w w' := by
  have hlt := h.lt
  have hw0 : Below w.heap.size w (w.alloc (.cells #[.int .u8 0, .int .u8 0, .int .u8 0, .bool false] 33)) := (Below.refl _ w).alloc (Nat.le_refl _) _
  have hcon := rat_any B tb v L a p _ (h.below hw0) hL
  have hcell := h.cell
  have n1 : tb ≠ w.heap.size := by omega
  have HO : Hid (Ob B 57 w tb v L) := h
  clear h
  cases hk : L.findIdx? (ofB a p) with
  | none =>
    have e1 : idxI (ofB a p) L = -1 := by unfold idxI; rw [hk]
    have e2 : fdM a p L = zM := by unfold fdM; rw [hk]
    have e3 : fdB a p L = false := by unfold fdB; rw [hk]; rfl
    rw [e1] at hcon
    rw [e2, e3]
    clear e1 e2 e3 hk
    go_enter Try.func15, Try.ntmps15
    go_wp2_with fail
    refine hcon.mono ?_
    rintro e W1 ⟨rfl, rfl⟩
    clear hcon
    go_wp2
    refine bodyPost_ret (v := .tuple #[.agg #[.int .u8 0, .int .u8 0, .int .u8 0, .bool false], .bool false]) (by simp [results, Try.results15, go_sem]) rfl ⟨rfl, ?_⟩
    exact hw0
  | some k =>
    obtain ⟨hkl, _, _⟩ := idx_some hk
    have e1 : idxI (ofB a p) L = (k : Int) := by unfold idxI; rw [hk]
    have e2 : fdM a p L = L[k] := by unfold fdM; rw [hk]; simp [List.getElem?_eq_getElem hkl]
    have e3 : fdB a p L = true := by unfold fdB; rw [hk]; rfl
    rw [e1] at hcon
    rw [e2, e3]
    clear e1 e2 e3 hk
    obtain ⟨g, cap, rfl, hBg, hR⟩ := own_row HO.out.row (by intro e; subst e; cases hkl)
    obtain ⟨c0, c1, c2, c3⟩ := hR.at k _ (List.getElem?_eq_getElem hkl)
    have hgl := hR.lt
    generalize L[k] = y at *
    obtain ⟨y0, y1, y2, y3⟩ := y
    simp only at c0 c1 c2 c3
    have hkz : (k : Int) < (L.length : Int) := by omega
    have hkn : ¬ (k : Int) < 0 := by omega
    have n2 : g ≠ w.heap.size := by omega
    clear hR
    go_enter Try.func15, Try.ntmps15
    go_wp2_with fail
    refine hcon.mono ?_
    rintro e W1 ⟨rfl, rfl⟩
    clear hcon
    go_wp2
    refine bodyPost_ret (v := .tuple #[.agg #[.int .u8 y0, .int .u8 y1, .int .u8 y2, .bool y3], .bool true]) (by simp [results, Try.results15, go_sem]) rfl ⟨rfl, ?_⟩
    exact (Below.refl _ w).alloc (Nat.le_refl _) _
set_option maxHeartbeats 2000000 in
theorem rtrans_any (B tb : Nat) (v : Value) (L : List Mp) (a d : Int) (b : Bool) (w : World) (h : Ob B 57 w tb v L) (hL : L.length ≤ 1000) (hk : ∀ m ∈ L, MpOk m) (hd : 0 ≤ d) (hd2 : d ≤ 65535) :
    Calls Try.prog 17 #[.pointer (some ⟨tb, 0, none⟩), .int .u8 a, .int .u16 d, .bool b] w fun e w' => e = .returned (trV (trL a d b L)) ∧ Below w.heap.size w w' := by
  have w0 : IntKind.i64.wrap d = d := by rw [IntKind.wrap_i64]; omega
  by_cases h5 : 512 ≤ d
  · have e1 : trL a d b L = (0, 0, 2) := by unfold trL; rw [if_pos h5]
    rw [e1]
    clear h
    go_enter Try.func17, Try.ntmps17
    go_wp2
    go_ret3
    exact ⟨rfl, Below.refl _ _⟩
  · have hcon := rfind_any B tb v L a (d / 32) w h hL
    have hfo := fdM_ok a (d / 32) L hk
    have hE := trL_fd a d b L h5
    have HE : Hid (trL a d b L = if fdB a (d / 32) L = false ∨ (b = true ∧ (fdM a (d / 32) L).2.2.2 = false) then (0, 0, 10) else ((fdM a (d / 32) L).2.2.1, d % 32, 0)) := hE
    clear hE h hk
    generalize fdM a (d / 32) L = m at *
    generalize fdB a (d / 32) L = q at *
    generalize trL a d b L = r at *
    obtain ⟨m0, m1, m2, m3⟩ := m
    obtain ⟨_, _, _, _, hm4, hm5⟩ := hfo
    simp only at hm4 hm5
    unfold mpV at hcon
    have t1 : d.tdiv 32 = d / 32 := Int.tdiv_eq_ediv_of_nonneg hd
    have t2 : d.tmod 32 = d % 32 := Int.tmod_eq_emod_of_nonneg hd
    have w1 : IntKind.u8.wrap (d / 32) = d / 32 := by rw [IntKind.wrap_u8]; omega
    have w2 : IntKind.i64.wrap m2 = m2 := by rw [IntKind.wrap_i64]; omega
    have w3 : IntKind.i64.wrap (d % 32) = d % 32 := by rw [IntKind.wrap_i64]; omega
    have w4 : IntKind.i64.wrap (d / 32) = d / 32 := by rw [IntKind.wrap_i64]; omega
    cases q with
    | false =>
      go_enter Try.func17, Try.ntmps17
      go_wp2_with fail
      refine hcon.mono ?_
      rintro e W1 ⟨rfl, hB1⟩
      go_wp2
      go_ret3
      exact ⟨by rw [HE.out]; rfl, hB1.alloc hB1.size _⟩
    | true =>
      cases b with
      | false =>
        go_enter Try.func17, Try.ntmps17
        go_wp2_with fail
        refine hcon.mono ?_
        rintro e W1 ⟨rfl, hB1⟩
        go_wp2
        go_ret3
        exact ⟨by rw [HE.out]; rfl, hB1.alloc hB1.size _⟩
      | true =>
        cases m3 with
        | false =>
          go_enter Try.func17, Try.ntmps17
          go_wp2_with fail
          refine hcon.mono ?_
          rintro e W1 ⟨rfl, hB1⟩
          go_wp2
          go_ret3
          exact ⟨by rw [HE.out]; rfl, hB1.alloc hB1.size _⟩
        | true =>
          go_enter Try.func17, Try.ntmps17
          go_wp2_with fail
          refine hcon.mono ?_
          rintro e W1 ⟨rfl, hB1⟩
          go_wp2
          go_ret3
          exact ⟨by rw [HE.out]; rfl, hB1.alloc hB1.size _⟩
set_option maxHeartbeats 2000000 in
theorem rdrop_any (B tb : Nat) (v : Value) (L : List Mp) (a p : Int) (w : World) (h : Ob B 57 w tb v L) (hG : Good L) (hB : B ≤ w.heap.size) :
    Calls Try.prog 35 #[.pointer (some ⟨tb, 0, none⟩), .int .u8 a, .int .u8 p] w fun e w' => e = .returned (.bool (fdB a p L)) ∧ ∃ v', Stp B 57 w w' tb v v' (L.filter (fun x => !ofB a p x)) := by
  have hL := hG.few
  have hcon := rat_any B tb v L a p w h (by omega)
  cases hk : L.findIdx? (ofB a p) with
  | none =>
    have e1 : idxI (ofB a p) L = -1 := by unfold idxI; rw [hk]
    have e2 : L.filter (fun x => !ofB a p x) = L := filter_none _ L (fun j hj => idx_none hk j hj)
    have e3 : fdB a p L = false := by unfold fdB; rw [hk]; rfl
    rw [e1] at hcon
    rw [e2, e3]
    have HS : Hid (Stp B 57 w w tb v v L) := Stp.same h (Below.refl _ _)
    clear e1 e2 e3 hk h
    go_enter Try.func35, Try.ntmps35
    go_wp2_with fail
    refine hcon.mono ?_
    rintro e W1 ⟨rfl, rfl⟩
    go_wp2
    go_ret
    exact ⟨rfl, _, HS.out⟩
  | some k =>
    obtain ⟨hkl, _, _⟩ := idx_some hk
    have e1 : idxI (ofB a p) L = (k : Int) := by unfold idxI; rw [hk]
    have e2 : L.filter (fun x => !ofB a p x) = L.eraseIdx k := out_of hG.kd a p k hk
    have e3 : fdB a p L = true := by unfold fdB; rw [hk]; rfl
    rw [e1] at hcon
    rw [e2, e3]
    have hcut := rcut_any B tb v L k w h (by omega) hB hkl
    generalize L.eraseIdx k = M at *
    generalize L[k] = y at *
    clear e1 e2 e3 hk h
    have hkn : (0 : Int) ≤ (k : Int) := by omega
    go_enter Try.func35, Try.ntmps35
    go_wp2_with fail
    refine hcon.mono ?_
    rintro e W1 ⟨rfl, rfl⟩
    go_wp2_with fail
    refine hcut.mono ?_
    rintro e W1 ⟨rfl, v', hS⟩
    have HS : Hid (Stp B 57 _ W1 tb v v' M) := hS
    clear hS hcut hcon
    go_wp2
    go_ret
    exact ⟨rfl, _, HS.out⟩
set_option maxHeartbeats 2000000 in
theorem rprotect_any (B tb : Nat) (v : Value) (L : List Mp) (a p : Int) (b : Bool) (w : World) (h : Ob B 57 w tb v L) (hL : L.length ≤ 1000) (hB : B ≤ w.heap.size) :
    Calls Try.prog 39 #[.pointer (some ⟨tb, 0, none⟩), .int .u8 a, .int .u8 p, .bool b] w fun e w' => e = .returned (.bool (fdB a p L)) ∧ ∃ v', Stp B 57 w w' tb v v' (wrL a p b L) := by
  have hcon := rat_any B tb v L a p w h hL
  have hlt := h.lt
  cases hk : L.findIdx? (ofB a p) with
  | none =>
    have e1 : idxI (ofB a p) L = -1 := by unfold idxI; rw [hk]
    have e2 : wrL a p b L = L := by unfold wrL; rw [hk]
    have e3 : fdB a p L = false := by unfold fdB; rw [hk]; rfl
    rw [e1] at hcon
    rw [e2, e3]
    have HS : Hid (Stp B 57 w w tb v v L) := Stp.same h (Below.refl _ _)
    clear e1 e2 e3 hk h
    go_enter Try.func39, Try.ntmps39
    go_wp2_with fail
    refine hcon.mono ?_
    rintro e W1 ⟨rfl, rfl⟩
    go_wp2
    go_ret
    exact ⟨rfl, _, HS.out⟩
  | some k =>
    obtain ⟨hkl, _, _⟩ := idx_some hk
    have e1 : idxI (ofB a p) L = (k : Int) := by unfold idxI; rw [hk]
    have e2 : wrL a p b L = L.modify k (fun m => (m.1, m.2.1, m.2.2.1, b)) := by unfold wrL; rw [hk]
    have e3 : fdB a p L = true := by unfold fdB; rw [hk]; rfl
    rw [e1] at hcon
    rw [e2, e3]
    clear e1 e2 e3 hk
    obtain ⟨g, cap, rfl, hBg, hR⟩ := own_row h.row (by intro e; subst e; cases hkl)
    have hcell := h.cell
    have HO : Hid (Ob B 57 w tb (.slice (some ⟨g, 0, none⟩) L.length cap) L) := h
    have hkz : (k : Int) < (L.length : Int) := by omega
    have hkn : ¬ (k : Int) < 0 := by omega
    have n1 : tb ≠ w.heap.size := by omega
    have g1 : (w.alloc (.cells #[] 33)).cell? ⟨tb, 0, none⟩ = some (.slice (some ⟨g, 0, none⟩) L.length cap) := Lib.cell?_alloc_some _ hcell
    have hX : Below w.heap.size w (w.alloc (.cells #[] 33)) := (Below.refl _ w).alloc (Nat.le_refl _) _
    have HX : Hid (Below w.heap.size w (w.alloc (.cells #[] 33))) := hX
    have HM : Hid (Mps (w.alloc (.cells #[] 33)) (.slice (some ⟨g, 0, none⟩) L.length cap) L) := (Mps.of_own h.row).below hX
    clear h hR hX
    go_enter Try.func39, Try.ntmps39
    go_wp2_with fail
    refine hcon.mono ?_
    rintro e W1 ⟨rfl, rfl⟩
    clear hcon
    go_wp2_with (at_builtin; refine wpList_app rfl _ _ rfl B (.slice (some ⟨W1.heap.size, 0, none⟩) 0 0) [] (.slice (some ⟨g, 0, none⟩) L.length cap) L rfl rfl (own_none W1 B hB) HM.out (by simp only [List.length_nil]; omega) (by rw [World.size_alloc]; omega) ?_; intro va Wa owna growa ata; have HBa : Hid (Below W1.heap.size W1 Wa) := grow_below HX.out HX.out.size growa (fun g e => Nat.le_of_eq (Option.some.inj e)); have HNa : Hid (∃ g, W1.heap.size ≤ g ∧ va.ownBlock = some g) := ata.elim (fun q => ⟨_, Nat.le_refl _, q⟩) (fun q => ⟨_, HX.out.size, q⟩); obtain ⟨ga, capa, rfl, hBga, hRa⟩ := own_row owna (by intro e; rw [List.nil_append] at e; subst e; cases hkl); have HRa : Hid (RowC Wa ga capa L) := hRa; have hga : W1.heap.size ≤ ga := (by { obtain ⟨g', h1, h2⟩ := HNa.out; have e' : ga = g' := Option.some.inj h2; omega }); obtain ⟨d0, d1, d2, d3⟩ := HRa.out.at k _ (List.getElem?_eq_getElem hkl); have f3 := HRa.out.thaw (k * 4 + 3); have n5 : ga ≠ tb := by { omega }; have n6 : tb ≠ ga := by { omega }; have c4 : Wa.cell? ⟨tb, 0, none⟩ = some (.slice (some ⟨g, 0, none⟩) L.length cap) := (HBa.out.cell (p := ⟨tb, 0, none⟩) hlt).trans hcell; have f4 : Wa.frozen? ⟨tb, 0, none⟩ = false := (HBa.out.frozen (p := ⟨tb, 0, none⟩) hlt).trans HO.out.thaw; clear owna growa ata d0 d1 d2 hRa)
    have hr := row_own (HRa.out.wr k b hkl) hBga
    rw [List.length_modify] at hr
    have HSb : Hid (Stp B 57 W1 ((Wa.setCell ⟨ga, k * 4 + 3, none⟩ (.bool b)).setCell ⟨tb, 0, none⟩ (.slice (some ⟨ga, 0, none⟩) L.length capa)) tb (.slice (some ⟨g, 0, none⟩) L.length cap) (.slice (some ⟨ga, 0, none⟩) L.length capa) (L.modify k (fun m => (m.1, m.2.1, m.2.2.1, b)))) := Stp.of_set HO.out tR (Apart.of_below (HBa.out.setCell (p := ⟨ga, k * 4 + 3, none⟩) hga _)) (by rw [List.length_modify]; exact hr) (.inr ⟨ga, hga, rfl⟩)
    clear hr
    go_ret
    exact ⟨rfl, _, HSb.out⟩
/-- The first j looked at, and those that are so out. -/
def stepD (f : Mp → Bool) (L : List Mp) (j : Nat) : List Mp := (L.take j).filter (fun x => !f x) ++ L.drop j
theorem stepD_at (f : Mp → Bool) (L : List Mp) (j : Nat) (hj : j < L.length) : (stepD f L j)[((L.take j).filter (fun x => !f x)).length]? = some L[j] := by
  unfold stepD
  rw [List.getElem?_append_right (Nat.le_refl _), Nat.sub_self, List.getElem?_drop]
  simp [List.getElem?_eq_getElem hj]
theorem stepD_len (f : Mp → Bool) (L : List Mp) (j : Nat) : (stepD f L j).length = ((L.take j).filter (fun x => !f x)).length + (L.length - j) := by
  unfold stepD
  rw [List.length_append, List.length_drop]
theorem stepD_cut (f : Mp → Bool) (L : List Mp) (j : Nat) (hj : j < L.length) (hf : f L[j] = true) : (stepD f L j).eraseIdx ((L.take j).filter (fun x => !f x)).length = stepD f L (j + 1) ∧ ((L.take (j + 1)).filter (fun x => !f x)).length = ((L.take j).filter (fun x => !f x)).length := by
  have e1 : (L.take (j + 1)).filter (fun x => !f x) = (L.take j).filter (fun x => !f x) := by
    rw [List.take_succ_eq_append_getElem hj, List.filter_append, List.filter_cons_of_neg (by simp [hf]), List.filter_nil, List.append_nil]
  refine ⟨?_, by rw [e1]⟩
  unfold stepD
  rw [e1, List.eraseIdx_append_of_length_le (Nat.le_refl _), Nat.sub_self, List.drop_eq_getElem_cons hj]
  rfl
theorem stepD_keep (f : Mp → Bool) (L : List Mp) (j : Nat) (hj : j < L.length) (hf : f L[j] = false) : stepD f L j = stepD f L (j + 1) ∧ ((L.take (j + 1)).filter (fun x => !f x)).length = ((L.take j).filter (fun x => !f x)).length + 1 := by
  have e1 : (L.take (j + 1)).filter (fun x => !f x) = (L.take j).filter (fun x => !f x) ++ [L[j]] := by
    rw [List.take_succ_eq_append_getElem hj, List.filter_append, List.filter_cons_of_pos (by simp [hf]), List.filter_nil]
  refine ⟨?_, by rw [e1]; simp⟩
  unfold stepD
  rw [e1, List.append_assoc, List.drop_eq_getElem_cons hj]
  rfl
set_option maxHeartbeats 4000000 in
theorem rasid_any (B tb : Nat) (v : Value) (L : List Mp) (a : Int) (w : World) (h : Ob B 57 w tb v L) (hL : L.length ≤ 1000) (hB : B ≤ w.heap.size) :
    Calls Try.prog 36 #[.pointer (some ⟨tb, 0, none⟩), .int .u8 a] w fun e w' => e = .returned (.int .i64 ((L.length : Int) - ((L.filter (fun x => !decide (x.1 = a))).length : Int))) ∧ ∃ v', Stp B 57 w w' tb v v' (L.filter (fun x => !decide (x.1 = a))) := by
  have HS0 : Hid (Stp B 57 w w tb v v L) := Stp.same h (Below.refl _ _)
  have hlt := h.lt
  clear h
  go_enter Try.func36, Try.ntmps36
  go_wp2
  go_loopw [5, 6] (fun s5 s6 wr => ∃ (n i j : Nat) (v' : Value), s5 = .int .i64 n ∧ s6 = .int .i64 i ∧ j ≤ L.length ∧ n + i = j ∧ Hid (i = ((L.take j).filter (fun x => !decide (x.1 = a))).length) ∧ Hid (Stp B 57 w wr tb v v' (stepD (fun x : Mp => decide (x.1 = a)) L j))) (fun s5 s6 _ => L.length - (intOf s5 + intOf s6).toNat)
  case atStart => exact ⟨0, 0, 0, v, rfl, rfl, Nat.zero_le _, rfl, (by simp : _ = _), HS0.out⟩
  case round =>
    obtain ⟨n, i, j, v', rfl, rfl, hj, hnij, HI, HS⟩ := hrel
    have hDl := stepD_len (fun x : Mp => decide (x.1 = a)) L j
    have HDl : Hid ((stepD (fun x : Mp => decide (x.1 = a)) L j).length = i + (L.length - j)) := by show _ = _; rw [hDl, HI.out]
    clear hDl
    obtain ⟨av, capv, ev⟩ := HS.out.ob.form
    subst ev
    have hcell := HS.out.ob.cell
    have hDz : ((stepD (fun x : Mp => decide (x.1 = a)) L j).length : Int) = (i : Int) + ((L.length : Int) - (j : Int)) := by rw [HDl.out]; omega
    have hnz : n + i ≤ 1000 := by omega
    by_cases hjl : j < L.length
    · have hiz : (i : Int) < ((stepD (fun x : Mp => decide (x.1 = a)) L j).length : Int) := by omega
      have hat : (stepD (fun x : Mp => decide (x.1 = a)) L j)[i]? = some L[j] := by rw [HI.out]; exact stepD_at (fun x : Mp => decide (x.1 = a)) L j hjl
      obtain ⟨hiD, hie⟩ := List.getElem?_eq_some_iff.1 hat
      obtain ⟨g, capg, eg, _, hR⟩ := own_row HS.out.ob.row (by intro e; rw [e] at hiD; cases hiD)
      injection eg with eg1 eg2 eg3
      subst eg1
      subst eg3
      have hc := hR.at i _ hat
      have hc0 : wr.cell? ⟨g, i * 4, none⟩ = some (.int .u8 L[j].1) := hc.1
      have hcut := rcut_any B tb _ _ i wr HS.out.ob (by rw [HDl.out]; omega) (Nat.le_trans hB HS.out.ap.size) hiD
      have HC : Hid (∀ (y : Int), L[j].1 = y → y = a → (stepD (fun x : Mp => decide (x.1 = a)) L j).eraseIdx i = stepD (fun x : Mp => decide (x.1 = a)) L (j + 1) ∧ i = ((L.take (j + 1)).filter (fun x => !decide (x.1 = a))).length) := fun y hy hh => by
        have := stepD_cut (fun x : Mp => decide (x.1 = a)) L j hjl (by simp [hy, hh])
        rw [← HI.out] at this
        exact ⟨this.1, this.2.symm⟩
      have HK : Hid (∀ (y : Int), L[j].1 = y → y ≠ a → stepD (fun x : Mp => decide (x.1 = a)) L j = stepD (fun x : Mp => decide (x.1 = a)) L (j + 1) ∧ i + 1 = ((L.take (j + 1)).filter (fun x => !decide (x.1 = a))).length) := fun y hy hh => by
        have := stepD_keep (fun x : Mp => decide (x.1 = a)) L j hjl (by simp [hy, hh])
        rw [← HI.out] at this
        exact ⟨this.1, this.2.symm⟩
      clear hat hie hc hR
      generalize L[j].1 = y at *
      by_cases he : y = a
      · obtain ⟨k1, k2⟩ := HC.out y rfl he
        have hq : (y == a) = true := by simpa using he
        rw [k1] at hcut
        have HI' : Hid (i = ((L.take (j + 1)).filter (fun x => !decide (x.1 = a))).length) := k2
        clear HC HK k1 k2 he
        generalize (stepD (fun x : Mp => decide (x.1 = a)) L j)[i] = z at *
        go_wp2_with fail
        refine hcut.mono ?_
        rintro e W1 ⟨rfl, v2, hS2⟩
        have HS2 : Hid (Stp B 57 w W1 tb v v2 (stepD (fun x : Mp => decide (x.1 = a)) L (j + 1))) := HS.out.trans hS2
        clear hS2 hcut
        go_wp2
        go_roundw
        case rel => exact ⟨n + 1, i, j + 1, v2, by go_num, rfl, by omega, by omega, HI'.out, HS2.out⟩
        case measure => simp [intOf]; omega
      · obtain ⟨k1, k2⟩ := HK.out y rfl he
        have hq : (y == a) = false := by simpa using he
        have HI' : Hid (i + 1 = ((L.take (j + 1)).filter (fun x => !decide (x.1 = a))).length) := k2
        have HS2 : Hid (Stp B 57 w wr tb v (.slice (some ⟨g, 0, none⟩) (stepD (fun x : Mp => decide (x.1 = a)) L j).length capv) (stepD (fun x : Mp => decide (x.1 = a)) L (j + 1))) := by rw [k1] at HS ⊢; exact HS.out
        clear HC HK k1 k2 he hcut
        go_wp2
        go_roundw
        case rel => exact ⟨n, i + 1, j + 1, _, rfl, by go_num, by omega, by omega, HI'.out, HS2.out⟩
        case measure => simp [intOf]; omega
    · obtain rfl : j = L.length := by omega
      have hiz : ¬ (i : Int) < ((stepD (fun x : Mp => decide (x.1 = a)) L L.length).length : Int) := by omega
      have e1 : stepD (fun x : Mp => decide (x.1 = a)) L L.length = L.filter (fun x => !decide (x.1 = a)) := by unfold stepD; simp
      have HE : Hid ((n : Int) = (L.length : Int) - ((L.filter (fun x => !decide (x.1 = a))).length : Int)) := by
        have := HI.out
        rw [List.take_length] at this
        show _ = _
        omega
      have HS2 : Hid (Stp B 57 w wr tb v (.slice av (stepD (fun x : Mp => decide (x.1 = a)) L L.length).length capv) (L.filter (fun x => !decide (x.1 = a)))) := by rw [e1] at HS ⊢; exact HS.out
      clear e1 hDz
      go_wp2
      go_ret
      exact ⟨by rw [← HE.out]; rfl, _, HS2.out⟩
set_option maxHeartbeats 4000000 in
theorem rframe_any (B tb : Nat) (v : Value) (L : List Mp) (a : Int) (w : World) (h : Ob B 57 w tb v L) (hL : L.length ≤ 1000) (hB : B ≤ w.heap.size) :
    Calls Try.prog 37 #[.pointer (some ⟨tb, 0, none⟩), .int .u8 a] w fun e w' => e = .returned (.int .i64 ((L.length : Int) - ((L.filter (fun x => !decide (x.2.2.1 = a))).length : Int))) ∧ ∃ v', Stp B 57 w w' tb v v' (L.filter (fun x => !decide (x.2.2.1 = a))) := by
  have HS0 : Hid (Stp B 57 w w tb v v L) := Stp.same h (Below.refl _ _)
  have hlt := h.lt
  clear h
  go_enter Try.func37, Try.ntmps37
  go_wp2
  go_loopw [5, 6] (fun s5 s6 wr => ∃ (n i j : Nat) (v' : Value), s5 = .int .i64 n ∧ s6 = .int .i64 i ∧ j ≤ L.length ∧ n + i = j ∧ Hid (i = ((L.take j).filter (fun x => !decide (x.2.2.1 = a))).length) ∧ Hid (Stp B 57 w wr tb v v' (stepD (fun x : Mp => decide (x.2.2.1 = a)) L j))) (fun s5 s6 _ => L.length - (intOf s5 + intOf s6).toNat)
  case atStart => exact ⟨0, 0, 0, v, rfl, rfl, Nat.zero_le _, rfl, (by simp : _ = _), HS0.out⟩
  case round =>
    obtain ⟨n, i, j, v', rfl, rfl, hj, hnij, HI, HS⟩ := hrel
    have hDl := stepD_len (fun x : Mp => decide (x.2.2.1 = a)) L j
    have HDl : Hid ((stepD (fun x : Mp => decide (x.2.2.1 = a)) L j).length = i + (L.length - j)) := by show _ = _; rw [hDl, HI.out]
    clear hDl
    obtain ⟨av, capv, ev⟩ := HS.out.ob.form
    subst ev
    have hcell := HS.out.ob.cell
    have hDz : ((stepD (fun x : Mp => decide (x.2.2.1 = a)) L j).length : Int) = (i : Int) + ((L.length : Int) - (j : Int)) := by rw [HDl.out]; omega
    have hnz : n + i ≤ 1000 := by omega
    by_cases hjl : j < L.length
    · have hiz : (i : Int) < ((stepD (fun x : Mp => decide (x.2.2.1 = a)) L j).length : Int) := by omega
      have hat : (stepD (fun x : Mp => decide (x.2.2.1 = a)) L j)[i]? = some L[j] := by rw [HI.out]; exact stepD_at (fun x : Mp => decide (x.2.2.1 = a)) L j hjl
      obtain ⟨hiD, hie⟩ := List.getElem?_eq_some_iff.1 hat
      obtain ⟨g, capg, eg, _, hR⟩ := own_row HS.out.ob.row (by intro e; rw [e] at hiD; cases hiD)
      injection eg with eg1 eg2 eg3
      subst eg1
      subst eg3
      have hc := hR.at i _ hat
      have hc0 : wr.cell? ⟨g, i * 4 + 2, none⟩ = some (.int .u8 L[j].2.2.1) := hc.2.2.1
      have hcut := rcut_any B tb _ _ i wr HS.out.ob (by rw [HDl.out]; omega) (Nat.le_trans hB HS.out.ap.size) hiD
      have HC : Hid (∀ (y : Int), L[j].2.2.1 = y → y = a → (stepD (fun x : Mp => decide (x.2.2.1 = a)) L j).eraseIdx i = stepD (fun x : Mp => decide (x.2.2.1 = a)) L (j + 1) ∧ i = ((L.take (j + 1)).filter (fun x => !decide (x.2.2.1 = a))).length) := fun y hy hh => by
        have := stepD_cut (fun x : Mp => decide (x.2.2.1 = a)) L j hjl (by simp [hy, hh])
        rw [← HI.out] at this
        exact ⟨this.1, this.2.symm⟩
      have HK : Hid (∀ (y : Int), L[j].2.2.1 = y → y ≠ a → stepD (fun x : Mp => decide (x.2.2.1 = a)) L j = stepD (fun x : Mp => decide (x.2.2.1 = a)) L (j + 1) ∧ i + 1 = ((L.take (j + 1)).filter (fun x => !decide (x.2.2.1 = a))).length) := fun y hy hh => by
        have := stepD_keep (fun x : Mp => decide (x.2.2.1 = a)) L j hjl (by simp [hy, hh])
        rw [← HI.out] at this
        exact ⟨this.1, this.2.symm⟩
      clear hat hie hc hR
      generalize L[j].2.2.1 = y at *
      by_cases he : y = a
      · obtain ⟨k1, k2⟩ := HC.out y rfl he
        have hq : (y == a) = true := by simpa using he
        rw [k1] at hcut
        have HI' : Hid (i = ((L.take (j + 1)).filter (fun x => !decide (x.2.2.1 = a))).length) := k2
        clear HC HK k1 k2 he
        generalize (stepD (fun x : Mp => decide (x.2.2.1 = a)) L j)[i] = z at *
        go_wp2_with fail
        refine hcut.mono ?_
        rintro e W1 ⟨rfl, v2, hS2⟩
        have HS2 : Hid (Stp B 57 w W1 tb v v2 (stepD (fun x : Mp => decide (x.2.2.1 = a)) L (j + 1))) := HS.out.trans hS2
        clear hS2 hcut
        go_wp2
        go_roundw
        case rel => exact ⟨n + 1, i, j + 1, v2, by go_num, rfl, by omega, by omega, HI'.out, HS2.out⟩
        case measure => simp [intOf]; omega
      · obtain ⟨k1, k2⟩ := HK.out y rfl he
        have hq : (y == a) = false := by simpa using he
        have HI' : Hid (i + 1 = ((L.take (j + 1)).filter (fun x => !decide (x.2.2.1 = a))).length) := k2
        have HS2 : Hid (Stp B 57 w wr tb v (.slice (some ⟨g, 0, none⟩) (stepD (fun x : Mp => decide (x.2.2.1 = a)) L j).length capv) (stepD (fun x : Mp => decide (x.2.2.1 = a)) L (j + 1))) := by rw [k1] at HS ⊢; exact HS.out
        clear HC HK k1 k2 he hcut
        go_wp2
        go_roundw
        case rel => exact ⟨n, i + 1, j + 1, _, rfl, by go_num, by omega, by omega, HI'.out, HS2.out⟩
        case measure => simp [intOf]; omega
    · obtain rfl : j = L.length := by omega
      have hiz : ¬ (i : Int) < ((stepD (fun x : Mp => decide (x.2.2.1 = a)) L L.length).length : Int) := by omega
      have e1 : stepD (fun x : Mp => decide (x.2.2.1 = a)) L L.length = L.filter (fun x => !decide (x.2.2.1 = a)) := by unfold stepD; simp
      have HE : Hid ((n : Int) = (L.length : Int) - ((L.filter (fun x => !decide (x.2.2.1 = a))).length : Int)) := by
        have := HI.out
        rw [List.take_length] at this
        show _ = _
        omega
      have HS2 : Hid (Stp B 57 w wr tb v (.slice av (stepD (fun x : Mp => decide (x.2.2.1 = a)) L L.length).length capv) (L.filter (fun x => !decide (x.2.2.1 = a)))) := by rw [e1] at HS ⊢; exact HS.out
      clear e1 hDz
      go_wp2
      go_ret
      exact ⟨by rw [← HE.out]; rfl, _, HS2.out⟩
end Go.Proofs.Ytojglefbmfpphaa
