/- The document's Insert, where one goes for it. -/
import Derived.Test.YtojglefbmfpphaaTlbN
namespace Go.Proofs.Ytojglefbmfpphaa
open Go.RowKit Go.Maps
set_option linter.unusedVariables false
set_option maxRecDepth 100000
theorem rin_cut {B tb : Nat} {w W0 W2 : World} {v v1 : Value} {L L1 : List Mp} {m : Mp} (y0 y1 y2 : Int) (y3 : Bool) (h : RIn B w W0 tb v v L m (0, 0, 0, false)) (hS : Stp B 57 W0 W2 tb v v1 L1) (hown : ∀ k, v.ownBlock = some k → k < w.heap.size) (hs3 : W0.heap.size = w.heap.size + 3) :
    RIn B w ((((W2.setCell ⟨w.heap.size + 2, 0, none⟩ (.int .u8 y0)).setCell ⟨w.heap.size + 2, 1, none⟩ (.int .u8 y1)).setCell ⟨w.heap.size + 2, 2, none⟩ (.int .u8 y2)).setCell ⟨w.heap.size + 2, 3, none⟩ (.bool y3)) tb v v1 L1 m (y0, y1, y2, y3) ∧ W2.heap[w.heap.size + 2]? = some (.cells #[.int .u8 0, .int .u8 0, .int .u8 0, .bool false] 33) := by
  have hlt := h.lt
  have hk : ∀ k, w.heap.size ≤ k → k < w.heap.size + 3 → W2.heap[k]? = W0.heap[k]? := fun k h1 h2 => hS.ap.block k (by omega) (fun e => by
    rcases e with e | e
    · omega
    · have := hown k e.symm
      omega)
  have hA := apart_set4 W2 (w.heap.size + 2) (.int .u8 y0) (.int .u8 y1) (.int .u8 y2) (.bool y3)
  have hs2 := hS.ap.size
  have hz := (hk (w.heap.size + 2) (by omega) (by omega)).trans h.z
  refine ⟨⟨(h.st.trans hS).far (w.heap.size + 2) (by omega) hlt (fun e => ?_) hA, hlt, (hA.block _ (by omega) (by omega)).trans ((hk _ (by omega) (by omega)).trans h.x), (hA.block _ (by omega) (by omega)).trans ((hk _ (by omega) (by omega)).trans h.y), heap_set4 hz, h.hB⟩, hz⟩
  rcases hS.own with k | ⟨g, hg, k⟩
  · have := hown _ (k ▸ e)
    omega
  · rw [k] at e
    have := Option.some.inj e
    omega
set_option maxHeartbeats 8000000 in
theorem rinsert_found (B tb : Nat) (v : Value) (L : List Mp) (m : Mp) (w : World) (h : Ob B 57 w tb v L) (hL : L.length ≤ 100) (hm : MpOk m) (hr : rngB m = true) (hB : B ≤ w.heap.size) (k : Nat) (hkl : k < L.length) (hk : L.findIdx? (ofB m.1 m.2.1) = some k) :
    Calls Try.prog 33 #[.pointer (some ⟨tb, 0, none⟩), mpV m] w fun e w' => e = .returned (.tuple #[mpV L[k], .bool true, .int .i64 0]) ∧ ∃ v', Stp B 57 w w' tb v v' (L.eraseIdx k ++ [m]) := by
  obtain ⟨m0, m1, m2, m3⟩ := m
  have hr' : m1 < 16 ∧ m2 < 64 := by simpa [rngB] using hr
  obtain ⟨r1, r2⟩ := hr'
  obtain ⟨o0, o1, o2, o3, o4, o5⟩ := hm
  simp only at o0 o1 o2 o3 o4 o5 hk
  have q1 : ¬ 16 ≤ m1 := by omega
  have q2 : ¬ 64 ≤ m2 := by omega
  have hlt := h.lt
  have hw0 : Below w.heap.size w ((w.alloc (.cells #[.int .u8 m0, .int .u8 m1, .int .u8 m2, .bool m3] 33)).alloc (.cells #[.int .u8 0, .int .u8 0, .int .u8 0, .bool false] 33)) := ((Below.refl _ w).alloc (Nat.le_refl _) _).alloc (by simp) _
  have hcon := rat_any B tb v L m0 m1 _ (h.below hw0) (by omega)
  have HR0 : Hid (RIn B w (((w.alloc (.cells #[.int .u8 m0, .int .u8 m1, .int .u8 m2, .bool m3] 33)).alloc (.cells #[.int .u8 0, .int .u8 0, .int .u8 0, .bool false] 33)).alloc (.cells #[.int .u8 0, .int .u8 0, .int .u8 0, .bool false] 33)) tb v v L (m0, m1, m2, m3) (0, 0, 0, false)) := rin0 B tb v L m0 m1 m2 m3 w h hB
  have hcell := h.cell
  have n1 : tb ≠ w.heap.size := by omega
  have n2 : tb ≠ w.heap.size + 1 := by omega
  have n3 : tb ≠ w.heap.size + 1 + 1 := by omega
  have gA : ((w.alloc (.cells #[.int .u8 m0, .int .u8 m1, .int .u8 m2, .bool m3] 33)).alloc (.cells #[.int .u8 0, .int .u8 0, .int .u8 0, .bool false] 33)).cell? ⟨tb, 0, none⟩ = some v := Lib.cell?_alloc_some _ (Lib.cell?_alloc_some _ hcell)
  have e1 : idxI (ofB m0 m1) L = (k : Int) := by unfold idxI; rw [hk]
  rw [e1] at hcon
  have hkn : ¬ (k : Int) < 0 := by omega
  have hkz : (0 : Int) ≤ (k : Int) := by omega
  have hcut := rcut_any B tb v L k (((w.alloc (.cells #[.int .u8 m0, .int .u8 m1, .int .u8 m2, .bool m3] 33)).alloc (.cells #[.int .u8 0, .int .u8 0, .int .u8 0, .bool false] 33)).alloc (.cells #[.int .u8 0, .int .u8 0, .int .u8 0, .bool false] 33)) HR0.out.st.ob (by omega) (Nat.le_trans hB HR0.out.st.ap.size) hkl
  have HW : Hid (∀ k, v.ownBlock = some k → k < w.heap.size) := fun k e => (h.row.lt k e).2
  have hs3 : (((w.alloc (.cells #[.int .u8 m0, .int .u8 m1, .int .u8 m2, .bool m3] 33)).alloc (.cells #[.int .u8 0, .int .u8 0, .int .u8 0, .bool false] 33)).alloc (.cells #[.int .u8 0, .int .u8 0, .int .u8 0, .bool false] 33)).heap.size = w.heap.size + 3 := by simp
  have HRC := fun W2 v1 (hS : Stp B 57 (((w.alloc (.cells #[.int .u8 m0, .int .u8 m1, .int .u8 m2, .bool m3] 33)).alloc (.cells #[.int .u8 0, .int .u8 0, .int .u8 0, .bool false] 33)).alloc (.cells #[.int .u8 0, .int .u8 0, .int .u8 0, .bool false] 33)) W2 tb v v1 (L.eraseIdx k)) y0 y1 y2 y3 => rin_cut (W2 := W2) (v1 := v1) y0 y1 y2 y3 HR0.out hS HW.out hs3
  have hel : (L.eraseIdx k).length ≤ 100 := by rw [List.length_eraseIdx]; split <;> omega
  obtain ⟨a0, cap0, rfl⟩ := h.form
  generalize L[k] = y at *
  obtain ⟨y0, y1, y2, y3⟩ := y
  generalize hL1 : L.eraseIdx k = L1 at *
  have HL1 : Hid (L.eraseIdx k = L1) := hL1
  clear h hk e1 hL1 hs3
  unfold mpV at *
  simp only at hcut
  go_enter Try.func33, Try.ntmps33
  go_wp2_with fail
  refine hcon.mono ?_
  rintro e W1 ⟨rfl, rfl⟩
  clear hcon hw0
  go_wp2_with fail
  refine hcut.mono ?_
  rintro e W2 ⟨rfl, v1, hS⟩
  obtain ⟨hRI, hz⟩ := HRC W2 v1 hS y0 y1 y2 y3
  have HR : Hid (RIn B w _ tb (.slice a0 L.length cap0) v1 L1 (m0, m1, m2, m3) (y0, y1, y2, y3)) := hRI
  obtain ⟨⟨t0, t1, t2, t3⟩, t4, t5, t6, t7⟩ := b4 hz
  clear hRI hz HRC hcut hS HR0 gA hcell HW
  go_wp2_with fail
  generalize ((((W2.setCell ⟨w.heap.size + 2, 0, none⟩ (.int .u8 y0)).setCell ⟨w.heap.size + 2, 1, none⟩ (.int .u8 y1)).setCell ⟨w.heap.size + 2, 2, none⟩ (.int .u8 y2)).setCell ⟨w.heap.size + 2, 3, none⟩ (.bool y3)) = W1 at *
  clear t0 t1 t2 t3 t4 t5 t6 t7
  obtain ⟨a1, cap1, ev1⟩ := HR.out.st.ob.form
  subst ev1
  have hs1 := HR.out.size
  have hlt := HR.out.lt
  have g0 : W1.cell? ⟨tb, 0, none⟩ = some (.slice a1 L1.length cap1) := HR.out.st.ob.cell
  obtain ⟨⟨x0, x1, x2, x3⟩, _⟩ := b4 HR.out.x
  have g1 : (W1.alloc (.cells #[] 33)).cell? ⟨tb, 0, none⟩ = some (.slice a1 L1.length cap1) := Lib.cell?_alloc_some _ g0
  have g2 : (W1.alloc (.cells #[.int .u8 m0, .int .u8 m1, .int .u8 m2, .bool m3] 33)).cell? ⟨tb, 0, none⟩ = some (.slice a1 L1.length cap1) := Lib.cell?_alloc_some _ g0
  have g3 : ((W1.alloc (.cells #[] 33)).alloc (.cells #[.int .u8 m0, .int .u8 m1, .int .u8 m2, .bool m3] 33)).cell? ⟨tb, 0, none⟩ = some (.slice a1 L1.length cap1) := Lib.cell?_alloc_some _ g1
  have g4 : ((W1.alloc (.cells #[.int .u8 m0, .int .u8 m1, .int .u8 m2, .bool m3] 33)).alloc (.cells #[] 33)).cell? ⟨tb, 0, none⟩ = some (.slice a1 L1.length cap1) := Lib.cell?_alloc_some _ g2
  have p0 : (W1.alloc (.cells #[] 33)).cell? ⟨w.heap.size, 0, none⟩ = some (.int .u8 m0) := Lib.cell?_alloc_some _ x0
  have p1 : (W1.alloc (.cells #[] 33)).cell? ⟨w.heap.size, 1, none⟩ = some (.int .u8 m1) := Lib.cell?_alloc_some _ x1
  have p2 : (W1.alloc (.cells #[] 33)).cell? ⟨w.heap.size, 2, none⟩ = some (.int .u8 m2) := Lib.cell?_alloc_some _ x2
  have p3 : (W1.alloc (.cells #[] 33)).cell? ⟨w.heap.size, 3, none⟩ = some (.bool m3) := Lib.cell?_alloc_some _ x3
  have hX1 : Below W1.heap.size W1 (W1.alloc (.cells #[] 33)).drew := ((Below.refl _ W1).alloc (Nat.le_refl _) _).drew
  have hX2 : Below W1.heap.size W1 ((W1.alloc (.cells #[] 33)).alloc (.cells #[.int .u8 m0, .int .u8 m1, .int .u8 m2, .bool m3] 33)).drew := (((Below.refl _ W1).alloc (Nat.le_refl _) _).alloc (by simp) _).drew
  have hX3 : Below W1.heap.size W1 ((W1.alloc (.cells #[.int .u8 m0, .int .u8 m1, .int .u8 m2, .bool m3] 33)).alloc (.cells #[] 33)).drew := (((Below.refl _ W1).alloc (Nat.le_refl _) _).alloc (by simp) _).drew
  have HX1 : Hid (Below W1.heap.size W1 (W1.alloc (.cells #[] 33)).drew) := hX1
  have HX2 : Hid (Below W1.heap.size W1 ((W1.alloc (.cells #[] 33)).alloc (.cells #[.int .u8 m0, .int .u8 m1, .int .u8 m2, .bool m3] 33)).drew) := hX2
  have HX3 : Hid (Below W1.heap.size W1 ((W1.alloc (.cells #[.int .u8 m0, .int .u8 m1, .int .u8 m2, .bool m3] 33)).alloc (.cells #[] 33)).drew) := hX3
  have HX1s : Hid (B ≤ (W1.alloc (.cells #[] 33)).drew.heap.size) := Nat.le_trans HR.out.hB (Nat.le_trans HR.out.st.ap.size hX1.size)
  have HX2s : Hid (B ≤ ((W1.alloc (.cells #[] 33)).alloc (.cells #[.int .u8 m0, .int .u8 m1, .int .u8 m2, .bool m3] 33)).drew.heap.size) := Nat.le_trans HR.out.hB (Nat.le_trans HR.out.st.ap.size hX2.size)
  have HX3s : Hid (B ≤ ((W1.alloc (.cells #[.int .u8 m0, .int .u8 m1, .int .u8 m2, .bool m3] 33)).alloc (.cells #[] 33)).drew.heap.size) := Nat.le_trans HR.out.hB (Nat.le_trans HR.out.st.ap.size hX3.size)
  have hBW : B ≤ W1.heap.size := Nat.le_trans HR.out.hB HR.out.st.ap.size
  have H01 : Hid ((W1.alloc (.cells #[] 33)).drew.ownsRow B 33 4 (.slice (some ⟨W1.heap.size, 0, none⟩) 0 0) ([] : List Mp).length (mpsCs [])) := own_none W1 B hBW
  have H02 : Hid (((W1.alloc (.cells #[] 33)).alloc (.cells #[.int .u8 m0, .int .u8 m1, .int .u8 m2, .bool m3] 33)).drew.ownsRow B 33 4 (.slice (some ⟨W1.heap.size, 0, none⟩) 0 0) ([] : List Mp).length (mpsCs [])) := (own_none W1 B hBW).alloc _
  have H03 : Hid (((W1.alloc (.cells #[.int .u8 m0, .int .u8 m1, .int .u8 m2, .bool m3] 33)).alloc (.cells #[] 33)).drew.ownsRow B 33 4 (.slice (some ⟨W1.heap.size + 1, 0, none⟩) 0 0) ([] : List Mp).length (mpsCs [])) := by
    have := own_none (W1.alloc (.cells #[.int .u8 m0, .int .u8 m1, .int .u8 m2, .bool m3] 33)) B (by rw [World.size_alloc]; omega)
    rw [World.size_alloc] at this
    exact this
  have hM1 := Mps.of_own HR.out.st.ob.row
  have H11 : Hid (Mps (W1.alloc (.cells #[] 33)).drew (.slice a1 L1.length cap1) L1) := hM1.below hX1
  have H12 : Hid (Mps ((W1.alloc (.cells #[] 33)).alloc (.cells #[.int .u8 m0, .int .u8 m1, .int .u8 m2, .bool m3] 33)).drew (.slice a1 L1.length cap1) L1) := hM1.below hX2
  have H13 : Hid (Mps ((W1.alloc (.cells #[.int .u8 m0, .int .u8 m1, .int .u8 m2, .bool m3] 33)).alloc (.cells #[] 33)).drew (.slice a1 L1.length cap1) L1) := hM1.below hX3
  have HM2 : Hid (Mps ((W1.alloc (.cells #[] 33)).alloc (.cells #[.int .u8 m0, .int .u8 m1, .int .u8 m2, .bool m3] 33)).drew (.slice (some ⟨W1.heap.size + 1, 0, none⟩) 1 1) [(m0, m1, m2, m3)]) := by
    have := mps_one (W1.alloc (.cells #[] 33)) m0 m1 m2 m3
    rw [World.size_alloc] at this
    exact this.below (Below.refl _ _).drew
  have HM3 : Hid (Mps ((W1.alloc (.cells #[.int .u8 m0, .int .u8 m1, .int .u8 m2, .bool m3] 33)).alloc (.cells #[] 33)).drew (.slice (some ⟨W1.heap.size, 0, none⟩) 1 1) [(m0, m1, m2, m3)]) := (mps_one W1 m0 m1 m2 m3).below ((Below.refl _ _).alloc (by simp) _).drew
  clear hX1 hX2 hX3 hM1
  go_cut [] (fun wx => ∃ a' cap' Wb, wx = Wb.setCell ⟨tb, 0, none⟩ (.slice a' (L1.length + 1) cap') ∧ Hid (RB B w W1 Wb tb (.slice a0 L.length cap0) (.slice a1 L1.length cap1) (.slice a' (L1.length + 1) cap') (L1 ++ [(m0, m1, m2, m3)]) (y0, y1, y2, y3)))
  case first =>
   go_region_law ((first
    | (refine step_appf (.tmp 52) undef (by rfl) (by rfl) _ _ (by rfl) B (.slice (some ⟨W1.heap.size, 0, none⟩) 0 0) [] (.slice a1 L1.length cap1) L1 (by rfl) (by rfl) (by exact H01.out) (by exact H11.out) (by simp only [List.length_nil]; omega) (by exact HX1s.out) ?_; intro va Wa owna growa ata; have HA : Hid (RA B W1 Wa va L1) := RA.mk' HX1.out (Nat.le_refl _) owna growa ata; have ga : Wa.cell? ⟨tb, 0, none⟩ = some (.slice a1 L1.length cap1) := (HA.out.below.cell (p := ⟨tb, 0, none⟩) (by show tb < _; omega)).trans g0; obtain ⟨⟨qa, qb, qc, qd⟩, _⟩ := b4 ((HA.out.below.block w.heap.size (by omega)).trans HR.out.x); clear owna growa ata)
    | (refine step_appf (.tmp 52) (.slice (some ⟨W1.heap.size + 1, 0, none⟩) 1 1) (by rfl) (by rfl) _ _ (by rfl) B (.slice (some ⟨W1.heap.size, 0, none⟩) 0 0) [] (.slice a1 L1.length cap1) L1 (by rfl) (by rfl) (by exact H02.out) (by exact H12.out) (by simp only [List.length_nil]; omega) (by exact HX2s.out) ?_; intro va Wa owna growa ata; have HA : Hid (RA B W1 Wa va L1) := RA.mk' HX2.out (Nat.le_refl _) owna growa ata; have ga : Wa.cell? ⟨tb, 0, none⟩ = some (.slice a1 L1.length cap1) := (HA.out.below.cell (p := ⟨tb, 0, none⟩) (by show tb < _; omega)).trans g0; obtain ⟨⟨qa, qb, qc, qd⟩, _⟩ := b4 ((HA.out.below.block w.heap.size (by omega)).trans HR.out.x); have HMa : Hid (Mps Wa (.slice (some ⟨W1.heap.size + 1, 0, none⟩) 1 1) [(m0, m1, m2, m3)]) := mps_far HM2.out (by omega) growa; clear owna growa ata)
    | (refine step_appf (.tmp 52) (.slice (some ⟨W1.heap.size, 0, none⟩) 1 1) (by rfl) (by rfl) _ _ (by rfl) B (.slice (some ⟨W1.heap.size + 1, 0, none⟩) 0 0) [] (.slice a1 L1.length cap1) L1 (by rfl) (by rfl) (by exact H03.out) (by exact H13.out) (by simp only [List.length_nil]; omega) (by exact HX3s.out) ?_; intro va Wa owna growa ata; have HA : Hid (RA B W1 Wa va L1) := RA.mk' HX3.out (Nat.le_succ _) owna growa ata; have ga : Wa.cell? ⟨tb, 0, none⟩ = some (.slice a1 L1.length cap1) := (HA.out.below.cell (p := ⟨tb, 0, none⟩) (by show tb < _; omega)).trans g0; obtain ⟨⟨qa, qb, qc, qd⟩, _⟩ := b4 ((HA.out.below.block w.heap.size (by omega)).trans HR.out.x); have HMa : Hid (Mps Wa (.slice (some ⟨W1.heap.size, 0, none⟩) 1 1) [(m0, m1, m2, m3)]) := mps_far HM3.out (by omega) growa; clear owna growa ata)
    | (refine step_app (by rfl) _ _ (by rfl) B va ([] ++ L1) _ [(m0, m1, m2, m3)] (by rfl) (by rfl) (by exact HA.out.own) (by exact HMa.out) (by simp only [List.nil_append, List.length_cons, List.length_nil]; omega) (by have := HA.out.below.size; omega) ?_; intro vb Wb ownb growb atb; have HQ : Hid (RB B w W1 Wb tb (.slice a0 L.length cap0) (.slice a1 L1.length cap1) vb (L1 ++ [(m0, m1, m2, m3)]) (y0, y1, y2, y3)) := RB.mk' HR.out HA.out (Below.refl _ _) ownb growb atb; have c4 := HQ.out.c; have f4 := HQ.out.f; obtain ⟨a', cap', e'⟩ := HQ.out.st.ob.form; have e'' : vb = .slice a' (L1.length + 1) cap' := by { rw [e']; simp }; clear e'; subst e''; clear ownb growb atb)
    | (refine step_appf (.tmp 52) (.slice (some ⟨Wa.heap.size, 0, none⟩) 1 1) (by rfl) (by rfl) _ _ (by rfl) B va ([] ++ L1) _ [(m0, m1, m2, m3)] (by rfl) (by rfl) (by exact HA.out.own.alloc _) (by exact mps_one Wa m0 m1 m2 m3) (by simp only [List.nil_append, List.length_cons, List.length_nil]; omega) (by rw [World.size_alloc]; have := HA.out.below.size; omega) ?_; intro vb Wb ownb growb atb; have HQ : Hid (RB B w W1 Wb tb (.slice a0 L.length cap0) (.slice a1 L1.length cap1) vb (L1 ++ [(m0, m1, m2, m3)]) (y0, y1, y2, y3)) := RB.mk' HR.out HA.out ((Below.refl _ _).alloc (Nat.le_refl _) _) ownb growb atb; have c4 := HQ.out.c; have f4 := HQ.out.f; obtain ⟨a', cap', e'⟩ := HQ.out.st.ob.form; have e'' : vb = .slice a' (L1.length + 1) cap' := by { rw [e']; simp }; clear e'; subst e''; clear ownb growb atb)))
   all_goals
     go_wp2_with fail
     go_meet
     case rel => exact ⟨a', cap', Wb, rfl, HQ.out⟩
  case rest =>
    obtain ⟨a', cap', Wb, rfl, HQ⟩ := hcut
    clear H01 H02 H03 H11 H12 H13 HX1 HX2 HX3 HX1s HX2s HX3s HM2 HM3 g0 g1 g2 g3 g4 p0 p1 p2 p3 x0 x1 x2 x3
    have c4 := HQ.out.c
    have f4 := HQ.out.f
    obtain ⟨⟨ya, yb, yc, yd⟩, k0, k1, k2, k3⟩ := b4 HQ.out.y
    obtain ⟨⟨z0, z1, z2, z3⟩, _⟩ := b4 HQ.out.z
    simp only at z0 z1 z2 z3
    have n6 : w.heap.size + 1 ≠ tb := by omega
    have n7 : w.heap.size + 2 ≠ tb := by omega
    have n8 : w.heap.size + 2 ≠ w.heap.size + 1 := by omega
    go_wp2
    refine bodyPost_ret (v := .tuple #[.agg #[.int .u8 y0, .int .u8 y1, .int .u8 y2, .bool y3], .bool true, .int .i64 0]) (by simp [results, Try.results33, go_sem, ya, yb, yc, yd]) rfl ⟨rfl, .slice a' (L1.length + 1) cap', ?_⟩
    exact HQ.out.st.far (w.heap.size + 1) (by omega) hlt HQ.out.ne (apart_set4 _ _ _ _ _ _)
end Go.Proofs.Ytojglefbmfpphaa
