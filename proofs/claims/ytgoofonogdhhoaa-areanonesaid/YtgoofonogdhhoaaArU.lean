/- The document's Upcall. -/
import Derived.Test.YtgoofonogdhhoaaArT
namespace Go.Proofs.Ytgoofonogdhhoaa
open Go.RowKit Go.Maps
set_option linter.unusedVariables false
set_option maxRecDepth 100000
/-- What holds behind the first append. -/
structure RA (B : Nat) (W Wa : World) (va : Value) (T1 : List Rg) : Prop where
  below : Below W.heap.size W Wa
  own : Wa.ownsRow B 26 9 va ([] ++ T1).length (rgsCs ([] ++ T1))
  far : ∃ g, W.heap.size ≤ g ∧ va.ownBlock = some g
theorem RA.mk' {B : Nat} {W X Wa : World} {va : Value} {T1 : List Rg} {q c : Nat} (hX : Below W.heap.size W X) (hq : W.heap.size ≤ q) (own : Wa.ownsRow B 26 9 va ([] ++ T1).length (rgsCs ([] ++ T1))) (grow : X.grownBy Wa (Value.ownBlock (.slice (some ⟨q, 0, none⟩) 0 c))) (at' : va.ownBlock = Value.ownBlock (.slice (some ⟨q, 0, none⟩) 0 c) ∨ va.ownBlock = some X.heap.size) : RA B W Wa va T1 :=
  ⟨hX.grown grow hX.size (fun g e => by have e' : q = g := Option.some.inj e; omega), own, at'.elim (fun e => ⟨q, hq, e⟩) (fun e => ⟨_, hX.size, e⟩)⟩
theorem RB.mk' {B : Nat} {W Wa X Wb : World} {va : Value} {L : List Rg} (hA : RA B W Wa va L) (hX : Below Wa.heap.size Wa X) (grow : X.grownBy Wb va.ownBlock) : Below W.heap.size W Wb :=
  (hA.below.trans (hX.mono hA.below.size)).grown grow (Nat.le_trans hA.below.size hX.size) (fun g e => by
    obtain ⟨g', h1, h2⟩ := hA.far
    rw [h2] at e
    have := Option.some.inj e
    omega)
theorem rgs_far {X Wa : World} {q c b : Nat} {l : List Rg} (h : Rgs X (.slice (some ⟨b, 0, none⟩) 1 1) l) (hne : b ≠ q) (grow : X.grownBy Wa (Value.ownBlock (.slice (some ⟨q, 0, none⟩) 0 c))) : Rgs Wa (.slice (some ⟨b, 0, none⟩) 1 1) l :=
  h.stay (X := fun k => k = q) ⟨grow.os, grow.tape, grow.output, grow.size, fun k hk hx => grow.block k hk (fun e => hx (Option.some.inj e))⟩ (fun g hg e => by have e' : b = g := Option.some.inj hg; omega)
theorem up_b {B : Nat} {w Wb : World} {b : Nat} {q : Ar} {s : Rg} {vb : Value} (h : Rr B w b q) (hal : q.al = true) (h4 : q.kp.length < 4) (hW : Below w.heap.size w Wb) (own : Wb.ownsRow B 26 9 vb (q.kp ++ [s]).length (rgsCs (q.kp ++ [s]))) :
    RStp B w (Wb.setCell ⟨b, 9, none⟩ vb) b (keepQ s q) ∧ (∃ x, Wb.cell? ⟨b, 9, none⟩ = some x) ∧ Wb.frozen? ⟨b, 9, none⟩ = false := by
  obtain ⟨v0, hc, _⟩ := h.c
  have hcw := hc.below hW
  have k1 := hcw.set 9 vb
  rw [rCs_k _ vb _ (q.kp ++ [s])] at k1
  refine ⟨⟨⟨h.g, ⟨vb, k1, ?_⟩, by simp [keepQ]; omega, fun e => by rw [show q.al = false from e] at hal; cases hal⟩, (Apart.of_below hW).trans (Apart.at (X := XB b) _ b _ _ rfl)⟩, ⟨_, hcw.cell 9⟩, hcw.thaw 9⟩
  exact own_stay own (Apart.at (X := XB b) _ b _ _ rfl) (fun g' hg' e => by
    obtain ⟨cur', hg'⟩ := hg'
    have e : g' = b := e
    subst e
    have := hcw.typ hg'
    revert this
    decide)
theorem Rr.up {B : Nat} {w : World} {b : Nat} {q : Ar} (h : Rr B w b q) (hal : q.al = true) (x v : Int) (z : Nat) : RStp B w (((w.setCell ⟨b, 0, none⟩ (.int .u16 x)).setCell ⟨b, 2, none⟩ (.int .u16 v)).setCell ⟨b, 3, none⟩ (.int .u16 z)) b { q with s := { q.s with pc := x, a1 := v, a2 := z } } := by
  obtain ⟨v0, hc, ho⟩ := h.c
  exact RStp.of h (((hc.set 0 _).set 2 _).set 3 _) ho (((Apart.at (X := XB b) _ b _ _ rfl).trans (Apart.at (X := XB b) _ b _ _ rfl)).trans (Apart.at (X := XB b) _ b _ _ rfl)) ⟨h.ok.1, fun e => by rw [show q.al = false from e] at hal; cases hal⟩
set_option maxHeartbeats 8000000 in
theorem rupcall_go (B b : Nat) (q : Ar) (k : Fin 5) (v : Int) (w : World) (h : Rr B w b q) (hal : q.al = true) (he : (q.en k).isSome = true) (h4 : q.kp.length < 4) : Calls Try.prog 41 #[.pointer (some ⟨b, 0, none⟩), .int .u8 k.1, .int .u16 v] w fun r w' => r = .returned (.int .i64 0) ∧ RStp B w w' b (upQ k v q) := by
  have cd := h.k.cd
  rw [hal] at cd
  have ch := h.k.ch k
  rw [he] at ch
  have hb := h.lt
  have hBw : B ≤ w.heap.size := Nat.le_trans h.g (Nat.le_of_lt hb)
  obtain ⟨v0, hc, ho⟩ := h.c
  obtain ⟨aq, cap1, rfl⟩ := form9 ho
  have c9 : w.cell? ⟨b, 9, none⟩ = some (.slice aq q.kp.length cap1) := hc.cell 9
  have HF : Hid3 (∀ vb Wb, Below w.heap.size w Wb → Wb.ownsRow B 26 9 vb ([] ++ q.kp ++ [q.s]).length (rgsCs ([] ++ q.kp ++ [q.s])) → RStp B w (Wb.setCell ⟨b, 9, none⟩ vb) b (keepQ q.s q) ∧ (Wb.cell? ⟨b, 9, none⟩ = some (.slice aq q.kp.length cap1)) ∧ Wb.frozen? ⟨b, 9, none⟩ = false) := ⟨fun vb Wb hW ow => by
    have := up_b h hal h4 hW ow
    exact ⟨this.1, (hW.cell (p := ⟨b, 9, none⟩) hb).trans c9, this.2.2⟩⟩
  have hM1 := Rgs.of_own ho
  have HC9 : Hid3 (∀ W, Below w.heap.size w W → W.cell? ⟨b, 0, none⟩ = some (.int .u16 q.s.pc) ∧ W.cell? ⟨b, 1, none⟩ = some (.int .u16 q.s.a0) ∧ W.cell? ⟨b, 2, none⟩ = some (.int .u16 q.s.a1) ∧ W.cell? ⟨b, 3, none⟩ = some (.int .u16 q.s.a2) ∧ W.cell? ⟨b, 4, none⟩ = some (.int .u16 q.s.a3) ∧ W.cell? ⟨b, 5, none⟩ = some (.int .u16 q.s.a4) ∧ W.cell? ⟨b, 6, none⟩ = some (.int .u16 q.s.a5) ∧ W.cell? ⟨b, 7, none⟩ = some (.int .u16 q.s.a6) ∧ W.cell? ⟨b, 8, none⟩ = some (.int .u16 q.s.a7)) := ⟨fun W hW => by
    have hk := (h.below hW).k
    exact ⟨hk.cs 0 _ (by omega) rfl, hk.cs 1 _ (by omega) rfl, hk.cs 2 _ (by omega) rfl, hk.cs 3 _ (by omega) rfl, hk.cs 4 _ (by omega) rfl, hk.cs 5 _ (by omega) rfl, hk.cs 6 _ (by omega) rfl, hk.cs 7 _ (by omega) rfl, hk.cs 8 _ (by omega) rfl⟩⟩
  obtain ⟨y0, y1, y2, y3, y4, y5, y6, y7, y8⟩ := HC9.out w (Below.refl _ _)
  have HUP : Hid3 (∀ W, RStp B w W b (keepQ q.s q) → RStp B w (((W.setCell ⟨b, 0, none⟩ (.int .u16 ((q.en k).getD 0))).setCell ⟨b, 2, none⟩ (.int .u16 v)).setCell ⟨b, 3, none⟩ (.int .u16 k.1)).drew b (upQ k v q)) := ⟨fun W hW => (hW.trans (hW.a.up hal _ _ _)).drew⟩
  have hk5 := k.2
  have h2 : (k.1 : Int) < 5 := by omega
  have h3 : ¬ (5 : Int) ≤ (k.1 : Int) := by omega
  have hw : IntKind.u16.wrap (k.1 : Int) = k.1 := by rw [IntKind.wrap_u16]; omega
  have hge : ¬ (4 : Int) ≤ (q.kp.length : Int) := by omega
  have hL1 : ([] : List Rg).length + q.kp.length ≤ 1000 := by simp; omega
  have hL2 : ([] ++ q.kp).length + [q.s].length ≤ 1000 := by simp; omega
  clear h hc ho hal he h4
  generalize hs : q.s = s at *
  have Hs := Hid3.mk hs
  obtain ⟨pc, a0, a1, a2, a3, a4, a5, a6, a7⟩ := s
  simp only at *
  generalize hLL : q.kp = L at *
  have HLL := Hid3.mk hLL
  clear hs hLL
  generalize aq = a1x at *
  have hX1 : Below w.heap.size w (w.alloc (.cells #[] 26)).drew := ((Below.refl _ w).alloc (Nat.le_refl _) _).drew
  have hX2 : Below w.heap.size w ((w.alloc (.cells #[] 26)).alloc (.cells (Rg.vs ⟨pc, a0, a1, a2, a3, a4, a5, a6, a7⟩).toArray 26)).drew := (((Below.refl _ w).alloc (Nat.le_refl _) _).alloc (by simp) _).drew
  have hX3 : Below w.heap.size w ((w.alloc (.cells (Rg.vs ⟨pc, a0, a1, a2, a3, a4, a5, a6, a7⟩).toArray 26)).alloc (.cells #[] 26)).drew := (((Below.refl _ w).alloc (Nat.le_refl _) _).alloc (by simp) _).drew
  have HX1 := Hid3.mk hX1
  have HX2 := Hid3.mk hX2
  have HX3 := Hid3.mk hX3
  have HX1s : Hid3 (B ≤ (w.alloc (.cells #[] 26)).drew.heap.size) := ⟨Nat.le_trans hBw hX1.size⟩
  have HX2s : Hid3 (B ≤ ((w.alloc (.cells #[] 26)).alloc (.cells (Rg.vs ⟨pc, a0, a1, a2, a3, a4, a5, a6, a7⟩).toArray 26)).drew.heap.size) := ⟨Nat.le_trans hBw hX2.size⟩
  have HX3s : Hid3 (B ≤ ((w.alloc (.cells (Rg.vs ⟨pc, a0, a1, a2, a3, a4, a5, a6, a7⟩).toArray 26)).alloc (.cells #[] 26)).drew.heap.size) := ⟨Nat.le_trans hBw hX3.size⟩
  have H01 : Hid3 ((w.alloc (.cells #[] 26)).drew.ownsRow B 26 9 (.slice (some ⟨w.heap.size, 0, none⟩) 0 0) ([] : List Rg).length (rgsCs [])) := ⟨own_none w B hBw⟩
  have H02 : Hid3 (((w.alloc (.cells #[] 26)).alloc (.cells (Rg.vs ⟨pc, a0, a1, a2, a3, a4, a5, a6, a7⟩).toArray 26)).drew.ownsRow B 26 9 (.slice (some ⟨w.heap.size, 0, none⟩) 0 0) ([] : List Rg).length (rgsCs [])) := ⟨(own_none w B hBw).alloc _⟩
  have H03 : Hid3 (((w.alloc (.cells (Rg.vs ⟨pc, a0, a1, a2, a3, a4, a5, a6, a7⟩).toArray 26)).alloc (.cells #[] 26)).drew.ownsRow B 26 9 (.slice (some ⟨w.heap.size + 1, 0, none⟩) 0 0) ([] : List Rg).length (rgsCs [])) := ⟨by
    have := own_none (w.alloc (.cells (Rg.vs ⟨pc, a0, a1, a2, a3, a4, a5, a6, a7⟩).toArray 26)) B (by rw [World.size_alloc]; omega)
    rw [World.size_alloc] at this
    exact this⟩
  have H11 : Hid3 (Rgs (w.alloc (.cells #[] 26)).drew (.slice a1x L.length cap1) L) := ⟨hM1.below hX1⟩
  have H12 : Hid3 (Rgs ((w.alloc (.cells #[] 26)).alloc (.cells (Rg.vs ⟨pc, a0, a1, a2, a3, a4, a5, a6, a7⟩).toArray 26)).drew (.slice a1x L.length cap1) L) := ⟨hM1.below hX2⟩
  have H13 : Hid3 (Rgs ((w.alloc (.cells (Rg.vs ⟨pc, a0, a1, a2, a3, a4, a5, a6, a7⟩).toArray 26)).alloc (.cells #[] 26)).drew (.slice a1x L.length cap1) L) := ⟨hM1.below hX3⟩
  have HM2 : Hid3 (Rgs ((w.alloc (.cells #[] 26)).alloc (.cells (Rg.vs ⟨pc, a0, a1, a2, a3, a4, a5, a6, a7⟩).toArray 26)).drew (.slice (some ⟨w.heap.size + 1, 0, none⟩) 1 1) [⟨pc, a0, a1, a2, a3, a4, a5, a6, a7⟩]) := ⟨by
    have := rgs_one (w.alloc (.cells #[] 26)) ⟨pc, a0, a1, a2, a3, a4, a5, a6, a7⟩
    rw [World.size_alloc] at this
    exact this.below (below_drew _)⟩
  have HM3 : Hid3 (Rgs ((w.alloc (.cells (Rg.vs ⟨pc, a0, a1, a2, a3, a4, a5, a6, a7⟩).toArray 26)).alloc (.cells #[] 26)).drew (.slice (some ⟨w.heap.size, 0, none⟩) 1 1) [⟨pc, a0, a1, a2, a3, a4, a5, a6, a7⟩]) := ⟨(rgs_one w ⟨pc, a0, a1, a2, a3, a4, a5, a6, a7⟩).below ((Below.refl _ _).alloc (Nat.le_refl _) _).drew⟩
  clear hX1 hX2 hX3 hM1
  go_enter Try.func41, Try.ntmps41
  go_wp2_with fail
  go_cut [] (fun wx => ∃ W', W' = wx ∧ Hid3 (RStp B w W' b (keepQ ⟨pc, a0, a1, a2, a3, a4, a5, a6, a7⟩ q)))
  case first =>
   go_region_law ((first
    | (refine step_app (.tmp 44) undef (by rfl) (by rfl) _ _ (by rfl) B (.slice (some ⟨w.heap.size, 0, none⟩) 0 0) [] (.slice a1x L.length cap1) L (by rfl) (by rfl) (by exact H01.out) (by exact H11.out) (by exact hL1) (by exact HX1s.out) ?_; intro va Wa owna growa ata; have HA : Hid3 (RA B w Wa va L) := ⟨RA.mk' HX1.out (Nat.le_refl _) owna growa ata⟩; obtain ⟨x0, x1, x2, x3, x4, x5, x6, x7, x8⟩ := HC9.out Wa HA.out.below; clear owna growa ata)
    | (refine step_app (.tmp 44) (.slice (some ⟨w.heap.size + 1, 0, none⟩) 1 1) (by rfl) (by rfl) _ _ (by rfl) B (.slice (some ⟨w.heap.size, 0, none⟩) 0 0) [] (.slice a1x L.length cap1) L (by rfl) (by rfl) (by exact H02.out) (by exact H12.out) (by exact hL1) (by exact HX2s.out) ?_; intro va Wa owna growa ata; have HA : Hid3 (RA B w Wa va L) := ⟨RA.mk' HX2.out (Nat.le_refl _) owna growa ata⟩; obtain ⟨x0, x1, x2, x3, x4, x5, x6, x7, x8⟩ := HC9.out Wa HA.out.below; have HMa : Hid3 (Rgs Wa (.slice (some ⟨w.heap.size + 1, 0, none⟩) 1 1) [⟨pc, a0, a1, a2, a3, a4, a5, a6, a7⟩]) := ⟨rgs_far HM2.out (by omega) growa⟩; clear owna growa ata)
    | (refine step_app (.tmp 44) (.slice (some ⟨w.heap.size, 0, none⟩) 1 1) (by rfl) (by rfl) _ _ (by rfl) B (.slice (some ⟨w.heap.size + 1, 0, none⟩) 0 0) [] (.slice a1x L.length cap1) L (by rfl) (by rfl) (by exact H03.out) (by exact H13.out) (by exact hL1) (by exact HX3s.out) ?_; intro va Wa owna growa ata; have HA : Hid3 (RA B w Wa va L) := ⟨RA.mk' HX3.out (Nat.le_succ _) owna growa ata⟩; obtain ⟨x0, x1, x2, x3, x4, x5, x6, x7, x8⟩ := HC9.out Wa HA.out.below; have HMa : Hid3 (Rgs Wa (.slice (some ⟨w.heap.size, 0, none⟩) 1 1) [⟨pc, a0, a1, a2, a3, a4, a5, a6, a7⟩]) := ⟨rgs_far HM3.out (by omega) growa⟩; clear owna growa ata)
    | (refine step_app (.tmp 0) (.pointer (some ⟨b, 0, none⟩)) (by rfl) (by rfl) _ _ (by rfl) B va ([] ++ L) _ [⟨pc, a0, a1, a2, a3, a4, a5, a6, a7⟩] (by rfl) (by rfl) (by exact HA.out.own) (by exact HMa.out) (by exact hL2) (by have := HA.out.below.size; omega) ?_; intro vb Wb ownb growb atb; have HQ := Hid3.mk (HF.out vb Wb (RB.mk' HA.out (Below.refl _ _) growb) ownb); have c4 := HQ.out.2.1; have f4 := HQ.out.2.2; obtain ⟨a', cap', e'⟩ := form9 ownb; have e'' : vb = .slice a' (L.length + 1) cap' := by { rw [e']; simp }; clear e' ownb growb atb; subst e'')
    | (refine step_app (.tmp 44) (.slice (some ⟨Wa.heap.size, 0, none⟩) 1 1) (by rfl) (by rfl) _ _ (by rfl) B va ([] ++ L) _ [⟨pc, a0, a1, a2, a3, a4, a5, a6, a7⟩] (by rfl) (by rfl) (by exact HA.out.own.alloc _) (by exact rgs_one Wa ⟨pc, a0, a1, a2, a3, a4, a5, a6, a7⟩) (by exact hL2) (by rw [World.size_alloc]; have := HA.out.below.size; omega) ?_; intro vb Wb ownb growb atb; have HQ := Hid3.mk (HF.out vb Wb (RB.mk' HA.out (below_new Wa _) growb) ownb); have c4 := HQ.out.2.1; have f4 := HQ.out.2.2; obtain ⟨a', cap', e'⟩ := form9 ownb; have e'' : vb = .slice a' (L.length + 1) cap' := by { rw [e']; simp }; clear e' ownb growb atb; subst e'')))
   all_goals
     go_wp2_with fail
     go_meet
     case rel => exact ⟨_, rfl, ⟨HQ.out.1⟩⟩
  case rest =>
    obtain ⟨W2, rfl, HQ⟩ := hcut
    clear H01 H02 H03 H11 H12 H13 HX1 HX2 HX3 HX1s HX2s HX3s HM2 HM3 y0 y1 y2 y3 y4 y5 y6 y7 y8 c9 cd ch
    have hk := HQ.out.a.k
    have hu := HUP.out W2 HQ.out
    have HU := Hid3.mk hu
    have z0 := hk.cs 0 _ (by omega) rfl
    have z2 := hk.cs 2 _ (by omega) rfl
    have z3 := hk.cs 3 _ (by omega) rfl
    have g0 := hk.f 0
    have g2 := hk.f 2
    have g3 := hk.f 3
    have ct := hk.ct k
    have hb2 := HQ.out.a.lt
    change W2.cell? _ = some (.int .u16 ((q.en k).getD 0)) at ct
    clear hk hu
    go_wp2_with fail
    go_region
    go_wp2
    go_ret
    exact ⟨rfl, HU.out⟩
set_option maxHeartbeats 2000000 in
theorem rupcall_no (B b : Nat) (q : Ar) (k : Fin 5) (v : Int) (w : World) (h : Rr B w b q) (hR : readyE k q ≠ 0) : Calls Try.prog 41 #[.pointer (some ⟨b, 0, none⟩), .int .u8 k.1, .int .u16 v] w fun r w' => r = .returned (.int .i64 (readyE k q)) ∧ w' = w := by
  have cd := h.k.cd
  have ch := h.k.ch k
  have hb := h.lt
  obtain ⟨a0, cap0, c9⟩ := h.k.ck
  have hok := h.ok.1
  have h2 : (k.1 : Int) < 5 := by have := k.2; omega
  have h3 : ¬ (5 : Int) ≤ (k.1 : Int) := by omega
  unfold readyE at *
  clear h
  cases hal : q.al with
  | false =>
    rw [hal] at cd
    clear hal hR
    go_enter Try.func41, Try.ntmps41
    go_wp2
    go_ret
    exact ⟨rfl, rfl⟩
  | true =>
    rw [hal] at cd hR
    clear hal
    cases hz : (q.en k).isSome with
    | false =>
      rw [hz] at ch
      clear hR hz
      go_enter Try.func41, Try.ntmps41
      go_wp2
      go_ret
      exact ⟨rfl, rfl⟩
    | true =>
      rw [hz] at ch hR
      clear hz
      by_cases h4 : q.kp.length = 4
      · simp only [if_true, if_pos h4]
        rw [h4] at c9
        clear hR h4
        go_enter Try.func41, Try.ntmps41
        go_wp2
        go_ret
        exact ⟨rfl, rfl⟩
      · exact (hR (by simp [h4])).elim
set_option maxHeartbeats 1000000 in
theorem rupcall_bad (b : Nat) (k v : Int) (w : World) (h1 : 5 ≤ k) : Calls Try.prog 41 #[.pointer (some ⟨b, 0, none⟩), .int .u8 k, .int .u16 v] w fun r w' => r = .returned (.int .i64 2) ∧ w' = w := by
  go_enter Try.func41, Try.ntmps41
  go_wp2
  go_ret
  exact ⟨rfl, rfl⟩
end Go.Proofs.Ytgoofonogdhhoaa
