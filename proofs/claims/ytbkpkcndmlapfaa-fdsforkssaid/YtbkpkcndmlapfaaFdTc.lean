/- twins$1: a thing that was not seen yet. -/
import Derived.Test.YtbkpkcndmlapfaaFdTb
namespace Go.Proofs.Ytbkpkcndmlapfaa
open Go.RowKit Go.Maps
set_option linter.unusedVariables false
set_option maxRecDepth 100000
theorem twin_fin {N B : Nat} {L : Lo} {s : Fs} {W W1 Wb : World} {b1 b2 : Nat} {ps : List (Nat × Nat)} {n : Nat} {sv mv sv' mv' : Value} (h : Tw N L s W b1 b2 ps) (hF : Ft B W L s) (hn : Lv s n) (hN : N ≤ W.heap.size) (hnew : ∀ x ∈ ps, x.1 ≠ n) (hl : ps.length ≤ 47) (hW1 : W1 = W.alloc (.cells (obC s n).toArray 69))
    (h1 : Cl W b1 88 [sv]) (h2 : Cl W b2 88 [mv]) (g : Gd N W1 Wb sv' mv' (seenP L ps ++ [some (L.o n)]) (madeP ps ++ [some W.heap.size])) :
    TwS N L s W ((Wb.setCell ⟨b1, 0, none⟩ sv').setCell ⟨b2, 0, none⟩ mv') b1 b2 ps (ps ++ [(n, W.heap.size)]) n W.heap.size ∧ (∃ u, Wb.cell? ⟨b1, 0, none⟩ = some u) ∧ (∃ u, Wb.cell? ⟨b2, 0, none⟩ = some u) ∧ Wb.frozen? ⟨b1, 0, none⟩ = false ∧ Wb.frozen? ⟨b2, 0, none⟩ = false ∧ b1 < Wb.heap.size ∧ b2 < Wb.heap.size := by
  have hB1 : Below W.heap.size W W1 := by rw [hW1]; exact below_new W _
  have k1 := g.box (h1.below hB1) (by decide)
  have k2 := g.box (h2.below hB1) (by decide)
  have hnb := h.nb
  have ap : Apart (fun i => i = b1 ∨ i = b2) Wb ((Wb.setCell ⟨b1, 0, none⟩ sv').setCell ⟨b2, 0, none⟩ mv') := (Apart.at _ _ _ _ (.inl rfl)).trans (Apart.at _ _ _ _ (.inr rfl))
  have hnorow : ∀ b c, Cl Wb b 88 c → ∀ cur, Wb.heap[b]? ≠ some (.cells cur 67 (0, 0)) := fun b c hc cur e => by
    have := hc.symm.trans e
    injection this with this
    injection this with _ this
    exact absurd this (by decide)
  have hob : ∀ v g', v.ownBlock = some g' → (∃ xs n', Wb.ownsRow N 67 1 v n' xs) → ¬ (g' = b1 ∨ g' = b2) := fun v g' e ⟨xs, n', ho⟩ x => by
    obtain ⟨_, _, cur, hc⟩ := own_lt ho e
    rcases x with x | x
    · exact hnorow b1 _ k1 cur (x ▸ hc)
    · exact hnorow b2 _ k2 cur (x ▸ hc)
  have own_b : ∀ {v : Value} {n' : Nat} {xs : List Value}, Wb.ownsRow N 67 1 v n' xs → ((Wb.setCell ⟨b1, 0, none⟩ sv').setCell ⟨b2, 0, none⟩ mv').ownsRow N 67 1 v n' xs := fun {v n' xs} ho => by
    refine ⟨ho.1, ?_⟩
    rcases ho.2 with h0 | ⟨g', cap, cur, e1, e2, e3, e4⟩
    · exact .inl h0
    · exact .inr ⟨g', cap, cur, e1, e2, (ap.block g' (Array.getElem?_eq_some_iff.1 e3).1 (hob v g' (by rw [e1]; rfl) ⟨_, _, ho⟩)).trans e3, e4⟩
  have es : seenP L (ps ++ [(n, W.heap.size)]) = seenP L ps ++ [some (L.o n)] := by unfold seenP; rw [List.map_append]; rfl
  have em : madeP (ps ++ [(n, W.heap.size)]) = madeP ps ++ [some W.heap.size] := by unfold madeP; rw [List.map_append]; rfl
  have hkeep : ∀ k, k < W.heap.size → (∀ cur, W.heap[k]? ≠ some (.cells cur 67 (0, 0))) → Wb.heap[k]? = W.heap[k]? := fun k hk hx => by
    rw [g.kp k (Nat.lt_of_lt_of_le hk hB1.size) (fun cur e => hx cur (by rw [← hB1.block k hk]; exact e))]
    exact hB1.block k hk
  refine ⟨⟨⟨⟨sv', mv', (k1.set 0 sv').other hnb _ _, (k2.other hnb.symm 0 sv').set 0 mv', by rw [es]; exact own_b g.os, by rw [em]; exact own_b g.om, g.ne⟩, hnb, h.g1, h.g2, fun x hx => ?_, ?_, ?_, by rw [List.length_append]; simp; omega⟩, List.prefix_append _ _, List.mem_append.2 (.inr (by simp)), ?_, fun k hk hx e1 e2 => ?_⟩, ⟨_, k1.cell 0⟩, ⟨_, k2.cell 0⟩, k1.thaw 0, k2.thaw 0, k1.lt, k2.lt⟩
  · have hcl : ∀ b c, Cl Wb b 69 c → Cl ((Wb.setCell ⟨b1, 0, none⟩ sv').setCell ⟨b2, 0, none⟩ mv') b 69 c := fun b c hc => hc.stay ap (fun e => e.elim (hc.ne k1 (by decide)) (hc.ne k2 (by decide)))
    rcases List.mem_append.1 hx with hx | hx
    · obtain ⟨a1, a2, a3⟩ := h.ob x hx
      exact ⟨a1, a2, hcl _ _ (g.box (a3.below hB1) (by decide))⟩
    · have e : x = (n, W.heap.size) := by simpa using hx
      subst e
      refine ⟨hn, hN, hcl _ _ (g.box ?_ (by decide))⟩
      rw [hW1]
      exact heap_alloc_new W _
  · rw [List.map_append]
    refine List.nodup_append.2 ⟨h.d1, by simp, fun a ha b hb e => ?_⟩
    obtain ⟨x, hx, rfl⟩ := List.mem_map.1 ha
    have : b = n := by simpa using hb
    exact hnew x hx (e.trans this)
  · rw [List.map_append]
    refine List.nodup_append.2 ⟨h.d2, by simp, fun a ha b hb e => ?_⟩
    obtain ⟨x, hx, rfl⟩ := List.mem_map.1 ha
    have hb' : b = W.heap.size := by simpa using hb
    have := (h.ob x hx).2.2.lt
    omega
  · exact ((hB1.mono hN).trans g.bl).trans (ap.below N (fun k e => e.elim (fun e => e ▸ h.g1) (fun e => e ▸ h.g2)) (Nat.le_trans hN (Nat.le_trans hB1.size g.bl.size)))
  · exact (ap.block k (Nat.lt_of_lt_of_le hk (Nat.le_trans hB1.size g.bl.size)) (fun e => e.elim e1 e2)).trans (hkeep k hk hx)
set_option maxHeartbeats 4000000 in
theorem twin_new (N B : Nat) (L : Lo) (s : Fs) (W : World) (b1 b2 : Nat) (ps : List (Nat × Nat)) (sv mv : Value) (n : Nat) (h : Tw N L s W b1 b2 ps) (hF : Ft B W L s) (hn : Lv s n) (hN : N ≤ W.heap.size) (hnew : ∀ x ∈ ps, x.1 ≠ n) (hl : ps.length ≤ 47)
    (h1 : Cl W b1 88 [sv]) (h2 : Cl W b2 88 [mv]) (h3 : W.ownsRow N 67 1 sv (seenP L ps).length (pVs (seenP L ps))) (h4 : W.ownsRow N 67 1 mv (madeP ps).length (pVs (madeP ps))) (h5 : sv.ownBlock = none ∨ sv.ownBlock ≠ mv.ownBlock)
    (cI : Calls Try.prog 52 #[sv, .pointer (some ⟨L.o n, 0, none⟩)] W fun r w' => r = .returned (.int .i64 (-1)) ∧ w' = W) :
    Calls Try.prog 53 #[.pointer (some ⟨L.o n, 0, none⟩), .pointer (some ⟨b1, 0, none⟩), .pointer (some ⟨b2, 0, none⟩)] W fun r w' => r = .returned (.pointer (some ⟨W.heap.size, 0, none⟩)) ∧ TwS N L s W w' b1 b2 ps (ps ++ [(n, W.heap.size)]) n W.heap.size := by
  have hls : (seenP L ps).length = ps.length := by unfold seenP; simp
  have hlm : (madeP ps).length = ps.length := by unfold madeP; simp
  obtain ⟨a1, cap1, hsv⟩ := slice_of h3
  obtain ⟨a2, cap2, hmv⟩ := slice_of h4
  rw [hls] at hsv
  rw [hlm] at hmv
  obtain ⟨d0, d1, d2, d3, df, dl⟩ := hF.b.obj hn
  have q1 : W.cell? ⟨b1, 0, none⟩ = some sv := h1.cell 0
  have q2 : W.cell? ⟨b2, 0, none⟩ = some mv := h2.cell 0
  have hb1 := h1.lt
  have hb2 := h2.lt
  have HF : Hid3 (∀ W1 Wb sv' mv', W1 = W.alloc (.cells (obC s n).toArray 69) → Gd N W1 Wb sv' mv' (seenP L ps ++ [some (L.o n)]) (madeP ps ++ [some W.heap.size]) → TwS N L s W ((Wb.setCell ⟨b1, 0, none⟩ sv').setCell ⟨b2, 0, none⟩ mv') b1 b2 ps (ps ++ [(n, W.heap.size)]) n W.heap.size ∧ (∃ u, Wb.cell? ⟨b1, 0, none⟩ = some u) ∧ (∃ u, Wb.cell? ⟨b2, 0, none⟩ = some u) ∧ Wb.frozen? ⟨b1, 0, none⟩ = false ∧ Wb.frozen? ⟨b2, 0, none⟩ = false ∧ b1 < Wb.heap.size ∧ b2 < Wb.heap.size) := ⟨fun W1 Wb sv' mv' e g => twin_fin h hF hn hN hnew hl e h1 h2 g⟩
  have HG0 : Hid3 (Gd N (W.alloc (.cells (obC s n).toArray 69)) (W.alloc (.cells (obC s n).toArray 69)) sv mv (seenP L ps) (madeP ps)) := ⟨Tw.gd (L := L) (ps := ps) (by rw [World.size_alloc]; omega) (h3.alloc _) (h4.alloc _) h5⟩
  have HB0 : Hid3 (∀ W1, W1 = W.alloc (.cells (obC s n).toArray 69) → W1.cell? ⟨b1, 0, none⟩ = some sv ∧ W1.cell? ⟨b2, 0, none⟩ = some mv ∧ b1 < W1.heap.size ∧ b2 < W1.heap.size ∧ N ≤ W1.heap.size ∧ ∀ Wb sv' mv' ss ms, Gd N W1 Wb sv' mv' ss ms → Wb.cell? ⟨b1, 0, none⟩ = some sv ∧ Wb.cell? ⟨b2, 0, none⟩ = some mv) := ⟨fun W1 e => by
    have hB1 : Below W.heap.size W W1 := by rw [e]; exact below_new W _
    have k1 := h1.below hB1
    have k2 := h2.below hB1
    exact ⟨k1.cell 0, k2.cell 0, k1.lt, k2.lt, Nat.le_trans hN hB1.size, fun Wb sv' mv' ss ms g => ⟨(g.box k1 (by decide)).cell 0, (g.box k2 (by decide)).cell 0⟩⟩⟩
  have hSl : (seenP L ps).length ≤ 1000 := by omega
  have hMl : (madeP ps).length ≤ 1000 := by omega
  have hMz : ((ps.length : Nat) : Int) < 48 := by omega
  unfold obC at *
  subst hsv hmv
  generalize hSS : seenP L ps = SS at *
  generalize hMM : madeP ps = MM at *
  generalize getO s n = o at *
  generalize cntN s.fd n = cc at *
  generalize hon : L.o n = on at *
  have HLm : Hid3 (MM.length = ps.length) := ⟨hlm⟩
  have hnb := h.nb
  have hnb' := hnb.symm
  clear h hF hn hN hnew h1 h2 h3 h4 h5 df hSS hMM hon hls hlm
  generalize hM : ps.length = M at *
  have HPS := Hid3.mk hM
  clear hM
  go_enter Try.func53, Try.ntmps53
  go_wp2_with fail
  refine cI.mono ?_
  rintro r V ⟨rfl, hV⟩
  rw [hV]
  clear cI hV
  go_wp2_with fail
  clear q1 q2 d0 d1 d2 d3
  generalize hW1 : W.alloc (.cells #[.int .u8 o.k, .int .i64 o.r, .int .i64 o.p, .int .i64 cc] 69) = W1 at *
  obtain ⟨q1, q2, l1, l2, hN1, hbox⟩ := HB0.out W1 rfl
  have HBX := Hid3.mk hbox
  have HFF : Hid3 (∀ Wb sv' mv', Gd N W1 Wb sv' mv' (SS ++ [some on]) (MM ++ [some W.heap.size]) → TwS N L s W ((Wb.setCell ⟨b1, 0, none⟩ sv').setCell ⟨b2, 0, none⟩ mv') b1 b2 ps (ps ++ [(n, W.heap.size)]) n W.heap.size ∧ (∃ u, Wb.cell? ⟨b1, 0, none⟩ = some u) ∧ (∃ u, Wb.cell? ⟨b2, 0, none⟩ = some u) ∧ Wb.frozen? ⟨b1, 0, none⟩ = false ∧ Wb.frozen? ⟨b2, 0, none⟩ = false ∧ b1 < Wb.heap.size ∧ b2 < Wb.heap.size) := ⟨fun Wb sv' mv' g => HF.out W1 Wb sv' mv' rfl g⟩
  clear HB0 HF hbox hW1 dl hb1 hb2
  generalize hT : W.heap.size = T at *
  have HTt := Hid3.mk hT
  clear hT
  have GA : Hid3 (Gd N W1 (W1.alloc (.cells #[.pointer (some ⟨on, 0, none⟩)] 67)).drew (.slice a1 M cap1) (.slice a2 M cap2) SS MM) := ⟨HG0.out.low hN1 ((Below.refl _ W1).alloc (Nat.le_refl _) _).drew⟩
  have ZA : Hid3 (N ≤ (W1.alloc (.cells #[.pointer (some ⟨on, 0, none⟩)] 67)).drew.heap.size) := ⟨by show N ≤ (W1.alloc _).heap.size; rw [World.size_alloc]; omega⟩
  have GC : Hid3 (Gd N W1 (W1.alloc (.cells #[.pointer (some ⟨T, 0, none⟩)] 67)).drew (.slice a1 M cap1) (.slice a2 M cap2) SS MM) := ⟨HG0.out.low hN1 ((Below.refl _ W1).alloc (Nat.le_refl _) _).drew⟩
  have ZC : Hid3 (N ≤ (W1.alloc (.cells #[.pointer (some ⟨T, 0, none⟩)] 67)).drew.heap.size) := ⟨by show N ≤ (W1.alloc _).heap.size; rw [World.size_alloc]; omega⟩
  have GAC : Hid3 (Gd N W1 ((W1.alloc (.cells #[.pointer (some ⟨on, 0, none⟩)] 67)).alloc (.cells #[.pointer (some ⟨T, 0, none⟩)] 67)).drew (.slice a1 M cap1) (.slice a2 M cap2) SS MM) := ⟨HG0.out.low hN1 (((Below.refl _ W1).alloc (Nat.le_refl _) _).alloc (by simp) _).drew⟩
  have ZAC : Hid3 (N ≤ ((W1.alloc (.cells #[.pointer (some ⟨on, 0, none⟩)] 67)).alloc (.cells #[.pointer (some ⟨T, 0, none⟩)] 67)).drew.heap.size) := ⟨by show N ≤ ((W1.alloc _).alloc _).heap.size; rw [World.size_alloc, World.size_alloc]; omega⟩
  have GCA : Hid3 (Gd N W1 ((W1.alloc (.cells #[.pointer (some ⟨T, 0, none⟩)] 67)).alloc (.cells #[.pointer (some ⟨on, 0, none⟩)] 67)).drew (.slice a1 M cap1) (.slice a2 M cap2) SS MM) := ⟨HG0.out.low hN1 (((Below.refl _ W1).alloc (Nat.le_refl _) _).alloc (by simp) _).drew⟩
  have ZCA : Hid3 (N ≤ ((W1.alloc (.cells #[.pointer (some ⟨T, 0, none⟩)] 67)).alloc (.cells #[.pointer (some ⟨on, 0, none⟩)] 67)).drew.heap.size) := ⟨by show N ≤ ((W1.alloc _).alloc _).heap.size; rw [World.size_alloc, World.size_alloc]; omega⟩
  have PA : Hid3 (PtL (W1.alloc (.cells #[.pointer (some ⟨on, 0, none⟩)] 67)).drew (.slice (some ⟨W1.heap.size, 0, none⟩) 1 1) [some on]) := ⟨(ptl_one W1 (some on)).below (Below.refl _ _).drew⟩
  have PC : Hid3 (PtL (W1.alloc (.cells #[.pointer (some ⟨T, 0, none⟩)] 67)).drew (.slice (some ⟨W1.heap.size, 0, none⟩) 1 1) [some T]) := ⟨(ptl_one W1 (some T)).below (Below.refl _ _).drew⟩
  have PACa : Hid3 (PtL ((W1.alloc (.cells #[.pointer (some ⟨on, 0, none⟩)] 67)).alloc (.cells #[.pointer (some ⟨T, 0, none⟩)] 67)).drew (.slice (some ⟨W1.heap.size, 0, none⟩) 1 1) [some on]) := ⟨(ptl_one W1 (some on)).below ((Below.refl _ _).alloc (Nat.le_refl _) _).drew⟩
  have PCAc : Hid3 (PtL ((W1.alloc (.cells #[.pointer (some ⟨T, 0, none⟩)] 67)).alloc (.cells #[.pointer (some ⟨on, 0, none⟩)] 67)).drew (.slice (some ⟨W1.heap.size, 0, none⟩) 1 1) [some T]) := ⟨(ptl_one W1 (some T)).below ((Below.refl _ _).alloc (Nat.le_refl _) _).drew⟩
  have PACc : Hid3 (PtL ((W1.alloc (.cells #[.pointer (some ⟨on, 0, none⟩)] 67)).alloc (.cells #[.pointer (some ⟨T, 0, none⟩)] 67)).drew (.slice (some ⟨W1.heap.size + 1, 0, none⟩) 1 1) [some T]) := ⟨by
    have := ptl_one (W1.alloc (.cells #[.pointer (some ⟨on, 0, none⟩)] 67)) (some T)
    rw [World.size_alloc] at this
    exact this.below (Below.refl _ _).drew⟩
  have PCAa : Hid3 (PtL ((W1.alloc (.cells #[.pointer (some ⟨T, 0, none⟩)] 67)).alloc (.cells #[.pointer (some ⟨on, 0, none⟩)] 67)).drew (.slice (some ⟨W1.heap.size + 1, 0, none⟩) 1 1) [some on]) := ⟨by
    have := ptl_one (W1.alloc (.cells #[.pointer (some ⟨T, 0, none⟩)] 67)) (some on)
    rw [World.size_alloc] at this
    exact this.below (Below.refl _ _).drew⟩
  have hO : Hid3 (∀ g, Value.ownBlock (.slice a1 M cap1) = some g ∨ Value.ownBlock (.slice a2 M cap2) = some g → g < W1.heap.size) := ⟨fun g hg => hg.elim (fun e => (own_lt HG0.out.os e).2.1) (fun e => (own_lt HG0.out.om e).2.1)⟩
  go_cut [] (fun wx => ∃ W', W' = wx ∧ Hid3 (TwS N L s W W' b1 b2 ps (ps ++ [(n, T)]) n T))
  case first =>
   go_region_law ((first
    | (refine step_appP (.tmp 22) undef (by rfl) (by rfl) (.tmp 17) (.tmp 19) (by rfl) N (.slice a1 M cap1) SS (.slice (some ⟨W1.heap.size, 0, none⟩) 1 1) (some on) (by rfl) (by rfl) (by exact GA.out.os) (by exact PA.out) (by exact hSl) (by exact ZA.out) ?_; intro va Wa owna growa ata; have HAs := Hid3.mk (GA.out.app1 ZA.out owna growa ata); obtain ⟨z1, z2⟩ := HBX.out _ _ _ _ _ HAs.out; have hNa : N ≤ Wa.heap.size := Nat.le_trans hN1 HAs.out.bl.size; have la1 : b1 < Wa.heap.size := Nat.lt_of_lt_of_le l1 HAs.out.bl.size; have la2 : b2 < Wa.heap.size := Nat.lt_of_lt_of_le l2 HAs.out.bl.size; obtain ⟨aa, capa, ea⟩ := slice_of owna; have ea2 : va = .slice aa (SS.length + 1) capa := by { rw [ea]; simp }; clear ea owna growa ata; subst ea2)
    | (refine step_appP (.tmp 22) (.slice (some ⟨W1.heap.size + 1, 0, none⟩) 1 1) (by rfl) (by rfl) (.tmp 17) (.tmp 19) (by rfl) N (.slice a1 M cap1) SS (.slice (some ⟨W1.heap.size, 0, none⟩) 1 1) (some on) (by rfl) (by rfl) (by exact GAC.out.os) (by exact PACa.out) (by exact hSl) (by exact ZAC.out) ?_; intro va Wa owna growa ata; have HAs := Hid3.mk (GAC.out.app1 ZAC.out owna growa ata); obtain ⟨z1, z2⟩ := HBX.out _ _ _ _ _ HAs.out; have hNa : N ≤ Wa.heap.size := Nat.le_trans hN1 HAs.out.bl.size; have la1 : b1 < Wa.heap.size := Nat.lt_of_lt_of_le l1 HAs.out.bl.size; have la2 : b2 < Wa.heap.size := Nat.lt_of_lt_of_le l2 HAs.out.bl.size; have HMs : Hid3 (PtL Wa (.slice (some ⟨W1.heap.size + 1, 0, none⟩) 1 1) [some T]) := ⟨PACc.out.far (fun e => by have := hO.out _ (.inl e); omega) growa⟩; obtain ⟨aa, capa, ea⟩ := slice_of owna; have ea2 : va = .slice aa (SS.length + 1) capa := by { rw [ea]; simp }; clear ea owna growa ata; subst ea2)
    | (refine step_appP (.tmp 22) (.slice (some ⟨W1.heap.size, 0, none⟩) 1 1) (by rfl) (by rfl) (.tmp 17) (.tmp 19) (by rfl) N (.slice a1 M cap1) SS (.slice (some ⟨W1.heap.size + 1, 0, none⟩) 1 1) (some on) (by rfl) (by rfl) (by exact GCA.out.os) (by exact PCAa.out) (by exact hSl) (by exact ZCA.out) ?_; intro va Wa owna growa ata; have HAs := Hid3.mk (GCA.out.app1 ZCA.out owna growa ata); obtain ⟨z1, z2⟩ := HBX.out _ _ _ _ _ HAs.out; have hNa : N ≤ Wa.heap.size := Nat.le_trans hN1 HAs.out.bl.size; have la1 : b1 < Wa.heap.size := Nat.lt_of_lt_of_le l1 HAs.out.bl.size; have la2 : b2 < Wa.heap.size := Nat.lt_of_lt_of_le l2 HAs.out.bl.size; have HMs : Hid3 (PtL Wa (.slice (some ⟨W1.heap.size, 0, none⟩) 1 1) [some T]) := ⟨PCAc.out.far (fun e => by have := hO.out _ (.inl e); omega) growa⟩; obtain ⟨aa, capa, ea⟩ := slice_of owna; have ea2 : va = .slice aa (SS.length + 1) capa := by { rw [ea]; simp }; clear ea owna growa ata; subst ea2)
    | (refine step_appP (.tmp 19) undef (by rfl) (by rfl) (.tmp 21) (.tmp 22) (by rfl) N (.slice a2 M cap2) MM (.slice (some ⟨W1.heap.size, 0, none⟩) 1 1) (some T) (by rfl) (by rfl) (by exact GC.out.om) (by exact PC.out) (by exact hMl) (by exact ZC.out) ?_; intro va Wa owna growa ata; have HAm := Hid3.mk (GC.out.app2 ZC.out owna growa ata); obtain ⟨z1, z2⟩ := HBX.out _ _ _ _ _ HAm.out; have hNa : N ≤ Wa.heap.size := Nat.le_trans hN1 HAm.out.bl.size; have la1 : b1 < Wa.heap.size := Nat.lt_of_lt_of_le l1 HAm.out.bl.size; have la2 : b2 < Wa.heap.size := Nat.lt_of_lt_of_le l2 HAm.out.bl.size; obtain ⟨aa, capa, ea⟩ := slice_of owna; have ea2 : va = .slice aa (MM.length + 1) capa := by { rw [ea]; simp }; clear ea owna growa ata; subst ea2)
    | (refine step_appP (.tmp 19) (.slice (some ⟨W1.heap.size, 0, none⟩) 1 1) (by rfl) (by rfl) (.tmp 21) (.tmp 22) (by rfl) N (.slice a2 M cap2) MM (.slice (some ⟨W1.heap.size + 1, 0, none⟩) 1 1) (some T) (by rfl) (by rfl) (by exact GAC.out.om) (by exact PACc.out) (by exact hMl) (by exact ZAC.out) ?_; intro va Wa owna growa ata; have HAm := Hid3.mk (GAC.out.app2 ZAC.out owna growa ata); obtain ⟨z1, z2⟩ := HBX.out _ _ _ _ _ HAm.out; have hNa : N ≤ Wa.heap.size := Nat.le_trans hN1 HAm.out.bl.size; have la1 : b1 < Wa.heap.size := Nat.lt_of_lt_of_le l1 HAm.out.bl.size; have la2 : b2 < Wa.heap.size := Nat.lt_of_lt_of_le l2 HAm.out.bl.size; have HMm : Hid3 (PtL Wa (.slice (some ⟨W1.heap.size, 0, none⟩) 1 1) [some on]) := ⟨PACa.out.far (fun e => by have := hO.out _ (.inr e); omega) growa⟩; obtain ⟨aa, capa, ea⟩ := slice_of owna; have ea2 : va = .slice aa (MM.length + 1) capa := by { rw [ea]; simp }; clear ea owna growa ata; subst ea2)
    | (refine step_appP (.tmp 19) (.slice (some ⟨W1.heap.size + 1, 0, none⟩) 1 1) (by rfl) (by rfl) (.tmp 21) (.tmp 22) (by rfl) N (.slice a2 M cap2) MM (.slice (some ⟨W1.heap.size, 0, none⟩) 1 1) (some T) (by rfl) (by rfl) (by exact GCA.out.om) (by exact PCAc.out) (by exact hMl) (by exact ZCA.out) ?_; intro va Wa owna growa ata; have HAm := Hid3.mk (GCA.out.app2 ZCA.out owna growa ata); obtain ⟨z1, z2⟩ := HBX.out _ _ _ _ _ HAm.out; have hNa : N ≤ Wa.heap.size := Nat.le_trans hN1 HAm.out.bl.size; have la1 : b1 < Wa.heap.size := Nat.lt_of_lt_of_le l1 HAm.out.bl.size; have la2 : b2 < Wa.heap.size := Nat.lt_of_lt_of_le l2 HAm.out.bl.size; have HMm : Hid3 (PtL Wa (.slice (some ⟨W1.heap.size + 1, 0, none⟩) 1 1) [some on]) := ⟨PCAa.out.far (fun e => by have := hO.out _ (.inr e); omega) growa⟩; obtain ⟨aa, capa, ea⟩ := slice_of owna; have ea2 : va = .slice aa (MM.length + 1) capa := by { rw [ea]; simp }; clear ea owna growa ata; subst ea2)
    | (refine step_appP (.tmp 0) (.pointer (some ⟨on, 0, none⟩)) (by rfl) (by rfl) (.tmp 21) (.tmp 22) (by rfl) N (.slice a2 M cap2) MM _ (some T) (by rfl) (by rfl) (by exact HAs.out.om) (by exact HMs.out) (by exact hMl) (by exact hNa) ?_; intro vb Wb ownb growb atb; have HB := Hid3.mk (HAs.out.app2 hNa ownb growb atb); have HQ := Hid3.mk (HFF.out _ _ _ HB.out); obtain ⟨u1, c5⟩ := HQ.out.2.1; obtain ⟨u2, c6⟩ := HQ.out.2.2.1; have f5 := HQ.out.2.2.2.1; have f6 := HQ.out.2.2.2.2.1; have m5 := HQ.out.2.2.2.2.2.1; have m6 := HQ.out.2.2.2.2.2.2; obtain ⟨ab, capb, eb⟩ := slice_of ownb; have eb2 : vb = .slice ab (MM.length + 1) capb := by { rw [eb]; simp }; clear eb ownb growb atb; subst eb2)
    | (refine step_appP (.tmp 0) (.pointer (some ⟨on, 0, none⟩)) (by rfl) (by rfl) (.tmp 21) (.tmp 22) (by rfl) N (.slice a2 M cap2) MM (.slice (some ⟨Wa.heap.size, 0, none⟩) 1 1) (some T) (by rfl) (by rfl) (by exact HAs.out.om.alloc _) (by exact ptl_one Wa _) (by exact hMl) (by rw [World.size_alloc]; omega) ?_; intro vb Wb ownb growb atb; have HB := Hid3.mk ((HAs.out.low hNa (below_new Wa _)).app2 (by rw [World.size_alloc]; omega) ownb growb atb); have HQ := Hid3.mk (HFF.out _ _ _ HB.out); obtain ⟨u1, c5⟩ := HQ.out.2.1; obtain ⟨u2, c6⟩ := HQ.out.2.2.1; have f5 := HQ.out.2.2.2.1; have f6 := HQ.out.2.2.2.2.1; have m5 := HQ.out.2.2.2.2.2.1; have m6 := HQ.out.2.2.2.2.2.2; obtain ⟨ab, capb, eb⟩ := slice_of ownb; have eb2 : vb = .slice ab (MM.length + 1) capb := by { rw [eb]; simp }; clear eb ownb growb atb; subst eb2)
    | (refine step_appP (.tmp 0) (.pointer (some ⟨on, 0, none⟩)) (by rfl) (by rfl) (.tmp 17) (.tmp 19) (by rfl) N (.slice a1 M cap1) SS _ (some on) (by rfl) (by rfl) (by exact HAm.out.os) (by exact HMm.out) (by exact hSl) (by exact hNa) ?_; intro vb Wb ownb growb atb; have HB := Hid3.mk (HAm.out.app1 hNa ownb growb atb); have HQ := Hid3.mk (HFF.out _ _ _ HB.out); obtain ⟨u1, c5⟩ := HQ.out.2.1; obtain ⟨u2, c6⟩ := HQ.out.2.2.1; have f5 := HQ.out.2.2.2.1; have f6 := HQ.out.2.2.2.2.1; have m5 := HQ.out.2.2.2.2.2.1; have m6 := HQ.out.2.2.2.2.2.2; obtain ⟨ab, capb, eb⟩ := slice_of ownb; have eb2 : vb = .slice ab (SS.length + 1) capb := by { rw [eb]; simp }; clear eb ownb growb atb; subst eb2)
    | (refine step_appP (.tmp 0) (.pointer (some ⟨on, 0, none⟩)) (by rfl) (by rfl) (.tmp 17) (.tmp 19) (by rfl) N (.slice a1 M cap1) SS (.slice (some ⟨Wa.heap.size, 0, none⟩) 1 1) (some on) (by rfl) (by rfl) (by exact HAm.out.os.alloc _) (by exact ptl_one Wa _) (by exact hSl) (by rw [World.size_alloc]; omega) ?_; intro vb Wb ownb growb atb; have HB := Hid3.mk ((HAm.out.low hNa (below_new Wa _)).app1 (by rw [World.size_alloc]; omega) ownb growb atb); have HQ := Hid3.mk (HFF.out _ _ _ HB.out); obtain ⟨u1, c5⟩ := HQ.out.2.1; obtain ⟨u2, c6⟩ := HQ.out.2.2.1; have f5 := HQ.out.2.2.2.1; have f6 := HQ.out.2.2.2.2.1; have m5 := HQ.out.2.2.2.2.2.1; have m6 := HQ.out.2.2.2.2.2.2; obtain ⟨ab, capb, eb⟩ := slice_of ownb; have eb2 : vb = .slice ab (SS.length + 1) capb := by { rw [eb]; simp }; clear eb ownb growb atb; subst eb2)))
   all_goals
     go_wp2_with fail
     go_meet
     case rel => exact ⟨_, rfl, ⟨HQ.out.1⟩⟩
  case rest =>
    obtain ⟨W2, rfl, HQ⟩ := hcut
    clear GA GC GAC GCA ZA ZC ZAC ZCA PA PC PACa PACc PCAa PCAc hO HG0 HFF HBX q1 q2
    obtain ⟨sv2, mv2, k1, k2, k3, k4, _⟩ := HQ.out.tw.rows
    have hp : (madeP (ps ++ [(n, T)]))[M]? = some (some T) := by
      have e : (ps ++ [(n, T)])[M]? = some (n, T) := by rw [← HPS.out]; simp
      unfold madeP
      rw [List.getElem?_map, e]
      rfl
    have hml2 : (madeP (ps ++ [(n, T)])).length = M + 1 := by unfold madeP; rw [List.length_map, List.length_append, HPS.out]; rfl
    obtain ⟨g, cap, hmv2, _, hg, c9⟩ := own_cell k4 M (pO (some T)) (by unfold pVs; rw [List.getElem?_map, hp]; rfl)
    rw [hml2] at hmv2
    subst hmv2
    have c8 : W2.cell? ⟨b2, 0, none⟩ = some (.slice (some ⟨g, 0, none⟩) (M + 1) cap) := k2.cell 0
    have l8 := k2.lt
    have hMM2 : (M : Int) < ((M + 1 : Nat) : Int) := by omega
    have hMM3 : (M : Int) < (M : Int) + 1 := by omega
    simp only [pO] at c9
    clear k1 k2 k3 k4 hp hml2
    go_wp2
    go_ret
    exact ⟨by rw [HTt.out]; rfl, by rw [HTt.out]; exact HQ.out⟩
end Go.Proofs.Ytbkpkcndmlapfaa
