/- The instruction that a text says: the document, way by way. -/
import Derived.Test.YteoappoacapdhaaDoorIsaRefU
namespace Go.Proofs.YteoappoacapdhaaDoor
open Go.RowKit
set_option linter.unusedVariables false

set_option maxHeartbeats 8000000 in
set_option maxRecDepth 100000 in
theorem rp_n_more (s : ByteArray) (ws : List (List UInt8)) (x0  : List UInt8) (o  : Int) (w : World) (hn : 1 < ws.length) (hT : Tabs w) (hM : Mx w)
    (cS : ∀ w, Mx w → Calls Tryd.prog 45 #[.string s, .string ⟨#[32]⟩] w fun e w' => (∃ v, e = .returned v ∧ Rw w.heap.size w' v (ws.map strV3)) ∧ Below w.heap.size w w')
    (h0 : ws[0]? = some x0) (c0 : ∀ w, Calls Tryd.prog 26 #[.string ⟨x0.toArray⟩] w fun e w' => e = .returned (.tuple #[.int .u8 o, .bool true]) ∧ Below w.heap.size w w')
    (cU : ∀ w, Calls Tryd.prog 24 #[.int .u8 o] w fun e w' => e = .returned (.tuple #[.bool false, .bool false, .bool false]) ∧ w' = w) :
    Calls Tryd.prog 32 #[.string s] w fun e w' => e = .returned (decEV none) ∧ Below w.heap.size w w' := by
  go_enter Tryd.func32, Tryd.ntmps32
  go_wp2_with fail
  refine (cS _ (hM.later ((Below.refl _ w).alloc (Nat.le_refl _) _))).mono ?_
  rintro e W1 ⟨⟨v, rfl, hR⟩, hB1⟩
  rw [World.size_alloc] at hB1 hR
  have hG := (Four.new w (.int .u8 0) (.int .u8 0) (.int .u8 0) (.int .u16 0)).below hB1 (by omega)
  have b1 : Below w.heap.size w W1 := ((Below.refl _ w).alloc (Nat.le_refl _) _).trans (hB1.mono (by omega))
  have hs1 : w.heap.size < W1.heap.size := (Array.getElem?_eq_some_iff.1 hG).1
  obtain ⟨a0, cap0, rfl, hc⟩ := id hR
  obtain ⟨g, off, rfl, hg, k0⟩ := hc 0 (strV3 x0) (by rw [List.getElem?_map, h0]; rfl)
  clear hc
  rw [List.length_map] at hR ⊢
  have HR : Hid (Rw (w.heap.size + 1) W1 (.slice (some ⟨g, off, none⟩) ws.length cap0) (ws.map strV3)) := hR
  clear hR hB1 cS
  unfold strV3 at k0
  rw [Nat.add_zero] at k0
  have HN : Hid (ws.length = ws.length) := rfl
  generalize hnn : ws.length = n at HR ⊢ hn
  have p0 : (0 : Int) < (n : Int) := by omega
  have pe : (((1 : Int)) != (n : Int)) = true := by rw [bne_iff_ne]; omega
  clear hn hnn HN
  go_wp2_with fail
  refine (c0 _).mono ?_
  rintro e W2 ⟨rfl, hB2⟩
  have hR2 := HR.out.below hB2 (Nat.le_refl _)
  replace hG := hG.below hB2 (by omega)
  have b2 := b1.trans (hB2.mono b1.size)
  have hs2 := hB2.size
  have hI := Four.new W2 (.int .u8 o) (.int .u8 0) (.int .u8 0) (.int .u16 0)
  have d2 : Below W2.heap.size W2 (W2.alloc (.cells #[.int .u8 o, .int .u8 0, .int .u8 0, .int .u16 0] 26)) := (Below.refl _ W2).alloc (Nat.le_refl _) _
  have hsx : W2.heap.size < (W2.alloc (.cells #[.int .u8 o, .int .u8 0, .int .u8 0, .int .u16 0] 26)).heap.size := by simp
  clear k0 hB2 b1 c0 HR
  go_wp2_with fail
  generalize W2.alloc (.cells #[.int .u8 o, .int .u8 0, .int .u8 0, .int .u16 0] 26) = X0 at *
  refine (cU _).mono ?_
  rintro e W0 ⟨rfl, hw⟩
  rw [hw]
  clear hw W0 cU
  have hG2 := hG.below d2 (by omega)
  have bb := b2.trans (d2.mono b2.size)
  have r0 := hG2.f 0
  have s0 := hG2.c0
  have y3 := hG2.set0 (.int .u8 0)
  have r1 := y3.f 1
  have s1 := y3.c1
  have y4 := y3.set1 (.int .u8 0)
  have r2 := y4.f 2
  have s2 := y4.c2
  have y5 := y4.set2 (.int .u8 0)
  have r3 := y5.f 3
  have s3 := y5.c3
  have y6 := y5.set3 (.int .u16 0)
  have q0 := y6.c0
  have q1 := y6.c1
  have q2 := y6.c2
  have q3 := y6.c3
  go_wp2
  exact bodyPost_ret (v := insE0) (by simp [results, Tryd.results32, go_sem, insE0, q0, q1, q2, q3]) rfl ⟨rfl, Below.set4 bb (by omega) _ _ _ _⟩
set_option maxHeartbeats 8000000 in
set_option maxRecDepth 100000 in
theorem rp_am_bad1 (s : ByteArray) (ws : List (List UInt8)) (x0 x1 : List UInt8) (o v1 : Int) (w : World) (hn : 1 < ws.length) (hT : Tabs w) (hM : Mx w)
    (cS : ∀ w, Mx w → Calls Tryd.prog 45 #[.string s, .string ⟨#[32]⟩] w fun e w' => (∃ v, e = .returned v ∧ Rw w.heap.size w' v (ws.map strV3)) ∧ Below w.heap.size w w')
    (h0 : ws[0]? = some x0) (c0 : ∀ w, Calls Tryd.prog 26 #[.string ⟨x0.toArray⟩] w fun e w' => e = .returned (.tuple #[.int .u8 o, .bool true]) ∧ Below w.heap.size w w')
    (cU : ∀ w, Calls Tryd.prog 24 #[.int .u8 o] w fun e w' => e = .returned (.tuple #[.bool true, .bool false, .bool true]) ∧ w' = w)
    (h1 : ws[1]? = some x1) (c1 : ∀ w, Calls Tryd.prog 46 #[.string ⟨x1.toArray⟩] w fun e w' => e = .returned (.tuple #[.int .u8 v1, .bool false]) ∧ Below w.heap.size w w') :
    Calls Tryd.prog 32 #[.string s] w fun e w' => e = .returned (decEV none) ∧ Below w.heap.size w w' := by
  go_enter Tryd.func32, Tryd.ntmps32
  go_wp2_with fail
  refine (cS _ (hM.later ((Below.refl _ w).alloc (Nat.le_refl _) _))).mono ?_
  rintro e W1 ⟨⟨v, rfl, hR⟩, hB1⟩
  rw [World.size_alloc] at hB1 hR
  have hG := (Four.new w (.int .u8 0) (.int .u8 0) (.int .u8 0) (.int .u16 0)).below hB1 (by omega)
  have b1 : Below w.heap.size w W1 := ((Below.refl _ w).alloc (Nat.le_refl _) _).trans (hB1.mono (by omega))
  have hs1 : w.heap.size < W1.heap.size := (Array.getElem?_eq_some_iff.1 hG).1
  obtain ⟨a0, cap0, rfl, hc⟩ := id hR
  obtain ⟨g, off, rfl, hg, k0⟩ := hc 0 (strV3 x0) (by rw [List.getElem?_map, h0]; rfl)
  clear hc
  rw [List.length_map] at hR ⊢
  have HR : Hid (Rw (w.heap.size + 1) W1 (.slice (some ⟨g, off, none⟩) ws.length cap0) (ws.map strV3)) := hR
  clear hR hB1 cS
  unfold strV3 at k0
  rw [Nat.add_zero] at k0
  have HN : Hid (ws.length = ws.length) := rfl
  generalize hnn : ws.length = n at HR ⊢ hn
  have p0 : (0 : Int) < (n : Int) := by omega
  have p1 : ¬ (n : Int) ≤ 1 := by omega
  have pp1 : (1 : Int) < (n : Int) := by omega
  clear hn hnn HN
  go_wp2_with fail
  refine (c0 _).mono ?_
  rintro e W2 ⟨rfl, hB2⟩
  have hR2 := HR.out.below hB2 (Nat.le_refl _)
  replace hG := hG.below hB2 (by omega)
  have b2 := b1.trans (hB2.mono b1.size)
  have hs2 := hB2.size
  have hI := Four.new W2 (.int .u8 o) (.int .u8 0) (.int .u8 0) (.int .u16 0)
  have d2 : Below W2.heap.size W2 (W2.alloc (.cells #[.int .u8 o, .int .u8 0, .int .u8 0, .int .u16 0] 26)) := (Below.refl _ W2).alloc (Nat.le_refl _) _
  have hsx : W2.heap.size < (W2.alloc (.cells #[.int .u8 o, .int .u8 0, .int .u8 0, .int .u16 0] 26)).heap.size := by simp
  clear k0 hB2 b1 c0 HR
  go_wp2_with fail
  generalize W2.alloc (.cells #[.int .u8 o, .int .u8 0, .int .u8 0, .int .u16 0] 26) = X0 at *
  refine (cU _).mono ?_
  rintro e W0 ⟨rfl, hw⟩
  rw [hw]
  clear hw W0 cU
  have hRx1 := hR2.below d2 (Nat.le_refl _)
  obtain ⟨a1, cp1, hv1, hcl1⟩ := hRx1
  obtain ⟨g1, off1, e1, _, kk1⟩ := hcl1 1 (strV3 x1) (by rw [List.getElem?_map, h1]; rfl)
  injection hv1 with hv1a hv1b hv1c
  rw [← hv1a] at e1
  injection e1 with e1
  injection e1 with e1a e1b
  subst e1a e1b
  clear hv1a hv1b hv1c hcl1
  unfold strV3 at kk1
  go_wp2_with fail
  refine (c1 _).mono ?_
  rintro e Y1 ⟨rfl, hD1⟩
  have d3 := d2.trans (hD1.mono d2.size)
  have hJ := hI.below hD1 (by omega)
  have hsy := hD1.size
  clear kk1
  have i1 := hJ.c1
  have j1 := hJ.f 1
  replace hI := hJ.set1 (.int .u8 v1)
  replace d2 := d3.setCell (p := ⟨W2.heap.size, 1, none⟩) (Nat.le_refl _) (.int .u8 v1)
  have hsz : W2.heap.size < (Y1.setCell ⟨W2.heap.size, 1, none⟩ (.int .u8 v1)).heap.size := by simp; omega
  clear hD1 d3 hJ hsx hsy
  have hsx := hsz
  clear hsz
  have hG2 := hG.below d2 (by omega)
  have bb := b2.trans (d2.mono b2.size)
  have r0 := hG2.f 0
  have s0 := hG2.c0
  have y3 := hG2.set0 (.int .u8 0)
  have r1 := y3.f 1
  have s1 := y3.c1
  have y4 := y3.set1 (.int .u8 0)
  have r2 := y4.f 2
  have s2 := y4.c2
  have y5 := y4.set2 (.int .u8 0)
  have r3 := y5.f 3
  have s3 := y5.c3
  have y6 := y5.set3 (.int .u16 0)
  have q0 := y6.c0
  have q1 := y6.c1
  have q2 := y6.c2
  have q3 := y6.c3
  go_wp2
  exact bodyPost_ret (v := insE0) (by simp [results, Tryd.results32, go_sem, insE0, q0, q1, q2, q3]) rfl ⟨rfl, Below.set4 bb (by omega) _ _ _ _⟩
set_option maxHeartbeats 8000000 in
set_option maxRecDepth 100000 in
theorem rp_am_more (s : ByteArray) (ws : List (List UInt8)) (x0 x1 x2 : List UInt8) (o v1 v2 : Int) (w : World) (hn : 3 < ws.length) (hT : Tabs w) (hM : Mx w)
    (cS : ∀ w, Mx w → Calls Tryd.prog 45 #[.string s, .string ⟨#[32]⟩] w fun e w' => (∃ v, e = .returned v ∧ Rw w.heap.size w' v (ws.map strV3)) ∧ Below w.heap.size w w')
    (h0 : ws[0]? = some x0) (c0 : ∀ w, Calls Tryd.prog 26 #[.string ⟨x0.toArray⟩] w fun e w' => e = .returned (.tuple #[.int .u8 o, .bool true]) ∧ Below w.heap.size w w')
    (cU : ∀ w, Calls Tryd.prog 24 #[.int .u8 o] w fun e w' => e = .returned (.tuple #[.bool true, .bool false, .bool true]) ∧ w' = w)
    (h1 : ws[1]? = some x1) (c1 : ∀ w, Calls Tryd.prog 46 #[.string ⟨x1.toArray⟩] w fun e w' => e = .returned (.tuple #[.int .u8 v1, .bool true]) ∧ Below w.heap.size w w')
    (h2 : ws[2]? = some x2) (c2 : ∀ w, Tabs w → Calls Tryd.prog 47 #[.string ⟨x2.toArray⟩] w fun e w' => e = .returned (.tuple #[.int .u16 v2, .int .i64 0]) ∧ Below w.heap.size w w') :
    Calls Tryd.prog 32 #[.string s] w fun e w' => e = .returned (decEV none) ∧ Below w.heap.size w w' := by
  go_enter Tryd.func32, Tryd.ntmps32
  go_wp2_with fail
  refine (cS _ (hM.later ((Below.refl _ w).alloc (Nat.le_refl _) _))).mono ?_
  rintro e W1 ⟨⟨v, rfl, hR⟩, hB1⟩
  rw [World.size_alloc] at hB1 hR
  have hG := (Four.new w (.int .u8 0) (.int .u8 0) (.int .u8 0) (.int .u16 0)).below hB1 (by omega)
  have b1 : Below w.heap.size w W1 := ((Below.refl _ w).alloc (Nat.le_refl _) _).trans (hB1.mono (by omega))
  have hs1 : w.heap.size < W1.heap.size := (Array.getElem?_eq_some_iff.1 hG).1
  obtain ⟨a0, cap0, rfl, hc⟩ := id hR
  obtain ⟨g, off, rfl, hg, k0⟩ := hc 0 (strV3 x0) (by rw [List.getElem?_map, h0]; rfl)
  clear hc
  rw [List.length_map] at hR ⊢
  have HR : Hid (Rw (w.heap.size + 1) W1 (.slice (some ⟨g, off, none⟩) ws.length cap0) (ws.map strV3)) := hR
  clear hR hB1 cS
  unfold strV3 at k0
  rw [Nat.add_zero] at k0
  have HN : Hid (ws.length = ws.length) := rfl
  generalize hnn : ws.length = n at HR ⊢ hn
  have p0 : (0 : Int) < (n : Int) := by omega
  have p1 : ¬ (n : Int) ≤ 1 := by omega
  have pp1 : (1 : Int) < (n : Int) := by omega
  have p2 : ¬ (n : Int) ≤ 2 := by omega
  have pp2 : (2 : Int) < (n : Int) := by omega
  have pe : (((3 : Int)) != (n : Int)) = true := by rw [bne_iff_ne]; omega
  clear hn hnn HN
  go_wp2_with fail
  refine (c0 _).mono ?_
  rintro e W2 ⟨rfl, hB2⟩
  have hR2 := HR.out.below hB2 (Nat.le_refl _)
  replace hG := hG.below hB2 (by omega)
  have b2 := b1.trans (hB2.mono b1.size)
  have hs2 := hB2.size
  have hI := Four.new W2 (.int .u8 o) (.int .u8 0) (.int .u8 0) (.int .u16 0)
  have d2 : Below W2.heap.size W2 (W2.alloc (.cells #[.int .u8 o, .int .u8 0, .int .u8 0, .int .u16 0] 26)) := (Below.refl _ W2).alloc (Nat.le_refl _) _
  have hsx : W2.heap.size < (W2.alloc (.cells #[.int .u8 o, .int .u8 0, .int .u8 0, .int .u16 0] 26)).heap.size := by simp
  clear k0 hB2 b1 c0 HR
  go_wp2_with fail
  generalize W2.alloc (.cells #[.int .u8 o, .int .u8 0, .int .u8 0, .int .u16 0] 26) = X0 at *
  refine (cU _).mono ?_
  rintro e W0 ⟨rfl, hw⟩
  rw [hw]
  clear hw W0 cU
  have hRx1 := hR2.below d2 (Nat.le_refl _)
  obtain ⟨a1, cp1, hv1, hcl1⟩ := hRx1
  obtain ⟨g1, off1, e1, _, kk1⟩ := hcl1 1 (strV3 x1) (by rw [List.getElem?_map, h1]; rfl)
  injection hv1 with hv1a hv1b hv1c
  rw [← hv1a] at e1
  injection e1 with e1
  injection e1 with e1a e1b
  subst e1a e1b
  clear hv1a hv1b hv1c hcl1
  unfold strV3 at kk1
  go_wp2_with fail
  refine (c1 _).mono ?_
  rintro e Y1 ⟨rfl, hD1⟩
  have d3 := d2.trans (hD1.mono d2.size)
  have hJ := hI.below hD1 (by omega)
  have hsy := hD1.size
  clear kk1
  have i1 := hJ.c1
  have j1 := hJ.f 1
  replace hI := hJ.set1 (.int .u8 v1)
  replace d2 := d3.setCell (p := ⟨W2.heap.size, 1, none⟩) (Nat.le_refl _) (.int .u8 v1)
  have hsz : W2.heap.size < (Y1.setCell ⟨W2.heap.size, 1, none⟩ (.int .u8 v1)).heap.size := by simp; omega
  clear hD1 d3 hJ hsx hsy
  have hsx := hsz
  clear hsz
  have hRx2 := hR2.below d2 (Nat.le_refl _)
  obtain ⟨a2, cp2, hv2, hcl2⟩ := hRx2
  obtain ⟨g2, off2, e2, _, kk2⟩ := hcl2 2 (strV3 x2) (by rw [List.getElem?_map, h2]; rfl)
  injection hv2 with hv2a hv2b hv2c
  rw [← hv2a] at e2
  injection e2 with e2
  injection e2 with e2a e2b
  subst e2a e2b
  clear hv2a hv2b hv2c hcl2
  unfold strV3 at kk2
  go_wp2_with fail
  refine (c2 _ (hT.later (b2.trans (d2.mono b2.size)))).mono ?_
  rintro e Y2 ⟨rfl, hD2⟩
  have d3 := d2.trans (hD2.mono d2.size)
  have hJ := hI.below hD2 (by omega)
  have hsy := hD2.size
  clear kk2
  clear i1 j1
  have i2 := hJ.c3
  have j2 := hJ.f 3
  replace hI := hJ.set3 (.int .u16 v2)
  replace d2 := d3.setCell (p := ⟨W2.heap.size, 3, none⟩) (Nat.le_refl _) (.int .u16 v2)
  have hsz : W2.heap.size < (Y2.setCell ⟨W2.heap.size, 3, none⟩ (.int .u16 v2)).heap.size := by simp; omega
  clear hD2 d3 hJ hsx hsy
  have hsx := hsz
  clear hsz
  have hG2 := hG.below d2 (by omega)
  have bb := b2.trans (d2.mono b2.size)
  have r0 := hG2.f 0
  have s0 := hG2.c0
  have y3 := hG2.set0 (.int .u8 0)
  have r1 := y3.f 1
  have s1 := y3.c1
  have y4 := y3.set1 (.int .u8 0)
  have r2 := y4.f 2
  have s2 := y4.c2
  have y5 := y4.set2 (.int .u8 0)
  have r3 := y5.f 3
  have s3 := y5.c3
  have y6 := y5.set3 (.int .u16 0)
  have q0 := y6.c0
  have q1 := y6.c1
  have q2 := y6.c2
  have q3 := y6.c3
  go_wp2
  exact bodyPost_ret (v := insE0) (by simp [results, Tryd.results32, go_sem, insE0, q0, q1, q2, q3]) rfl ⟨rfl, Below.set4 bb (by omega) _ _ _ _⟩
set_option maxHeartbeats 8000000 in
set_option maxRecDepth 100000 in
theorem rp_ab_bad1 (s : ByteArray) (ws : List (List UInt8)) (x0 x1 : List UInt8) (o v1 : Int) (w : World) (hn : 1 < ws.length) (hT : Tabs w) (hM : Mx w)
    (cS : ∀ w, Mx w → Calls Tryd.prog 45 #[.string s, .string ⟨#[32]⟩] w fun e w' => (∃ v, e = .returned v ∧ Rw w.heap.size w' v (ws.map strV3)) ∧ Below w.heap.size w w')
    (h0 : ws[0]? = some x0) (c0 : ∀ w, Calls Tryd.prog 26 #[.string ⟨x0.toArray⟩] w fun e w' => e = .returned (.tuple #[.int .u8 o, .bool true]) ∧ Below w.heap.size w w')
    (cU : ∀ w, Calls Tryd.prog 24 #[.int .u8 o] w fun e w' => e = .returned (.tuple #[.bool true, .bool true, .bool false]) ∧ w' = w)
    (h1 : ws[1]? = some x1) (c1 : ∀ w, Calls Tryd.prog 46 #[.string ⟨x1.toArray⟩] w fun e w' => e = .returned (.tuple #[.int .u8 v1, .bool false]) ∧ Below w.heap.size w w') :
    Calls Tryd.prog 32 #[.string s] w fun e w' => e = .returned (decEV none) ∧ Below w.heap.size w w' := by
  go_enter Tryd.func32, Tryd.ntmps32
  go_wp2_with fail
  refine (cS _ (hM.later ((Below.refl _ w).alloc (Nat.le_refl _) _))).mono ?_
  rintro e W1 ⟨⟨v, rfl, hR⟩, hB1⟩
  rw [World.size_alloc] at hB1 hR
  have hG := (Four.new w (.int .u8 0) (.int .u8 0) (.int .u8 0) (.int .u16 0)).below hB1 (by omega)
  have b1 : Below w.heap.size w W1 := ((Below.refl _ w).alloc (Nat.le_refl _) _).trans (hB1.mono (by omega))
  have hs1 : w.heap.size < W1.heap.size := (Array.getElem?_eq_some_iff.1 hG).1
  obtain ⟨a0, cap0, rfl, hc⟩ := id hR
  obtain ⟨g, off, rfl, hg, k0⟩ := hc 0 (strV3 x0) (by rw [List.getElem?_map, h0]; rfl)
  clear hc
  rw [List.length_map] at hR ⊢
  have HR : Hid (Rw (w.heap.size + 1) W1 (.slice (some ⟨g, off, none⟩) ws.length cap0) (ws.map strV3)) := hR
  clear hR hB1 cS
  unfold strV3 at k0
  rw [Nat.add_zero] at k0
  have HN : Hid (ws.length = ws.length) := rfl
  generalize hnn : ws.length = n at HR ⊢ hn
  have p0 : (0 : Int) < (n : Int) := by omega
  have p1 : ¬ (n : Int) ≤ 1 := by omega
  have pp1 : (1 : Int) < (n : Int) := by omega
  clear hn hnn HN
  go_wp2_with fail
  refine (c0 _).mono ?_
  rintro e W2 ⟨rfl, hB2⟩
  have hR2 := HR.out.below hB2 (Nat.le_refl _)
  replace hG := hG.below hB2 (by omega)
  have b2 := b1.trans (hB2.mono b1.size)
  have hs2 := hB2.size
  have hI := Four.new W2 (.int .u8 o) (.int .u8 0) (.int .u8 0) (.int .u16 0)
  have d2 : Below W2.heap.size W2 (W2.alloc (.cells #[.int .u8 o, .int .u8 0, .int .u8 0, .int .u16 0] 26)) := (Below.refl _ W2).alloc (Nat.le_refl _) _
  have hsx : W2.heap.size < (W2.alloc (.cells #[.int .u8 o, .int .u8 0, .int .u8 0, .int .u16 0] 26)).heap.size := by simp
  clear k0 hB2 b1 c0 HR
  go_wp2_with fail
  generalize W2.alloc (.cells #[.int .u8 o, .int .u8 0, .int .u8 0, .int .u16 0] 26) = X0 at *
  refine (cU _).mono ?_
  rintro e W0 ⟨rfl, hw⟩
  rw [hw]
  clear hw W0 cU
  have hRx1 := hR2.below d2 (Nat.le_refl _)
  obtain ⟨a1, cp1, hv1, hcl1⟩ := hRx1
  obtain ⟨g1, off1, e1, _, kk1⟩ := hcl1 1 (strV3 x1) (by rw [List.getElem?_map, h1]; rfl)
  injection hv1 with hv1a hv1b hv1c
  rw [← hv1a] at e1
  injection e1 with e1
  injection e1 with e1a e1b
  subst e1a e1b
  clear hv1a hv1b hv1c hcl1
  unfold strV3 at kk1
  go_wp2_with fail
  refine (c1 _).mono ?_
  rintro e Y1 ⟨rfl, hD1⟩
  have d3 := d2.trans (hD1.mono d2.size)
  have hJ := hI.below hD1 (by omega)
  have hsy := hD1.size
  clear kk1
  have i1 := hJ.c1
  have j1 := hJ.f 1
  replace hI := hJ.set1 (.int .u8 v1)
  replace d2 := d3.setCell (p := ⟨W2.heap.size, 1, none⟩) (Nat.le_refl _) (.int .u8 v1)
  have hsz : W2.heap.size < (Y1.setCell ⟨W2.heap.size, 1, none⟩ (.int .u8 v1)).heap.size := by simp; omega
  clear hD1 d3 hJ hsx hsy
  have hsx := hsz
  clear hsz
  have hG2 := hG.below d2 (by omega)
  have bb := b2.trans (d2.mono b2.size)
  have r0 := hG2.f 0
  have s0 := hG2.c0
  have y3 := hG2.set0 (.int .u8 0)
  have r1 := y3.f 1
  have s1 := y3.c1
  have y4 := y3.set1 (.int .u8 0)
  have r2 := y4.f 2
  have s2 := y4.c2
  have y5 := y4.set2 (.int .u8 0)
  have r3 := y5.f 3
  have s3 := y5.c3
  have y6 := y5.set3 (.int .u16 0)
  have q0 := y6.c0
  have q1 := y6.c1
  have q2 := y6.c2
  have q3 := y6.c3
  go_wp2
  exact bodyPost_ret (v := insE0) (by simp [results, Tryd.results32, go_sem, insE0, q0, q1, q2, q3]) rfl ⟨rfl, Below.set4 bb (by omega) _ _ _ _⟩
set_option maxHeartbeats 8000000 in
set_option maxRecDepth 100000 in
theorem rp_ab_more (s : ByteArray) (ws : List (List UInt8)) (x0 x1 x2 : List UInt8) (o v1 v2 : Int) (w : World) (hn : 3 < ws.length) (hT : Tabs w) (hM : Mx w)
    (cS : ∀ w, Mx w → Calls Tryd.prog 45 #[.string s, .string ⟨#[32]⟩] w fun e w' => (∃ v, e = .returned v ∧ Rw w.heap.size w' v (ws.map strV3)) ∧ Below w.heap.size w w')
    (h0 : ws[0]? = some x0) (c0 : ∀ w, Calls Tryd.prog 26 #[.string ⟨x0.toArray⟩] w fun e w' => e = .returned (.tuple #[.int .u8 o, .bool true]) ∧ Below w.heap.size w w')
    (cU : ∀ w, Calls Tryd.prog 24 #[.int .u8 o] w fun e w' => e = .returned (.tuple #[.bool true, .bool true, .bool false]) ∧ w' = w)
    (h1 : ws[1]? = some x1) (c1 : ∀ w, Calls Tryd.prog 46 #[.string ⟨x1.toArray⟩] w fun e w' => e = .returned (.tuple #[.int .u8 v1, .bool true]) ∧ Below w.heap.size w w')
    (h2 : ws[2]? = some x2) (c2 : ∀ w, Calls Tryd.prog 46 #[.string ⟨x2.toArray⟩] w fun e w' => e = .returned (.tuple #[.int .u8 v2, .bool true]) ∧ Below w.heap.size w w') :
    Calls Tryd.prog 32 #[.string s] w fun e w' => e = .returned (decEV none) ∧ Below w.heap.size w w' := by
  go_enter Tryd.func32, Tryd.ntmps32
  go_wp2_with fail
  refine (cS _ (hM.later ((Below.refl _ w).alloc (Nat.le_refl _) _))).mono ?_
  rintro e W1 ⟨⟨v, rfl, hR⟩, hB1⟩
  rw [World.size_alloc] at hB1 hR
  have hG := (Four.new w (.int .u8 0) (.int .u8 0) (.int .u8 0) (.int .u16 0)).below hB1 (by omega)
  have b1 : Below w.heap.size w W1 := ((Below.refl _ w).alloc (Nat.le_refl _) _).trans (hB1.mono (by omega))
  have hs1 : w.heap.size < W1.heap.size := (Array.getElem?_eq_some_iff.1 hG).1
  obtain ⟨a0, cap0, rfl, hc⟩ := id hR
  obtain ⟨g, off, rfl, hg, k0⟩ := hc 0 (strV3 x0) (by rw [List.getElem?_map, h0]; rfl)
  clear hc
  rw [List.length_map] at hR ⊢
  have HR : Hid (Rw (w.heap.size + 1) W1 (.slice (some ⟨g, off, none⟩) ws.length cap0) (ws.map strV3)) := hR
  clear hR hB1 cS
  unfold strV3 at k0
  rw [Nat.add_zero] at k0
  have HN : Hid (ws.length = ws.length) := rfl
  generalize hnn : ws.length = n at HR ⊢ hn
  have p0 : (0 : Int) < (n : Int) := by omega
  have p1 : ¬ (n : Int) ≤ 1 := by omega
  have pp1 : (1 : Int) < (n : Int) := by omega
  have p2 : ¬ (n : Int) ≤ 2 := by omega
  have pp2 : (2 : Int) < (n : Int) := by omega
  have pe : (((3 : Int)) != (n : Int)) = true := by rw [bne_iff_ne]; omega
  clear hn hnn HN
  go_wp2_with fail
  refine (c0 _).mono ?_
  rintro e W2 ⟨rfl, hB2⟩
  have hR2 := HR.out.below hB2 (Nat.le_refl _)
  replace hG := hG.below hB2 (by omega)
  have b2 := b1.trans (hB2.mono b1.size)
  have hs2 := hB2.size
  have hI := Four.new W2 (.int .u8 o) (.int .u8 0) (.int .u8 0) (.int .u16 0)
  have d2 : Below W2.heap.size W2 (W2.alloc (.cells #[.int .u8 o, .int .u8 0, .int .u8 0, .int .u16 0] 26)) := (Below.refl _ W2).alloc (Nat.le_refl _) _
  have hsx : W2.heap.size < (W2.alloc (.cells #[.int .u8 o, .int .u8 0, .int .u8 0, .int .u16 0] 26)).heap.size := by simp
  clear k0 hB2 b1 c0 HR
  go_wp2_with fail
  generalize W2.alloc (.cells #[.int .u8 o, .int .u8 0, .int .u8 0, .int .u16 0] 26) = X0 at *
  refine (cU _).mono ?_
  rintro e W0 ⟨rfl, hw⟩
  rw [hw]
  clear hw W0 cU
  have hRx1 := hR2.below d2 (Nat.le_refl _)
  obtain ⟨a1, cp1, hv1, hcl1⟩ := hRx1
  obtain ⟨g1, off1, e1, _, kk1⟩ := hcl1 1 (strV3 x1) (by rw [List.getElem?_map, h1]; rfl)
  injection hv1 with hv1a hv1b hv1c
  rw [← hv1a] at e1
  injection e1 with e1
  injection e1 with e1a e1b
  subst e1a e1b
  clear hv1a hv1b hv1c hcl1
  unfold strV3 at kk1
  go_wp2_with fail
  refine (c1 _).mono ?_
  rintro e Y1 ⟨rfl, hD1⟩
  have d3 := d2.trans (hD1.mono d2.size)
  have hJ := hI.below hD1 (by omega)
  have hsy := hD1.size
  clear kk1
  have i1 := hJ.c1
  have j1 := hJ.f 1
  replace hI := hJ.set1 (.int .u8 v1)
  replace d2 := d3.setCell (p := ⟨W2.heap.size, 1, none⟩) (Nat.le_refl _) (.int .u8 v1)
  have hsz : W2.heap.size < (Y1.setCell ⟨W2.heap.size, 1, none⟩ (.int .u8 v1)).heap.size := by simp; omega
  clear hD1 d3 hJ hsx hsy
  have hsx := hsz
  clear hsz
  have hRx2 := hR2.below d2 (Nat.le_refl _)
  obtain ⟨a2, cp2, hv2, hcl2⟩ := hRx2
  obtain ⟨g2, off2, e2, _, kk2⟩ := hcl2 2 (strV3 x2) (by rw [List.getElem?_map, h2]; rfl)
  injection hv2 with hv2a hv2b hv2c
  rw [← hv2a] at e2
  injection e2 with e2
  injection e2 with e2a e2b
  subst e2a e2b
  clear hv2a hv2b hv2c hcl2
  unfold strV3 at kk2
  go_wp2_with fail
  refine (c2 _).mono ?_
  rintro e Y2 ⟨rfl, hD2⟩
  have d3 := d2.trans (hD2.mono d2.size)
  have hJ := hI.below hD2 (by omega)
  have hsy := hD2.size
  clear kk2
  clear i1 j1
  have i2 := hJ.c2
  have j2 := hJ.f 2
  replace hI := hJ.set2 (.int .u8 v2)
  replace d2 := d3.setCell (p := ⟨W2.heap.size, 2, none⟩) (Nat.le_refl _) (.int .u8 v2)
  have hsz : W2.heap.size < (Y2.setCell ⟨W2.heap.size, 2, none⟩ (.int .u8 v2)).heap.size := by simp; omega
  clear hD2 d3 hJ hsx hsy
  have hsx := hsz
  clear hsz
  have hG2 := hG.below d2 (by omega)
  have bb := b2.trans (d2.mono b2.size)
  have r0 := hG2.f 0
  have s0 := hG2.c0
  have y3 := hG2.set0 (.int .u8 0)
  have r1 := y3.f 1
  have s1 := y3.c1
  have y4 := y3.set1 (.int .u8 0)
  have r2 := y4.f 2
  have s2 := y4.c2
  have y5 := y4.set2 (.int .u8 0)
  have r3 := y5.f 3
  have s3 := y5.c3
  have y6 := y5.set3 (.int .u16 0)
  have q0 := y6.c0
  have q1 := y6.c1
  have q2 := y6.c2
  have q3 := y6.c3
  go_wp2
  exact bodyPost_ret (v := insE0) (by simp [results, Tryd.results32, go_sem, insE0, q0, q1, q2, q3]) rfl ⟨rfl, Below.set4 bb (by omega) _ _ _ _⟩
set_option maxHeartbeats 8000000 in
set_option maxRecDepth 100000 in
theorem rp_abm_bad1 (s : ByteArray) (ws : List (List UInt8)) (x0 x1 : List UInt8) (o v1 : Int) (w : World) (hn : 1 < ws.length) (hT : Tabs w) (hM : Mx w)
    (cS : ∀ w, Mx w → Calls Tryd.prog 45 #[.string s, .string ⟨#[32]⟩] w fun e w' => (∃ v, e = .returned v ∧ Rw w.heap.size w' v (ws.map strV3)) ∧ Below w.heap.size w w')
    (h0 : ws[0]? = some x0) (c0 : ∀ w, Calls Tryd.prog 26 #[.string ⟨x0.toArray⟩] w fun e w' => e = .returned (.tuple #[.int .u8 o, .bool true]) ∧ Below w.heap.size w w')
    (cU : ∀ w, Calls Tryd.prog 24 #[.int .u8 o] w fun e w' => e = .returned (.tuple #[.bool true, .bool true, .bool true]) ∧ w' = w)
    (h1 : ws[1]? = some x1) (c1 : ∀ w, Calls Tryd.prog 46 #[.string ⟨x1.toArray⟩] w fun e w' => e = .returned (.tuple #[.int .u8 v1, .bool false]) ∧ Below w.heap.size w w') :
    Calls Tryd.prog 32 #[.string s] w fun e w' => e = .returned (decEV none) ∧ Below w.heap.size w w' := by
  go_enter Tryd.func32, Tryd.ntmps32
  go_wp2_with fail
  refine (cS _ (hM.later ((Below.refl _ w).alloc (Nat.le_refl _) _))).mono ?_
  rintro e W1 ⟨⟨v, rfl, hR⟩, hB1⟩
  rw [World.size_alloc] at hB1 hR
  have hG := (Four.new w (.int .u8 0) (.int .u8 0) (.int .u8 0) (.int .u16 0)).below hB1 (by omega)
  have b1 : Below w.heap.size w W1 := ((Below.refl _ w).alloc (Nat.le_refl _) _).trans (hB1.mono (by omega))
  have hs1 : w.heap.size < W1.heap.size := (Array.getElem?_eq_some_iff.1 hG).1
  obtain ⟨a0, cap0, rfl, hc⟩ := id hR
  obtain ⟨g, off, rfl, hg, k0⟩ := hc 0 (strV3 x0) (by rw [List.getElem?_map, h0]; rfl)
  clear hc
  rw [List.length_map] at hR ⊢
  have HR : Hid (Rw (w.heap.size + 1) W1 (.slice (some ⟨g, off, none⟩) ws.length cap0) (ws.map strV3)) := hR
  clear hR hB1 cS
  unfold strV3 at k0
  rw [Nat.add_zero] at k0
  have HN : Hid (ws.length = ws.length) := rfl
  generalize hnn : ws.length = n at HR ⊢ hn
  have p0 : (0 : Int) < (n : Int) := by omega
  have p1 : ¬ (n : Int) ≤ 1 := by omega
  have pp1 : (1 : Int) < (n : Int) := by omega
  clear hn hnn HN
  go_wp2_with fail
  refine (c0 _).mono ?_
  rintro e W2 ⟨rfl, hB2⟩
  have hR2 := HR.out.below hB2 (Nat.le_refl _)
  replace hG := hG.below hB2 (by omega)
  have b2 := b1.trans (hB2.mono b1.size)
  have hs2 := hB2.size
  have hI := Four.new W2 (.int .u8 o) (.int .u8 0) (.int .u8 0) (.int .u16 0)
  have d2 : Below W2.heap.size W2 (W2.alloc (.cells #[.int .u8 o, .int .u8 0, .int .u8 0, .int .u16 0] 26)) := (Below.refl _ W2).alloc (Nat.le_refl _) _
  have hsx : W2.heap.size < (W2.alloc (.cells #[.int .u8 o, .int .u8 0, .int .u8 0, .int .u16 0] 26)).heap.size := by simp
  clear k0 hB2 b1 c0 HR
  go_wp2_with fail
  generalize W2.alloc (.cells #[.int .u8 o, .int .u8 0, .int .u8 0, .int .u16 0] 26) = X0 at *
  refine (cU _).mono ?_
  rintro e W0 ⟨rfl, hw⟩
  rw [hw]
  clear hw W0 cU
  have hRx1 := hR2.below d2 (Nat.le_refl _)
  obtain ⟨a1, cp1, hv1, hcl1⟩ := hRx1
  obtain ⟨g1, off1, e1, _, kk1⟩ := hcl1 1 (strV3 x1) (by rw [List.getElem?_map, h1]; rfl)
  injection hv1 with hv1a hv1b hv1c
  rw [← hv1a] at e1
  injection e1 with e1
  injection e1 with e1a e1b
  subst e1a e1b
  clear hv1a hv1b hv1c hcl1
  unfold strV3 at kk1
  go_wp2_with fail
  refine (c1 _).mono ?_
  rintro e Y1 ⟨rfl, hD1⟩
  have d3 := d2.trans (hD1.mono d2.size)
  have hJ := hI.below hD1 (by omega)
  have hsy := hD1.size
  clear kk1
  have i1 := hJ.c1
  have j1 := hJ.f 1
  replace hI := hJ.set1 (.int .u8 v1)
  replace d2 := d3.setCell (p := ⟨W2.heap.size, 1, none⟩) (Nat.le_refl _) (.int .u8 v1)
  have hsz : W2.heap.size < (Y1.setCell ⟨W2.heap.size, 1, none⟩ (.int .u8 v1)).heap.size := by simp; omega
  clear hD1 d3 hJ hsx hsy
  have hsx := hsz
  clear hsz
  have hG2 := hG.below d2 (by omega)
  have bb := b2.trans (d2.mono b2.size)
  have r0 := hG2.f 0
  have s0 := hG2.c0
  have y3 := hG2.set0 (.int .u8 0)
  have r1 := y3.f 1
  have s1 := y3.c1
  have y4 := y3.set1 (.int .u8 0)
  have r2 := y4.f 2
  have s2 := y4.c2
  have y5 := y4.set2 (.int .u8 0)
  have r3 := y5.f 3
  have s3 := y5.c3
  have y6 := y5.set3 (.int .u16 0)
  have q0 := y6.c0
  have q1 := y6.c1
  have q2 := y6.c2
  have q3 := y6.c3
  go_wp2
  exact bodyPost_ret (v := insE0) (by simp [results, Tryd.results32, go_sem, insE0, q0, q1, q2, q3]) rfl ⟨rfl, Below.set4 bb (by omega) _ _ _ _⟩
set_option maxHeartbeats 8000000 in
set_option maxRecDepth 100000 in
theorem rp_abm_short3 (s : ByteArray) (ws : List (List UInt8)) (x0 x1 x2 : List UInt8) (o v1 v2 : Int) (w : World) (hn : ws.length = 3) (hT : Tabs w) (hM : Mx w)
    (cS : ∀ w, Mx w → Calls Tryd.prog 45 #[.string s, .string ⟨#[32]⟩] w fun e w' => (∃ v, e = .returned v ∧ Rw w.heap.size w' v (ws.map strV3)) ∧ Below w.heap.size w w')
    (h0 : ws[0]? = some x0) (c0 : ∀ w, Calls Tryd.prog 26 #[.string ⟨x0.toArray⟩] w fun e w' => e = .returned (.tuple #[.int .u8 o, .bool true]) ∧ Below w.heap.size w w')
    (cU : ∀ w, Calls Tryd.prog 24 #[.int .u8 o] w fun e w' => e = .returned (.tuple #[.bool true, .bool true, .bool true]) ∧ w' = w)
    (h1 : ws[1]? = some x1) (c1 : ∀ w, Calls Tryd.prog 46 #[.string ⟨x1.toArray⟩] w fun e w' => e = .returned (.tuple #[.int .u8 v1, .bool true]) ∧ Below w.heap.size w w')
    (h2 : ws[2]? = some x2) (c2 : ∀ w, Calls Tryd.prog 46 #[.string ⟨x2.toArray⟩] w fun e w' => e = .returned (.tuple #[.int .u8 v2, .bool true]) ∧ Below w.heap.size w w') :
    Calls Tryd.prog 32 #[.string s] w fun e w' => e = .returned (decEV none) ∧ Below w.heap.size w w' := by
  go_enter Tryd.func32, Tryd.ntmps32
  go_wp2_with fail
  refine (cS _ (hM.later ((Below.refl _ w).alloc (Nat.le_refl _) _))).mono ?_
  rintro e W1 ⟨⟨v, rfl, hR⟩, hB1⟩
  rw [World.size_alloc] at hB1 hR
  have hG := (Four.new w (.int .u8 0) (.int .u8 0) (.int .u8 0) (.int .u16 0)).below hB1 (by omega)
  have b1 : Below w.heap.size w W1 := ((Below.refl _ w).alloc (Nat.le_refl _) _).trans (hB1.mono (by omega))
  have hs1 : w.heap.size < W1.heap.size := (Array.getElem?_eq_some_iff.1 hG).1
  obtain ⟨a0, cap0, rfl, hc⟩ := id hR
  obtain ⟨g, off, rfl, hg, k0⟩ := hc 0 (strV3 x0) (by rw [List.getElem?_map, h0]; rfl)
  clear hc
  rw [List.length_map] at hR ⊢
  have HR : Hid (Rw (w.heap.size + 1) W1 (.slice (some ⟨g, off, none⟩) ws.length cap0) (ws.map strV3)) := hR
  clear hR hB1 cS
  unfold strV3 at k0
  rw [Nat.add_zero] at k0
  rw [hn] at HR ⊢
  go_wp2_with fail
  refine (c0 _).mono ?_
  rintro e W2 ⟨rfl, hB2⟩
  have hR2 := HR.out.below hB2 (Nat.le_refl _)
  replace hG := hG.below hB2 (by omega)
  have b2 := b1.trans (hB2.mono b1.size)
  have hs2 := hB2.size
  have hI := Four.new W2 (.int .u8 o) (.int .u8 0) (.int .u8 0) (.int .u16 0)
  have d2 : Below W2.heap.size W2 (W2.alloc (.cells #[.int .u8 o, .int .u8 0, .int .u8 0, .int .u16 0] 26)) := (Below.refl _ W2).alloc (Nat.le_refl _) _
  have hsx : W2.heap.size < (W2.alloc (.cells #[.int .u8 o, .int .u8 0, .int .u8 0, .int .u16 0] 26)).heap.size := by simp
  clear k0 hB2 b1 c0 HR
  go_wp2_with fail
  generalize W2.alloc (.cells #[.int .u8 o, .int .u8 0, .int .u8 0, .int .u16 0] 26) = X0 at *
  refine (cU _).mono ?_
  rintro e W0 ⟨rfl, hw⟩
  rw [hw]
  clear hw W0 cU
  have hRx1 := hR2.below d2 (Nat.le_refl _)
  obtain ⟨a1, cp1, hv1, hcl1⟩ := hRx1
  obtain ⟨g1, off1, e1, _, kk1⟩ := hcl1 1 (strV3 x1) (by rw [List.getElem?_map, h1]; rfl)
  injection hv1 with hv1a hv1b hv1c
  rw [← hv1a] at e1
  injection e1 with e1
  injection e1 with e1a e1b
  subst e1a e1b
  clear hv1a hv1b hv1c hcl1
  unfold strV3 at kk1
  go_wp2_with fail
  refine (c1 _).mono ?_
  rintro e Y1 ⟨rfl, hD1⟩
  have d3 := d2.trans (hD1.mono d2.size)
  have hJ := hI.below hD1 (by omega)
  have hsy := hD1.size
  clear kk1
  have i1 := hJ.c1
  have j1 := hJ.f 1
  replace hI := hJ.set1 (.int .u8 v1)
  replace d2 := d3.setCell (p := ⟨W2.heap.size, 1, none⟩) (Nat.le_refl _) (.int .u8 v1)
  have hsz : W2.heap.size < (Y1.setCell ⟨W2.heap.size, 1, none⟩ (.int .u8 v1)).heap.size := by simp; omega
  clear hD1 d3 hJ hsx hsy
  have hsx := hsz
  clear hsz
  have hRx2 := hR2.below d2 (Nat.le_refl _)
  obtain ⟨a2, cp2, hv2, hcl2⟩ := hRx2
  obtain ⟨g2, off2, e2, _, kk2⟩ := hcl2 2 (strV3 x2) (by rw [List.getElem?_map, h2]; rfl)
  injection hv2 with hv2a hv2b hv2c
  rw [← hv2a] at e2
  injection e2 with e2
  injection e2 with e2a e2b
  subst e2a e2b
  clear hv2a hv2b hv2c hcl2
  unfold strV3 at kk2
  go_wp2_with fail
  refine (c2 _).mono ?_
  rintro e Y2 ⟨rfl, hD2⟩
  have d3 := d2.trans (hD2.mono d2.size)
  have hJ := hI.below hD2 (by omega)
  have hsy := hD2.size
  clear kk2
  clear i1 j1
  have i2 := hJ.c2
  have j2 := hJ.f 2
  replace hI := hJ.set2 (.int .u8 v2)
  replace d2 := d3.setCell (p := ⟨W2.heap.size, 2, none⟩) (Nat.le_refl _) (.int .u8 v2)
  have hsz : W2.heap.size < (Y2.setCell ⟨W2.heap.size, 2, none⟩ (.int .u8 v2)).heap.size := by simp; omega
  clear hD2 d3 hJ hsx hsy
  have hsx := hsz
  clear hsz
  have hG2 := hG.below d2 (by omega)
  have bb := b2.trans (d2.mono b2.size)
  have r0 := hG2.f 0
  have s0 := hG2.c0
  have y3 := hG2.set0 (.int .u8 0)
  have r1 := y3.f 1
  have s1 := y3.c1
  have y4 := y3.set1 (.int .u8 0)
  have r2 := y4.f 2
  have s2 := y4.c2
  have y5 := y4.set2 (.int .u8 0)
  have r3 := y5.f 3
  have s3 := y5.c3
  have y6 := y5.set3 (.int .u16 0)
  have q0 := y6.c0
  have q1 := y6.c1
  have q2 := y6.c2
  have q3 := y6.c3
  go_wp2
  exact bodyPost_ret (v := insE0) (by simp [results, Tryd.results32, go_sem, insE0, q0, q1, q2, q3]) rfl ⟨rfl, Below.set4 bb (by omega) _ _ _ _⟩
set_option maxHeartbeats 8000000 in
set_option maxRecDepth 100000 in
theorem rp_abm_ok (s : ByteArray) (ws : List (List UInt8)) (x0 x1 x2 x3 : List UInt8) (o v1 v2 v3 : Int) (w : World) (hn : ws.length = 4) (hT : Tabs w) (hM : Mx w)
    (cS : ∀ w, Mx w → Calls Tryd.prog 45 #[.string s, .string ⟨#[32]⟩] w fun e w' => (∃ v, e = .returned v ∧ Rw w.heap.size w' v (ws.map strV3)) ∧ Below w.heap.size w w')
    (h0 : ws[0]? = some x0) (c0 : ∀ w, Calls Tryd.prog 26 #[.string ⟨x0.toArray⟩] w fun e w' => e = .returned (.tuple #[.int .u8 o, .bool true]) ∧ Below w.heap.size w w')
    (cU : ∀ w, Calls Tryd.prog 24 #[.int .u8 o] w fun e w' => e = .returned (.tuple #[.bool true, .bool true, .bool true]) ∧ w' = w)
    (h1 : ws[1]? = some x1) (c1 : ∀ w, Calls Tryd.prog 46 #[.string ⟨x1.toArray⟩] w fun e w' => e = .returned (.tuple #[.int .u8 v1, .bool true]) ∧ Below w.heap.size w w')
    (h2 : ws[2]? = some x2) (c2 : ∀ w, Calls Tryd.prog 46 #[.string ⟨x2.toArray⟩] w fun e w' => e = .returned (.tuple #[.int .u8 v2, .bool true]) ∧ Below w.heap.size w w')
    (h3 : ws[3]? = some x3) (c3 : ∀ w, Tabs w → Calls Tryd.prog 47 #[.string ⟨x3.toArray⟩] w fun e w' => e = .returned (.tuple #[.int .u16 v3, .int .i64 0]) ∧ Below w.heap.size w w') :
    Calls Tryd.prog 32 #[.string s] w fun e w' => e = .returned (decEV (some (o, v1, v2, v3))) ∧ Below w.heap.size w w' := by
  go_enter Tryd.func32, Tryd.ntmps32
  go_wp2_with fail
  refine (cS _ (hM.later ((Below.refl _ w).alloc (Nat.le_refl _) _))).mono ?_
  rintro e W1 ⟨⟨v, rfl, hR⟩, hB1⟩
  rw [World.size_alloc] at hB1 hR
  have hG := (Four.new w (.int .u8 0) (.int .u8 0) (.int .u8 0) (.int .u16 0)).below hB1 (by omega)
  have b1 : Below w.heap.size w W1 := ((Below.refl _ w).alloc (Nat.le_refl _) _).trans (hB1.mono (by omega))
  have hs1 : w.heap.size < W1.heap.size := (Array.getElem?_eq_some_iff.1 hG).1
  obtain ⟨a0, cap0, rfl, hc⟩ := id hR
  obtain ⟨g, off, rfl, hg, k0⟩ := hc 0 (strV3 x0) (by rw [List.getElem?_map, h0]; rfl)
  clear hc
  rw [List.length_map] at hR ⊢
  have HR : Hid (Rw (w.heap.size + 1) W1 (.slice (some ⟨g, off, none⟩) ws.length cap0) (ws.map strV3)) := hR
  clear hR hB1 cS
  unfold strV3 at k0
  rw [Nat.add_zero] at k0
  rw [hn] at HR ⊢
  go_wp2_with fail
  refine (c0 _).mono ?_
  rintro e W2 ⟨rfl, hB2⟩
  have hR2 := HR.out.below hB2 (Nat.le_refl _)
  replace hG := hG.below hB2 (by omega)
  have b2 := b1.trans (hB2.mono b1.size)
  have hs2 := hB2.size
  have hI := Four.new W2 (.int .u8 o) (.int .u8 0) (.int .u8 0) (.int .u16 0)
  have d2 : Below W2.heap.size W2 (W2.alloc (.cells #[.int .u8 o, .int .u8 0, .int .u8 0, .int .u16 0] 26)) := (Below.refl _ W2).alloc (Nat.le_refl _) _
  have hsx : W2.heap.size < (W2.alloc (.cells #[.int .u8 o, .int .u8 0, .int .u8 0, .int .u16 0] 26)).heap.size := by simp
  clear k0 hB2 b1 c0 HR
  go_wp2_with fail
  generalize W2.alloc (.cells #[.int .u8 o, .int .u8 0, .int .u8 0, .int .u16 0] 26) = X0 at *
  refine (cU _).mono ?_
  rintro e W0 ⟨rfl, hw⟩
  rw [hw]
  clear hw W0 cU
  have hRx1 := hR2.below d2 (Nat.le_refl _)
  obtain ⟨a1, cp1, hv1, hcl1⟩ := hRx1
  obtain ⟨g1, off1, e1, _, kk1⟩ := hcl1 1 (strV3 x1) (by rw [List.getElem?_map, h1]; rfl)
  injection hv1 with hv1a hv1b hv1c
  rw [← hv1a] at e1
  injection e1 with e1
  injection e1 with e1a e1b
  subst e1a e1b
  clear hv1a hv1b hv1c hcl1
  unfold strV3 at kk1
  go_wp2_with fail
  refine (c1 _).mono ?_
  rintro e Y1 ⟨rfl, hD1⟩
  have d3 := d2.trans (hD1.mono d2.size)
  have hJ := hI.below hD1 (by omega)
  have hsy := hD1.size
  clear kk1
  have i1 := hJ.c1
  have j1 := hJ.f 1
  replace hI := hJ.set1 (.int .u8 v1)
  replace d2 := d3.setCell (p := ⟨W2.heap.size, 1, none⟩) (Nat.le_refl _) (.int .u8 v1)
  have hsz : W2.heap.size < (Y1.setCell ⟨W2.heap.size, 1, none⟩ (.int .u8 v1)).heap.size := by simp; omega
  clear hD1 d3 hJ hsx hsy
  have hsx := hsz
  clear hsz
  have hRx2 := hR2.below d2 (Nat.le_refl _)
  obtain ⟨a2, cp2, hv2, hcl2⟩ := hRx2
  obtain ⟨g2, off2, e2, _, kk2⟩ := hcl2 2 (strV3 x2) (by rw [List.getElem?_map, h2]; rfl)
  injection hv2 with hv2a hv2b hv2c
  rw [← hv2a] at e2
  injection e2 with e2
  injection e2 with e2a e2b
  subst e2a e2b
  clear hv2a hv2b hv2c hcl2
  unfold strV3 at kk2
  go_wp2_with fail
  refine (c2 _).mono ?_
  rintro e Y2 ⟨rfl, hD2⟩
  have d3 := d2.trans (hD2.mono d2.size)
  have hJ := hI.below hD2 (by omega)
  have hsy := hD2.size
  clear kk2
  clear i1 j1
  have i2 := hJ.c2
  have j2 := hJ.f 2
  replace hI := hJ.set2 (.int .u8 v2)
  replace d2 := d3.setCell (p := ⟨W2.heap.size, 2, none⟩) (Nat.le_refl _) (.int .u8 v2)
  have hsz : W2.heap.size < (Y2.setCell ⟨W2.heap.size, 2, none⟩ (.int .u8 v2)).heap.size := by simp; omega
  clear hD2 d3 hJ hsx hsy
  have hsx := hsz
  clear hsz
  have hRx3 := hR2.below d2 (Nat.le_refl _)
  obtain ⟨a3, cp3, hv3, hcl3⟩ := hRx3
  obtain ⟨g3, off3, e3, _, kk3⟩ := hcl3 3 (strV3 x3) (by rw [List.getElem?_map, h3]; rfl)
  injection hv3 with hv3a hv3b hv3c
  rw [← hv3a] at e3
  injection e3 with e3
  injection e3 with e3a e3b
  subst e3a e3b
  clear hv3a hv3b hv3c hcl3
  unfold strV3 at kk3
  go_wp2_with fail
  refine (c3 _ (hT.later (b2.trans (d2.mono b2.size)))).mono ?_
  rintro e Y3 ⟨rfl, hD3⟩
  have d3 := d2.trans (hD3.mono d2.size)
  have hJ := hI.below hD3 (by omega)
  have hsy := hD3.size
  clear kk3
  clear i2 j2
  have i3 := hJ.c3
  have j3 := hJ.f 3
  replace hI := hJ.set3 (.int .u16 v3)
  replace d2 := d3.setCell (p := ⟨W2.heap.size, 3, none⟩) (Nat.le_refl _) (.int .u16 v3)
  have hsz : W2.heap.size < (Y3.setCell ⟨W2.heap.size, 3, none⟩ (.int .u16 v3)).heap.size := by simp; omega
  clear hD3 d3 hJ hsx hsy
  have hsx := hsz
  clear hsz
  have hG2 := hG.below d2 (by omega)
  have bb := b2.trans (d2.mono b2.size)
  have i0 := hI.c0
  have i1 := hI.c1
  have i2 := hI.c2
  have i3 := hI.c3
  have r0 := hG2.f 0
  have s0 := hG2.c0
  have y3 := hG2.set0 (.int .u8 o)
  have r1 := y3.f 1
  have s1 := y3.c1
  have y4 := y3.set1 (.int .u8 v1)
  have r2 := y4.f 2
  have s2 := y4.c2
  have y5 := y4.set2 (.int .u8 v2)
  have r3 := y5.f 3
  have s3 := y5.c3
  have y6 := y5.set3 (.int .u16 v3)
  have q0 := y6.c0
  have q1 := y6.c1
  have q2 := y6.c2
  have q3 := y6.c3
  go_wp2
  exact bodyPost_ret (v := decEV (some (o, v1, v2, v3))) (by simp [results, Tryd.results32, go_sem, decEV, q0, q1, q2, q3]) rfl ⟨rfl, Below.set4 bb (by omega) _ _ _ _⟩
set_option maxHeartbeats 8000000 in
set_option maxRecDepth 100000 in
theorem rp_m_more (s : ByteArray) (ws : List (List UInt8)) (x0 x1 : List UInt8) (o v1 : Int) (w : World) (hn : 2 < ws.length) (hT : Tabs w) (hM : Mx w)
    (cS : ∀ w, Mx w → Calls Tryd.prog 45 #[.string s, .string ⟨#[32]⟩] w fun e w' => (∃ v, e = .returned v ∧ Rw w.heap.size w' v (ws.map strV3)) ∧ Below w.heap.size w w')
    (h0 : ws[0]? = some x0) (c0 : ∀ w, Calls Tryd.prog 26 #[.string ⟨x0.toArray⟩] w fun e w' => e = .returned (.tuple #[.int .u8 o, .bool true]) ∧ Below w.heap.size w w')
    (cU : ∀ w, Calls Tryd.prog 24 #[.int .u8 o] w fun e w' => e = .returned (.tuple #[.bool false, .bool false, .bool true]) ∧ w' = w)
    (h1 : ws[1]? = some x1) (c1 : ∀ w, Tabs w → Calls Tryd.prog 47 #[.string ⟨x1.toArray⟩] w fun e w' => e = .returned (.tuple #[.int .u16 v1, .int .i64 0]) ∧ Below w.heap.size w w') :
    Calls Tryd.prog 32 #[.string s] w fun e w' => e = .returned (decEV none) ∧ Below w.heap.size w w' := by
  go_enter Tryd.func32, Tryd.ntmps32
  go_wp2_with fail
  refine (cS _ (hM.later ((Below.refl _ w).alloc (Nat.le_refl _) _))).mono ?_
  rintro e W1 ⟨⟨v, rfl, hR⟩, hB1⟩
  rw [World.size_alloc] at hB1 hR
  have hG := (Four.new w (.int .u8 0) (.int .u8 0) (.int .u8 0) (.int .u16 0)).below hB1 (by omega)
  have b1 : Below w.heap.size w W1 := ((Below.refl _ w).alloc (Nat.le_refl _) _).trans (hB1.mono (by omega))
  have hs1 : w.heap.size < W1.heap.size := (Array.getElem?_eq_some_iff.1 hG).1
  obtain ⟨a0, cap0, rfl, hc⟩ := id hR
  obtain ⟨g, off, rfl, hg, k0⟩ := hc 0 (strV3 x0) (by rw [List.getElem?_map, h0]; rfl)
  clear hc
  rw [List.length_map] at hR ⊢
  have HR : Hid (Rw (w.heap.size + 1) W1 (.slice (some ⟨g, off, none⟩) ws.length cap0) (ws.map strV3)) := hR
  clear hR hB1 cS
  unfold strV3 at k0
  rw [Nat.add_zero] at k0
  have HN : Hid (ws.length = ws.length) := rfl
  generalize hnn : ws.length = n at HR ⊢ hn
  have p0 : (0 : Int) < (n : Int) := by omega
  have p1 : ¬ (n : Int) ≤ 1 := by omega
  have pp1 : (1 : Int) < (n : Int) := by omega
  have pe : (((2 : Int)) != (n : Int)) = true := by rw [bne_iff_ne]; omega
  clear hn hnn HN
  go_wp2_with fail
  refine (c0 _).mono ?_
  rintro e W2 ⟨rfl, hB2⟩
  have hR2 := HR.out.below hB2 (Nat.le_refl _)
  replace hG := hG.below hB2 (by omega)
  have b2 := b1.trans (hB2.mono b1.size)
  have hs2 := hB2.size
  have hI := Four.new W2 (.int .u8 o) (.int .u8 0) (.int .u8 0) (.int .u16 0)
  have d2 : Below W2.heap.size W2 (W2.alloc (.cells #[.int .u8 o, .int .u8 0, .int .u8 0, .int .u16 0] 26)) := (Below.refl _ W2).alloc (Nat.le_refl _) _
  have hsx : W2.heap.size < (W2.alloc (.cells #[.int .u8 o, .int .u8 0, .int .u8 0, .int .u16 0] 26)).heap.size := by simp
  clear k0 hB2 b1 c0 HR
  go_wp2_with fail
  generalize W2.alloc (.cells #[.int .u8 o, .int .u8 0, .int .u8 0, .int .u16 0] 26) = X0 at *
  refine (cU _).mono ?_
  rintro e W0 ⟨rfl, hw⟩
  rw [hw]
  clear hw W0 cU
  have hRx1 := hR2.below d2 (Nat.le_refl _)
  obtain ⟨a1, cp1, hv1, hcl1⟩ := hRx1
  obtain ⟨g1, off1, e1, _, kk1⟩ := hcl1 1 (strV3 x1) (by rw [List.getElem?_map, h1]; rfl)
  injection hv1 with hv1a hv1b hv1c
  rw [← hv1a] at e1
  injection e1 with e1
  injection e1 with e1a e1b
  subst e1a e1b
  clear hv1a hv1b hv1c hcl1
  unfold strV3 at kk1
  go_wp2_with fail
  refine (c1 _ (hT.later (b2.trans (d2.mono b2.size)))).mono ?_
  rintro e Y1 ⟨rfl, hD1⟩
  have d3 := d2.trans (hD1.mono d2.size)
  have hJ := hI.below hD1 (by omega)
  have hsy := hD1.size
  clear kk1
  have i1 := hJ.c3
  have j1 := hJ.f 3
  replace hI := hJ.set3 (.int .u16 v1)
  replace d2 := d3.setCell (p := ⟨W2.heap.size, 3, none⟩) (Nat.le_refl _) (.int .u16 v1)
  have hsz : W2.heap.size < (Y1.setCell ⟨W2.heap.size, 3, none⟩ (.int .u16 v1)).heap.size := by simp; omega
  clear hD1 d3 hJ hsx hsy
  have hsx := hsz
  clear hsz
  have hG2 := hG.below d2 (by omega)
  have bb := b2.trans (d2.mono b2.size)
  have r0 := hG2.f 0
  have s0 := hG2.c0
  have y3 := hG2.set0 (.int .u8 0)
  have r1 := y3.f 1
  have s1 := y3.c1
  have y4 := y3.set1 (.int .u8 0)
  have r2 := y4.f 2
  have s2 := y4.c2
  have y5 := y4.set2 (.int .u8 0)
  have r3 := y5.f 3
  have s3 := y5.c3
  have y6 := y5.set3 (.int .u16 0)
  have q0 := y6.c0
  have q1 := y6.c1
  have q2 := y6.c2
  have q3 := y6.c3
  go_wp2
  exact bodyPost_ret (v := insE0) (by simp [results, Tryd.results32, go_sem, insE0, q0, q1, q2, q3]) rfl ⟨rfl, Below.set4 bb (by omega) _ _ _ _⟩
end Go.Proofs.YteoappoacapdhaaDoor
