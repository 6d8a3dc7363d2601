/- What an instruction does: the document. -/
import Derived.Test.YtfdkkkjelalbjaaDoorCpuM
namespace Go.Proofs.YtfdkkkjelalbjaaDoor
open Go.RowKit
set_option linter.unusedVariables false
set_option maxRecDepth 100000

set_option maxHeartbeats 1500000 in
theorem rexec_3 (pc : Int) (r : Nat → Int) (a b m : Int) (w : World) (hp : Wd pc) (hr : ∀ k, Wd (r k)) (hO : InsOk 3 a b m) (hR : insR 3 a b m = true) (ha2 : a < 8) (hb2 : b < 8) :
    Calls Tryd.prog 13 #[rgV pc r, insV 3 a b m] w fun e w' => e = .returned (execV (execP pc r 3 a b m)) ∧ Below w.heap.size w w' := by
  have ha := hO.2.2.1
  have hb := hO.2.2.2.2.1
  have hm : Wd m := ⟨hO.2.2.2.2.2.2.1, hO.2.2.2.2.2.2.2⟩
  have cR := fun w => rright_any 3 a b m w (by decide) (by decide)
  rw [hR] at cR
  have cA := fun w => radd_any pc 4 w hp.1 hp.2 (by decide) (by decide)
  have cB := fun w => radd_any (r b.toNat) m w (hr _).1 (hr _).2 hm.1 hm.2
  obtain ⟨W1, hW1, k0, k2, k3, hB1, hs1⟩ := w0_cells pc r 3 a b m w
  have k1 : Cel W1 (w.heap.size + 1) #[.int .u8 3, .int .u8 a, .int .u8 b, .int .u16 m] 41 := by
    rw [hW1]
    have h := ((Cel.new (w.alloc (.cells #[.int .u16 pc, .int .u16 (r 0), .int .u16 (r 1), .int .u16 (r 2), .int .u16 (r 3), .int .u16 (r 4), .int .u16 (r 5), .int .u16 (r 6), .int .u16 (r 7)] 26)) #[.int .u8 3, .int .u8 a, .int .u8 b, .int .u16 m] 41).alloc (.cells #[.int .u16 0, .int .u16 0, .int .u16 0, .int .u16 0, .int .u16 0, .int .u16 0, .int .u16 0, .int .u16 0, .int .u16 0] 26)).alloc (.cells #[.int .u8 0, .int .u16 0, .int .u16 0, .int .u8 0, .int .i64 0] 31)
    rw [World.size_alloc] at h
    exact h
  unfold execP
  rw [hR]
  simp only [reduceCtorEq, reduceIte, Int.reduceEq, false_and, doesP, execV]
  have cK := fun w => rreck_any 3 (r a.toNat) (r b.toNat) w (hr _) (hr _) (by decide)
  simp only [reduceIte] at cK
  have hs : #[Value.int .u16 (addV pc 4), .int .u16 (r 0), .int .u16 (r 1), .int .u16 (r 2), .int .u16 (r 3), .int .u16 (r 4), .int .u16 (r 5), .int .u16 (r 6), .int .u16 (r 7)].setIfInBounds (1 + a.toNat) (.int .u16 (r b.toNat)) = #[.int .u16 (addV pc 4), .int .u16 ((upd r a.toNat (r b.toNat)) 0), .int .u16 ((upd r a.toNat (r b.toNat)) 1), .int .u16 ((upd r a.toNat (r b.toNat)) 2), .int .u16 ((upd r a.toNat (r b.toNat)) 3), .int .u16 ((upd r a.toNat (r b.toNat)) 4), .int .u16 ((upd r a.toNat (r b.toNat)) 5), .int .u16 ((upd r a.toNat (r b.toNat)) 6), .int .u16 ((upd r a.toNat (r b.toNat)) 7)] := by
    have h := rg_set (addV pc 4) r (r b.toNat) a.toNat (by omega)
    rw [← Array.toList_inj]
    simpa using h
  generalize hr' : upd r a.toNat (r b.toNat) = r' at *
  unfold rgV insV
  go_enter Tryd.func13, Tryd.ntmps13
  go_wp2_with fail
  rw [← hW1]
  clear hW1
  refine (cR _).mono ?_
  rintro e W2 ⟨rfl, hB2⟩
  have j0 := k0.below hB2 (by omega)
  have j1 := k1.below hB2 (by omega)
  have j2 := k2.below hB2 (by omega)
  have j3 := k3.below hB2 (by omega)
  have hb3 := hB1.trans (hB2.mono (by omega))
  have hs2 := hB2.size
  have l0 : w.heap.size < W2.heap.size := by omega
  have l1 : w.heap.size + 1 < W2.heap.size := by omega
  have l2 : w.heap.size + 1 + 1 < W2.heap.size := by omega
  have l3 : w.heap.size + 1 + 1 + 1 < W2.heap.size := by omega
  clear k0 k1 k2 k3 hB2 hB1 cR
  have i0 : W2.cell? ⟨w.heap.size + 1, 0, none⟩ = some (.int .u8 3) := j1.c 0
  have i1 : W2.cell? ⟨w.heap.size + 1, 1, none⟩ = some (.int .u8 a) := j1.c 1
  have i2 : W2.cell? ⟨w.heap.size + 1, 2, none⟩ = some (.int .u8 b) := j1.c 2
  have i3 : W2.cell? ⟨w.heap.size + 1, 3, none⟩ = some (.int .u16 m) := j1.c 3
  have ga : W2.cell? ⟨w.heap.size, 1 + a.toNat, none⟩ = some (.int .u16 (r a.toNat)) := (j0.c _).trans (rg_at pc r a.toNat (by omega))
  have gb : W2.cell? ⟨w.heap.size, 1 + b.toNat, none⟩ = some (.int .u16 (r b.toNat)) := (j0.c _).trans (rg_at pc r b.toNat (by omega))
  go_wp2_with fail
  refine still_all (by kernel_rfl) (by kernel_rfl) ?_
  still_step
  still_step
  still_step
  still_step
  still_step
  still_step
  still_step
  still_step
  still_step
  still_step
  still_step
  still_step
  refine wpStill_nil ?_
  clear i0 i1 i2 i3 ga gb
  have hb4 := Below.drew hb3
  replace l0 : w.heap.size < W2.drew.heap.size := l0
  replace l1 : w.heap.size + 1 < W2.drew.heap.size := l1
  replace l2 : w.heap.size + 1 + 1 < W2.drew.heap.size := l2
  replace l3 : w.heap.size + 1 + 1 + 1 < W2.drew.heap.size := l3
  replace j0 := j0.drew
  replace j1 := j1.drew
  replace j2 := j2.drew
  replace j3 := j3.drew
  clear hb3 hs2
  generalize W2.drew = W3 at *
  have p0 : W3.cell? ⟨w.heap.size, 0, none⟩ = some (.int .u16 pc) := j0.c 0
  have p1 : W3.cell? ⟨w.heap.size, 1, none⟩ = some (.int .u16 (r 0)) := j0.c 1
  have p2 : W3.cell? ⟨w.heap.size, 2, none⟩ = some (.int .u16 (r 1)) := j0.c 2
  have p3 : W3.cell? ⟨w.heap.size, 3, none⟩ = some (.int .u16 (r 2)) := j0.c 3
  have p4 : W3.cell? ⟨w.heap.size, 4, none⟩ = some (.int .u16 (r 3)) := j0.c 4
  have p5 : W3.cell? ⟨w.heap.size, 5, none⟩ = some (.int .u16 (r 4)) := j0.c 5
  have p6 : W3.cell? ⟨w.heap.size, 6, none⟩ = some (.int .u16 (r 5)) := j0.c 6
  have p7 : W3.cell? ⟨w.heap.size, 7, none⟩ = some (.int .u16 (r 6)) := j0.c 7
  have p8 : W3.cell? ⟨w.heap.size, 8, none⟩ = some (.int .u16 (r 7)) := j0.c 8
  go_wp2_with fail
  clear p0 p1 p2 p3 p4 p5 p6 p7 p8
  have hb5 := nx hb4 (.cells #[.int .u16 pc, .int .u16 (r 0), .int .u16 (r 1), .int .u16 (r 2), .int .u16 (r 3), .int .u16 (r 4), .int .u16 (r 5), .int .u16 (r 6), .int .u16 (r 7)] 26)
  replace j0 := j0.alloc (.cells #[.int .u16 pc, .int .u16 (r 0), .int .u16 (r 1), .int .u16 (r 2), .int .u16 (r 3), .int .u16 (r 4), .int .u16 (r 5), .int .u16 (r 6), .int .u16 (r 7)] 26)
  replace j1 := j1.alloc (.cells #[.int .u16 pc, .int .u16 (r 0), .int .u16 (r 1), .int .u16 (r 2), .int .u16 (r 3), .int .u16 (r 4), .int .u16 (r 5), .int .u16 (r 6), .int .u16 (r 7)] 26)
  replace j2 := j2.alloc (.cells #[.int .u16 pc, .int .u16 (r 0), .int .u16 (r 1), .int .u16 (r 2), .int .u16 (r 3), .int .u16 (r 4), .int .u16 (r 5), .int .u16 (r 6), .int .u16 (r 7)] 26)
  replace j3 := j3.alloc (.cells #[.int .u16 pc, .int .u16 (r 0), .int .u16 (r 1), .int .u16 (r 2), .int .u16 (r 3), .int .u16 (r 4), .int .u16 (r 5), .int .u16 (r 6), .int .u16 (r 7)] 26)
  have j5 := Cel.new W3 #[.int .u16 pc, .int .u16 (r 0), .int .u16 (r 1), .int .u16 (r 2), .int .u16 (r 3), .int .u16 (r 4), .int .u16 (r 5), .int .u16 (r 6), .int .u16 (r 7)] 26
  clear hb4 l0 l1 l2
  generalize (W3.alloc (.cells #[.int .u16 pc, .int .u16 (r 0), .int .u16 (r 1), .int .u16 (r 2), .int .u16 (r 3), .int .u16 (r 4), .int .u16 (r 5), .int .u16 (r 6), .int .u16 (r 7)] 26)) = W5 at *
  generalize W3.heap.size = B5 at *
  refine (cA _).mono ?_
  rintro e W4 ⟨rfl, h4⟩
  rw [h4]
  clear h4
  have i0 : W5.cell? ⟨w.heap.size + 1, 0, none⟩ = some (.int .u8 3) := j1.c 0
  have i1 : W5.cell? ⟨w.heap.size + 1, 1, none⟩ = some (.int .u8 a) := j1.c 1
  have i2 : W5.cell? ⟨w.heap.size + 1, 2, none⟩ = some (.int .u8 b) := j1.c 2
  have i3 : W5.cell? ⟨w.heap.size + 1, 3, none⟩ = some (.int .u16 m) := j1.c 3
  have v0 : W5.cell? ⟨B5, 0, none⟩ = some (.int .u16 pc) := j5.c 0
  have f5 := j5.f
  have ne1 : ¬ w.heap.size + 1 = B5 := by omega
  go_wp2_with fail
  clear i0 i1 i2 i3 v0 f5
  have hb6 := bsx hb5 (show w.heap.size ≤ B5 by omega) 0 (.int .u16 (addV pc 4))
  replace j0 := j0.other (c := B5) (by omega) 0 (.int .u16 (addV pc 4))
  replace j1 := j1.other (c := B5) (by omega) 0 (.int .u16 (addV pc 4))
  replace j2 := j2.other (c := B5) (by omega) 0 (.int .u16 (addV pc 4))
  replace j3 := j3.other (c := B5) (by omega) 0 (.int .u16 (addV pc 4))
  replace j5 : Cel _ B5 #[.int .u16 (addV pc 4), .int .u16 (r 0), .int .u16 (r 1), .int .u16 (r 2), .int .u16 (r 3), .int .u16 (r 4), .int .u16 (r 5), .int .u16 (r 6), .int .u16 (r 7)] 26 := j5.set 0 (.int .u16 (addV pc 4))
  clear hb5
  generalize W5.setCell ⟨B5, 0, none⟩ (.int .u16 (addV pc 4)) = W6 at *
  refine (cB _).mono ?_
  rintro e W4 ⟨rfl, h4⟩
  rw [h4]
  clear h4
  have p0 : W6.cell? ⟨w.heap.size, 0, none⟩ = some (.int .u16 pc) := j0.c 0
  have p1 : W6.cell? ⟨w.heap.size, 1, none⟩ = some (.int .u16 (r 0)) := j0.c 1
  have p2 : W6.cell? ⟨w.heap.size, 2, none⟩ = some (.int .u16 (r 1)) := j0.c 2
  have p3 : W6.cell? ⟨w.heap.size, 3, none⟩ = some (.int .u16 (r 2)) := j0.c 3
  have p4 : W6.cell? ⟨w.heap.size, 4, none⟩ = some (.int .u16 (r 3)) := j0.c 4
  have p5 : W6.cell? ⟨w.heap.size, 5, none⟩ = some (.int .u16 (r 4)) := j0.c 5
  have p6 : W6.cell? ⟨w.heap.size, 6, none⟩ = some (.int .u16 (r 5)) := j0.c 6
  have p7 : W6.cell? ⟨w.heap.size, 7, none⟩ = some (.int .u16 (r 6)) := j0.c 7
  have p8 : W6.cell? ⟨w.heap.size, 8, none⟩ = some (.int .u16 (r 7)) := j0.c 8
  have i0 : W6.cell? ⟨w.heap.size + 1, 0, none⟩ = some (.int .u8 3) := j1.c 0
  have i1 : W6.cell? ⟨w.heap.size + 1, 1, none⟩ = some (.int .u8 a) := j1.c 1
  have i2 : W6.cell? ⟨w.heap.size + 1, 2, none⟩ = some (.int .u8 b) := j1.c 2
  have i3 : W6.cell? ⟨w.heap.size + 1, 3, none⟩ = some (.int .u16 m) := j1.c 3
  have q0 : W6.cell? ⟨w.heap.size + 1 + 1, 0, none⟩ = some (.int .u16 0) := j2.c 0
  have q1 : W6.cell? ⟨w.heap.size + 1 + 1, 1, none⟩ = some (.int .u16 0) := j2.c 1
  have q2 : W6.cell? ⟨w.heap.size + 1 + 1, 2, none⟩ = some (.int .u16 0) := j2.c 2
  have q3 : W6.cell? ⟨w.heap.size + 1 + 1, 3, none⟩ = some (.int .u16 0) := j2.c 3
  have q4 : W6.cell? ⟨w.heap.size + 1 + 1, 4, none⟩ = some (.int .u16 0) := j2.c 4
  have q5 : W6.cell? ⟨w.heap.size + 1 + 1, 5, none⟩ = some (.int .u16 0) := j2.c 5
  have q6 : W6.cell? ⟨w.heap.size + 1 + 1, 6, none⟩ = some (.int .u16 0) := j2.c 6
  have q7 : W6.cell? ⟨w.heap.size + 1 + 1, 7, none⟩ = some (.int .u16 0) := j2.c 7
  have q8 : W6.cell? ⟨w.heap.size + 1 + 1, 8, none⟩ = some (.int .u16 0) := j2.c 8
  have u0 : W6.cell? ⟨w.heap.size + 1 + 1 + 1, 0, none⟩ = some (.int .u8 0) := j3.c 0
  have u1 : W6.cell? ⟨w.heap.size + 1 + 1 + 1, 1, none⟩ = some (.int .u16 0) := j3.c 1
  have u2 : W6.cell? ⟨w.heap.size + 1 + 1 + 1, 2, none⟩ = some (.int .u16 0) := j3.c 2
  have u3 : W6.cell? ⟨w.heap.size + 1 + 1 + 1, 3, none⟩ = some (.int .u8 0) := j3.c 3
  have u4 : W6.cell? ⟨w.heap.size + 1 + 1 + 1, 4, none⟩ = some (.int .i64 0) := j3.c 4
  have v0 : W6.cell? ⟨B5, 0, none⟩ = some (.int .u16 (addV pc 4)) := j5.c 0
  have v1 : W6.cell? ⟨B5, 1, none⟩ = some (.int .u16 (r 0)) := j5.c 1
  have v2 : W6.cell? ⟨B5, 2, none⟩ = some (.int .u16 (r 1)) := j5.c 2
  have v3 : W6.cell? ⟨B5, 3, none⟩ = some (.int .u16 (r 2)) := j5.c 3
  have v4 : W6.cell? ⟨B5, 4, none⟩ = some (.int .u16 (r 3)) := j5.c 4
  have v5 : W6.cell? ⟨B5, 5, none⟩ = some (.int .u16 (r 4)) := j5.c 5
  have v6 : W6.cell? ⟨B5, 6, none⟩ = some (.int .u16 (r 5)) := j5.c 6
  have v7 : W6.cell? ⟨B5, 7, none⟩ = some (.int .u16 (r 6)) := j5.c 7
  have v8 : W6.cell? ⟨B5, 8, none⟩ = some (.int .u16 (r 7)) := j5.c 8
  have f2 := j2.f
  have f3 := j3.f
  have f5 := j5.f
  have e0 : ¬ w.heap.size = B5 := by omega
  have e2 : ¬ w.heap.size + 1 + 1 = B5 := by omega
  have e3 : ¬ w.heap.size + 1 + 1 + 1 = B5 := by omega
  have n5 : Cel (W6.setCell ⟨B5, 1 + a.toNat, none⟩ (.int .u16 (r b.toNat))) B5 #[.int .u16 (addV pc 4), .int .u16 (r' 0), .int .u16 (r' 1), .int .u16 (r' 2), .int .u16 (r' 3), .int .u16 (r' 4), .int .u16 (r' 5), .int .u16 (r' 6), .int .u16 (r' 7)] 26 := by
    have h := j5.set (1 + a.toNat) (.int .u16 (r b.toNat))
    rw [hs] at h
    exact h
  have va : W6.cell? ⟨B5, 1 + a.toNat, none⟩ = some (.int .u16 (r a.toNat)) := (j5.c _).trans (rg_at (addV pc 4) r a.toNat (by omega))
  have x0 : (W6.setCell ⟨B5, 1 + a.toNat, none⟩ (.int .u16 (r b.toNat))).cell? ⟨B5, 0, none⟩ = some (.int .u16 (addV pc 4)) := n5.c 0
  have x1 : (W6.setCell ⟨B5, 1 + a.toNat, none⟩ (.int .u16 (r b.toNat))).cell? ⟨B5, 1, none⟩ = some (.int .u16 (r' 0)) := n5.c 1
  have x2 : (W6.setCell ⟨B5, 1 + a.toNat, none⟩ (.int .u16 (r b.toNat))).cell? ⟨B5, 2, none⟩ = some (.int .u16 (r' 1)) := n5.c 2
  have x3 : (W6.setCell ⟨B5, 1 + a.toNat, none⟩ (.int .u16 (r b.toNat))).cell? ⟨B5, 3, none⟩ = some (.int .u16 (r' 2)) := n5.c 3
  have x4 : (W6.setCell ⟨B5, 1 + a.toNat, none⟩ (.int .u16 (r b.toNat))).cell? ⟨B5, 4, none⟩ = some (.int .u16 (r' 3)) := n5.c 4
  have x5 : (W6.setCell ⟨B5, 1 + a.toNat, none⟩ (.int .u16 (r b.toNat))).cell? ⟨B5, 5, none⟩ = some (.int .u16 (r' 4)) := n5.c 5
  have x6 : (W6.setCell ⟨B5, 1 + a.toNat, none⟩ (.int .u16 (r b.toNat))).cell? ⟨B5, 6, none⟩ = some (.int .u16 (r' 5)) := n5.c 6
  have x7 : (W6.setCell ⟨B5, 1 + a.toNat, none⟩ (.int .u16 (r b.toNat))).cell? ⟨B5, 7, none⟩ = some (.int .u16 (r' 6)) := n5.c 7
  have x8 : (W6.setCell ⟨B5, 1 + a.toNat, none⟩ (.int .u16 (r b.toNat))).cell? ⟨B5, 8, none⟩ = some (.int .u16 (r' 7)) := n5.c 8
  go_wp2_with fail
  go_region_held3 (fun w' => w'.cell? ⟨w.heap.size + 1, 1, none⟩ = some (.int .u8 a) ∧ w'.cell? ⟨w.heap.size + 1, 0, none⟩ = some (.int .u8 3)) (simp [go_sem, i0, i1]) ((go_at_call 23; refine (cK _).mono ?_; rintro e w' ⟨rfl, rfl⟩))
  clear p0 p1 p2 p3 p4 p5 p6 p7 p8 i0 i1 i2 i3 q0 q1 q2 q3 q4 q5 q6 q7 q8 u0 u1 u2 u3 u4 v0 v1 v2 v3 v4 v5 v6 v7 v8 x0 x1 x2 x3 x4 x5 x6 x7 x8 va f2 f3 f5 e0 e2 e3
  replace j0 := (j0.other (c := B5) (by omega) (1 + a.toNat) (.int .u16 (r b.toNat))).drew
  replace j1 := (j1.other (c := B5) (by omega) (1 + a.toNat) (.int .u16 (r b.toNat))).drew
  replace j2 := (j2.other (c := B5) (by omega) (1 + a.toNat) (.int .u16 (r b.toNat))).drew
  replace j3 := (j3.other (c := B5) (by omega) (1 + a.toNat) (.int .u16 (r b.toNat))).drew
  replace j5 := n5.drew
  have hb7 := Below.drew (bsx hb6 (show w.heap.size ≤ B5 by omega) (1 + a.toNat) (.int .u16 (r b.toNat)))
  clear hb6 n5
  generalize (W6.setCell ⟨B5, 1 + a.toNat, none⟩ (.int .u16 (r b.toNat))).drew = W7 at *
  have p0 : W7.cell? ⟨w.heap.size, 0, none⟩ = some (.int .u16 pc) := j0.c 0
  have p1 : W7.cell? ⟨w.heap.size, 1, none⟩ = some (.int .u16 (r 0)) := j0.c 1
  have p2 : W7.cell? ⟨w.heap.size, 2, none⟩ = some (.int .u16 (r 1)) := j0.c 2
  have p3 : W7.cell? ⟨w.heap.size, 3, none⟩ = some (.int .u16 (r 2)) := j0.c 3
  have p4 : W7.cell? ⟨w.heap.size, 4, none⟩ = some (.int .u16 (r 3)) := j0.c 4
  have p5 : W7.cell? ⟨w.heap.size, 5, none⟩ = some (.int .u16 (r 4)) := j0.c 5
  have p6 : W7.cell? ⟨w.heap.size, 6, none⟩ = some (.int .u16 (r 5)) := j0.c 6
  have p7 : W7.cell? ⟨w.heap.size, 7, none⟩ = some (.int .u16 (r 6)) := j0.c 7
  have p8 : W7.cell? ⟨w.heap.size, 8, none⟩ = some (.int .u16 (r 7)) := j0.c 8
  have i0 : W7.cell? ⟨w.heap.size + 1, 0, none⟩ = some (.int .u8 3) := j1.c 0
  have i1 : W7.cell? ⟨w.heap.size + 1, 1, none⟩ = some (.int .u8 a) := j1.c 1
  have i2 : W7.cell? ⟨w.heap.size + 1, 2, none⟩ = some (.int .u8 b) := j1.c 2
  have i3 : W7.cell? ⟨w.heap.size + 1, 3, none⟩ = some (.int .u16 m) := j1.c 3
  have q0 : W7.cell? ⟨w.heap.size + 1 + 1, 0, none⟩ = some (.int .u16 0) := j2.c 0
  have q1 : W7.cell? ⟨w.heap.size + 1 + 1, 1, none⟩ = some (.int .u16 0) := j2.c 1
  have q2 : W7.cell? ⟨w.heap.size + 1 + 1, 2, none⟩ = some (.int .u16 0) := j2.c 2
  have q3 : W7.cell? ⟨w.heap.size + 1 + 1, 3, none⟩ = some (.int .u16 0) := j2.c 3
  have q4 : W7.cell? ⟨w.heap.size + 1 + 1, 4, none⟩ = some (.int .u16 0) := j2.c 4
  have q5 : W7.cell? ⟨w.heap.size + 1 + 1, 5, none⟩ = some (.int .u16 0) := j2.c 5
  have q6 : W7.cell? ⟨w.heap.size + 1 + 1, 6, none⟩ = some (.int .u16 0) := j2.c 6
  have q7 : W7.cell? ⟨w.heap.size + 1 + 1, 7, none⟩ = some (.int .u16 0) := j2.c 7
  have q8 : W7.cell? ⟨w.heap.size + 1 + 1, 8, none⟩ = some (.int .u16 0) := j2.c 8
  have u0 : W7.cell? ⟨w.heap.size + 1 + 1 + 1, 0, none⟩ = some (.int .u8 0) := j3.c 0
  have u1 : W7.cell? ⟨w.heap.size + 1 + 1 + 1, 1, none⟩ = some (.int .u16 0) := j3.c 1
  have u2 : W7.cell? ⟨w.heap.size + 1 + 1 + 1, 2, none⟩ = some (.int .u16 0) := j3.c 2
  have u3 : W7.cell? ⟨w.heap.size + 1 + 1 + 1, 3, none⟩ = some (.int .u8 0) := j3.c 3
  have u4 : W7.cell? ⟨w.heap.size + 1 + 1 + 1, 4, none⟩ = some (.int .i64 0) := j3.c 4
  have v0 : W7.cell? ⟨B5, 0, none⟩ = some (.int .u16 (addV pc 4)) := j5.c 0
  have v1 : W7.cell? ⟨B5, 1, none⟩ = some (.int .u16 (r' 0)) := j5.c 1
  have v2 : W7.cell? ⟨B5, 2, none⟩ = some (.int .u16 (r' 1)) := j5.c 2
  have v3 : W7.cell? ⟨B5, 3, none⟩ = some (.int .u16 (r' 2)) := j5.c 3
  have v4 : W7.cell? ⟨B5, 4, none⟩ = some (.int .u16 (r' 3)) := j5.c 4
  have v5 : W7.cell? ⟨B5, 5, none⟩ = some (.int .u16 (r' 4)) := j5.c 5
  have v6 : W7.cell? ⟨B5, 6, none⟩ = some (.int .u16 (r' 5)) := j5.c 6
  have v7 : W7.cell? ⟨B5, 7, none⟩ = some (.int .u16 (r' 6)) := j5.c 7
  have v8 : W7.cell? ⟨B5, 8, none⟩ = some (.int .u16 (r' 7)) := j5.c 8
  have f2 := j2.f
  have f3 := j3.f
  have f5 := j5.f
  have e0 : ¬ w.heap.size = B5 := by omega
  have e2 : ¬ w.heap.size + 1 + 1 = B5 := by omega
  have e3 : ¬ w.heap.size + 1 + 1 + 1 = B5 := by omega
  go_wp2_with fail
  exact bodyPost_ret (v := .tuple #[rgV (addV pc 4) r', accV (0, 0, 0, 0, 0)]) (by simp [results, Tryd.results13, go_sem, accV, rgV, q0, q1, q2, q3, q4, q5, q6, q7, q8, u0, u1, u2, u3, u4]) rfl ⟨rfl, bsx (bsx (bsx (bsx (bsx (bsx (bsx (bsx (bsx (bsx (bsx (bsx (bsx (bsx (hb7) (by omega) _ _) (by omega) _ _) (by omega) _ _) (by omega) _ _) (by omega) _ _) (by omega) _ _) (by omega) _ _) (by omega) _ _) (by omega) _ _) (by omega) _ _) (by omega) _ _) (by omega) _ _) (by omega) _ _) (by omega) _ _⟩
set_option maxHeartbeats 1500000 in
theorem rexec_4 (pc : Int) (r : Nat → Int) (a b m : Int) (w : World) (hp : Wd pc) (hr : ∀ k, Wd (r k)) (hO : InsOk 4 a b m) (hR : insR 4 a b m = true) (ha2 : a < 8) (hb2 : b < 8) :
    Calls Tryd.prog 13 #[rgV pc r, insV 4 a b m] w fun e w' => e = .returned (execV (execP pc r 4 a b m)) ∧ Below w.heap.size w w' := by
  have ha := hO.2.2.1
  have hb := hO.2.2.2.2.1
  have hm : Wd m := ⟨hO.2.2.2.2.2.2.1, hO.2.2.2.2.2.2.2⟩
  have cR := fun w => rright_any 4 a b m w (by decide) (by decide)
  rw [hR] at cR
  have cA := fun w => radd_any pc 4 w hp.1 hp.2 (by decide) (by decide)
  have cB := fun w => radd_any (r b.toNat) m w (hr _).1 (hr _).2 hm.1 hm.2
  obtain ⟨W1, hW1, k0, k2, k3, hB1, hs1⟩ := w0_cells pc r 4 a b m w
  have k1 : Cel W1 (w.heap.size + 1) #[.int .u8 4, .int .u8 a, .int .u8 b, .int .u16 m] 41 := by
    rw [hW1]
    have h := ((Cel.new (w.alloc (.cells #[.int .u16 pc, .int .u16 (r 0), .int .u16 (r 1), .int .u16 (r 2), .int .u16 (r 3), .int .u16 (r 4), .int .u16 (r 5), .int .u16 (r 6), .int .u16 (r 7)] 26)) #[.int .u8 4, .int .u8 a, .int .u8 b, .int .u16 m] 41).alloc (.cells #[.int .u16 0, .int .u16 0, .int .u16 0, .int .u16 0, .int .u16 0, .int .u16 0, .int .u16 0, .int .u16 0, .int .u16 0] 26)).alloc (.cells #[.int .u8 0, .int .u16 0, .int .u16 0, .int .u8 0, .int .i64 0] 31)
    rw [World.size_alloc] at h
    exact h
  unfold execP
  rw [hR]
  simp only [reduceCtorEq, reduceIte, Int.reduceEq, false_and, doesP, execV]
  have cK := fun w => rreck_any 4 (r a.toNat) (r b.toNat) w (hr _) (hr _) (by decide)
  simp only [reduceIte, Int.reduceEq] at cK
  have hs : #[Value.int .u16 (addV pc 4), .int .u16 (r 0), .int .u16 (r 1), .int .u16 (r 2), .int .u16 (r 3), .int .u16 (r 4), .int .u16 (r 5), .int .u16 (r 6), .int .u16 (r 7)].setIfInBounds (1 + a.toNat) (.int .u16 (recV 4 (r a.toNat) (r b.toNat))) = #[.int .u16 (addV pc 4), .int .u16 ((upd r a.toNat (recV 4 (r a.toNat) (r b.toNat))) 0), .int .u16 ((upd r a.toNat (recV 4 (r a.toNat) (r b.toNat))) 1), .int .u16 ((upd r a.toNat (recV 4 (r a.toNat) (r b.toNat))) 2), .int .u16 ((upd r a.toNat (recV 4 (r a.toNat) (r b.toNat))) 3), .int .u16 ((upd r a.toNat (recV 4 (r a.toNat) (r b.toNat))) 4), .int .u16 ((upd r a.toNat (recV 4 (r a.toNat) (r b.toNat))) 5), .int .u16 ((upd r a.toNat (recV 4 (r a.toNat) (r b.toNat))) 6), .int .u16 ((upd r a.toNat (recV 4 (r a.toNat) (r b.toNat))) 7)] := by
    have h := rg_set (addV pc 4) r (recV 4 (r a.toNat) (r b.toNat)) a.toNat (by omega)
    rw [← Array.toList_inj]
    simpa using h
  generalize hr' : upd r a.toNat (recV 4 (r a.toNat) (r b.toNat)) = r' at *
  generalize recV 4 (r a.toNat) (r b.toNat) = d at *
  unfold rgV insV
  go_enter Tryd.func13, Tryd.ntmps13
  go_wp2_with fail
  rw [← hW1]
  clear hW1
  refine (cR _).mono ?_
  rintro e W2 ⟨rfl, hB2⟩
  have j0 := k0.below hB2 (by omega)
  have j1 := k1.below hB2 (by omega)
  have j2 := k2.below hB2 (by omega)
  have j3 := k3.below hB2 (by omega)
  have hb3 := hB1.trans (hB2.mono (by omega))
  have hs2 := hB2.size
  have l0 : w.heap.size < W2.heap.size := by omega
  have l1 : w.heap.size + 1 < W2.heap.size := by omega
  have l2 : w.heap.size + 1 + 1 < W2.heap.size := by omega
  have l3 : w.heap.size + 1 + 1 + 1 < W2.heap.size := by omega
  clear k0 k1 k2 k3 hB2 hB1 cR
  have i0 : W2.cell? ⟨w.heap.size + 1, 0, none⟩ = some (.int .u8 4) := j1.c 0
  have i1 : W2.cell? ⟨w.heap.size + 1, 1, none⟩ = some (.int .u8 a) := j1.c 1
  have i2 : W2.cell? ⟨w.heap.size + 1, 2, none⟩ = some (.int .u8 b) := j1.c 2
  have i3 : W2.cell? ⟨w.heap.size + 1, 3, none⟩ = some (.int .u16 m) := j1.c 3
  have ga : W2.cell? ⟨w.heap.size, 1 + a.toNat, none⟩ = some (.int .u16 (r a.toNat)) := (j0.c _).trans (rg_at pc r a.toNat (by omega))
  have gb : W2.cell? ⟨w.heap.size, 1 + b.toNat, none⟩ = some (.int .u16 (r b.toNat)) := (j0.c _).trans (rg_at pc r b.toNat (by omega))
  go_wp2_with fail
  refine still_all (by kernel_rfl) (by kernel_rfl) ?_
  still_step
  still_step
  still_step
  still_step
  still_step
  still_step
  still_step
  still_step
  still_step
  still_step
  still_step
  still_step
  refine wpStill_nil ?_
  clear i0 i1 i2 i3 ga gb
  have hb4 := Below.drew hb3
  replace l0 : w.heap.size < W2.drew.heap.size := l0
  replace l1 : w.heap.size + 1 < W2.drew.heap.size := l1
  replace l2 : w.heap.size + 1 + 1 < W2.drew.heap.size := l2
  replace l3 : w.heap.size + 1 + 1 + 1 < W2.drew.heap.size := l3
  replace j0 := j0.drew
  replace j1 := j1.drew
  replace j2 := j2.drew
  replace j3 := j3.drew
  clear hb3 hs2
  generalize W2.drew = W3 at *
  have p0 : W3.cell? ⟨w.heap.size, 0, none⟩ = some (.int .u16 pc) := j0.c 0
  have p1 : W3.cell? ⟨w.heap.size, 1, none⟩ = some (.int .u16 (r 0)) := j0.c 1
  have p2 : W3.cell? ⟨w.heap.size, 2, none⟩ = some (.int .u16 (r 1)) := j0.c 2
  have p3 : W3.cell? ⟨w.heap.size, 3, none⟩ = some (.int .u16 (r 2)) := j0.c 3
  have p4 : W3.cell? ⟨w.heap.size, 4, none⟩ = some (.int .u16 (r 3)) := j0.c 4
  have p5 : W3.cell? ⟨w.heap.size, 5, none⟩ = some (.int .u16 (r 4)) := j0.c 5
  have p6 : W3.cell? ⟨w.heap.size, 6, none⟩ = some (.int .u16 (r 5)) := j0.c 6
  have p7 : W3.cell? ⟨w.heap.size, 7, none⟩ = some (.int .u16 (r 6)) := j0.c 7
  have p8 : W3.cell? ⟨w.heap.size, 8, none⟩ = some (.int .u16 (r 7)) := j0.c 8
  go_wp2_with fail
  clear p0 p1 p2 p3 p4 p5 p6 p7 p8
  have hb5 := nx hb4 (.cells #[.int .u16 pc, .int .u16 (r 0), .int .u16 (r 1), .int .u16 (r 2), .int .u16 (r 3), .int .u16 (r 4), .int .u16 (r 5), .int .u16 (r 6), .int .u16 (r 7)] 26)
  replace j0 := j0.alloc (.cells #[.int .u16 pc, .int .u16 (r 0), .int .u16 (r 1), .int .u16 (r 2), .int .u16 (r 3), .int .u16 (r 4), .int .u16 (r 5), .int .u16 (r 6), .int .u16 (r 7)] 26)
  replace j1 := j1.alloc (.cells #[.int .u16 pc, .int .u16 (r 0), .int .u16 (r 1), .int .u16 (r 2), .int .u16 (r 3), .int .u16 (r 4), .int .u16 (r 5), .int .u16 (r 6), .int .u16 (r 7)] 26)
  replace j2 := j2.alloc (.cells #[.int .u16 pc, .int .u16 (r 0), .int .u16 (r 1), .int .u16 (r 2), .int .u16 (r 3), .int .u16 (r 4), .int .u16 (r 5), .int .u16 (r 6), .int .u16 (r 7)] 26)
  replace j3 := j3.alloc (.cells #[.int .u16 pc, .int .u16 (r 0), .int .u16 (r 1), .int .u16 (r 2), .int .u16 (r 3), .int .u16 (r 4), .int .u16 (r 5), .int .u16 (r 6), .int .u16 (r 7)] 26)
  have j5 := Cel.new W3 #[.int .u16 pc, .int .u16 (r 0), .int .u16 (r 1), .int .u16 (r 2), .int .u16 (r 3), .int .u16 (r 4), .int .u16 (r 5), .int .u16 (r 6), .int .u16 (r 7)] 26
  clear hb4 l0 l1 l2
  generalize (W3.alloc (.cells #[.int .u16 pc, .int .u16 (r 0), .int .u16 (r 1), .int .u16 (r 2), .int .u16 (r 3), .int .u16 (r 4), .int .u16 (r 5), .int .u16 (r 6), .int .u16 (r 7)] 26)) = W5 at *
  generalize W3.heap.size = B5 at *
  refine (cA _).mono ?_
  rintro e W4 ⟨rfl, h4⟩
  rw [h4]
  clear h4
  have i0 : W5.cell? ⟨w.heap.size + 1, 0, none⟩ = some (.int .u8 4) := j1.c 0
  have i1 : W5.cell? ⟨w.heap.size + 1, 1, none⟩ = some (.int .u8 a) := j1.c 1
  have i2 : W5.cell? ⟨w.heap.size + 1, 2, none⟩ = some (.int .u8 b) := j1.c 2
  have i3 : W5.cell? ⟨w.heap.size + 1, 3, none⟩ = some (.int .u16 m) := j1.c 3
  have v0 : W5.cell? ⟨B5, 0, none⟩ = some (.int .u16 pc) := j5.c 0
  have f5 := j5.f
  have ne1 : ¬ w.heap.size + 1 = B5 := by omega
  go_wp2_with fail
  clear i0 i1 i2 i3 v0 f5
  have hb6 := bsx hb5 (show w.heap.size ≤ B5 by omega) 0 (.int .u16 (addV pc 4))
  replace j0 := j0.other (c := B5) (by omega) 0 (.int .u16 (addV pc 4))
  replace j1 := j1.other (c := B5) (by omega) 0 (.int .u16 (addV pc 4))
  replace j2 := j2.other (c := B5) (by omega) 0 (.int .u16 (addV pc 4))
  replace j3 := j3.other (c := B5) (by omega) 0 (.int .u16 (addV pc 4))
  replace j5 : Cel _ B5 #[.int .u16 (addV pc 4), .int .u16 (r 0), .int .u16 (r 1), .int .u16 (r 2), .int .u16 (r 3), .int .u16 (r 4), .int .u16 (r 5), .int .u16 (r 6), .int .u16 (r 7)] 26 := j5.set 0 (.int .u16 (addV pc 4))
  clear hb5
  generalize W5.setCell ⟨B5, 0, none⟩ (.int .u16 (addV pc 4)) = W6 at *
  refine (cB _).mono ?_
  rintro e W4 ⟨rfl, h4⟩
  rw [h4]
  clear h4
  have p0 : W6.cell? ⟨w.heap.size, 0, none⟩ = some (.int .u16 pc) := j0.c 0
  have p1 : W6.cell? ⟨w.heap.size, 1, none⟩ = some (.int .u16 (r 0)) := j0.c 1
  have p2 : W6.cell? ⟨w.heap.size, 2, none⟩ = some (.int .u16 (r 1)) := j0.c 2
  have p3 : W6.cell? ⟨w.heap.size, 3, none⟩ = some (.int .u16 (r 2)) := j0.c 3
  have p4 : W6.cell? ⟨w.heap.size, 4, none⟩ = some (.int .u16 (r 3)) := j0.c 4
  have p5 : W6.cell? ⟨w.heap.size, 5, none⟩ = some (.int .u16 (r 4)) := j0.c 5
  have p6 : W6.cell? ⟨w.heap.size, 6, none⟩ = some (.int .u16 (r 5)) := j0.c 6
  have p7 : W6.cell? ⟨w.heap.size, 7, none⟩ = some (.int .u16 (r 6)) := j0.c 7
  have p8 : W6.cell? ⟨w.heap.size, 8, none⟩ = some (.int .u16 (r 7)) := j0.c 8
  have i0 : W6.cell? ⟨w.heap.size + 1, 0, none⟩ = some (.int .u8 4) := j1.c 0
  have i1 : W6.cell? ⟨w.heap.size + 1, 1, none⟩ = some (.int .u8 a) := j1.c 1
  have i2 : W6.cell? ⟨w.heap.size + 1, 2, none⟩ = some (.int .u8 b) := j1.c 2
  have i3 : W6.cell? ⟨w.heap.size + 1, 3, none⟩ = some (.int .u16 m) := j1.c 3
  have q0 : W6.cell? ⟨w.heap.size + 1 + 1, 0, none⟩ = some (.int .u16 0) := j2.c 0
  have q1 : W6.cell? ⟨w.heap.size + 1 + 1, 1, none⟩ = some (.int .u16 0) := j2.c 1
  have q2 : W6.cell? ⟨w.heap.size + 1 + 1, 2, none⟩ = some (.int .u16 0) := j2.c 2
  have q3 : W6.cell? ⟨w.heap.size + 1 + 1, 3, none⟩ = some (.int .u16 0) := j2.c 3
  have q4 : W6.cell? ⟨w.heap.size + 1 + 1, 4, none⟩ = some (.int .u16 0) := j2.c 4
  have q5 : W6.cell? ⟨w.heap.size + 1 + 1, 5, none⟩ = some (.int .u16 0) := j2.c 5
  have q6 : W6.cell? ⟨w.heap.size + 1 + 1, 6, none⟩ = some (.int .u16 0) := j2.c 6
  have q7 : W6.cell? ⟨w.heap.size + 1 + 1, 7, none⟩ = some (.int .u16 0) := j2.c 7
  have q8 : W6.cell? ⟨w.heap.size + 1 + 1, 8, none⟩ = some (.int .u16 0) := j2.c 8
  have u0 : W6.cell? ⟨w.heap.size + 1 + 1 + 1, 0, none⟩ = some (.int .u8 0) := j3.c 0
  have u1 : W6.cell? ⟨w.heap.size + 1 + 1 + 1, 1, none⟩ = some (.int .u16 0) := j3.c 1
  have u2 : W6.cell? ⟨w.heap.size + 1 + 1 + 1, 2, none⟩ = some (.int .u16 0) := j3.c 2
  have u3 : W6.cell? ⟨w.heap.size + 1 + 1 + 1, 3, none⟩ = some (.int .u8 0) := j3.c 3
  have u4 : W6.cell? ⟨w.heap.size + 1 + 1 + 1, 4, none⟩ = some (.int .i64 0) := j3.c 4
  have v0 : W6.cell? ⟨B5, 0, none⟩ = some (.int .u16 (addV pc 4)) := j5.c 0
  have v1 : W6.cell? ⟨B5, 1, none⟩ = some (.int .u16 (r 0)) := j5.c 1
  have v2 : W6.cell? ⟨B5, 2, none⟩ = some (.int .u16 (r 1)) := j5.c 2
  have v3 : W6.cell? ⟨B5, 3, none⟩ = some (.int .u16 (r 2)) := j5.c 3
  have v4 : W6.cell? ⟨B5, 4, none⟩ = some (.int .u16 (r 3)) := j5.c 4
  have v5 : W6.cell? ⟨B5, 5, none⟩ = some (.int .u16 (r 4)) := j5.c 5
  have v6 : W6.cell? ⟨B5, 6, none⟩ = some (.int .u16 (r 5)) := j5.c 6
  have v7 : W6.cell? ⟨B5, 7, none⟩ = some (.int .u16 (r 6)) := j5.c 7
  have v8 : W6.cell? ⟨B5, 8, none⟩ = some (.int .u16 (r 7)) := j5.c 8
  have f2 := j2.f
  have f3 := j3.f
  have f5 := j5.f
  have e0 : ¬ w.heap.size = B5 := by omega
  have e2 : ¬ w.heap.size + 1 + 1 = B5 := by omega
  have e3 : ¬ w.heap.size + 1 + 1 + 1 = B5 := by omega
  have n5 : Cel (W6.setCell ⟨B5, 1 + a.toNat, none⟩ (.int .u16 (d))) B5 #[.int .u16 (addV pc 4), .int .u16 (r' 0), .int .u16 (r' 1), .int .u16 (r' 2), .int .u16 (r' 3), .int .u16 (r' 4), .int .u16 (r' 5), .int .u16 (r' 6), .int .u16 (r' 7)] 26 := by
    have h := j5.set (1 + a.toNat) (.int .u16 (d))
    rw [hs] at h
    exact h
  have va : W6.cell? ⟨B5, 1 + a.toNat, none⟩ = some (.int .u16 (r a.toNat)) := (j5.c _).trans (rg_at (addV pc 4) r a.toNat (by omega))
  have x0 : (W6.setCell ⟨B5, 1 + a.toNat, none⟩ (.int .u16 (d))).cell? ⟨B5, 0, none⟩ = some (.int .u16 (addV pc 4)) := n5.c 0
  have x1 : (W6.setCell ⟨B5, 1 + a.toNat, none⟩ (.int .u16 (d))).cell? ⟨B5, 1, none⟩ = some (.int .u16 (r' 0)) := n5.c 1
  have x2 : (W6.setCell ⟨B5, 1 + a.toNat, none⟩ (.int .u16 (d))).cell? ⟨B5, 2, none⟩ = some (.int .u16 (r' 1)) := n5.c 2
  have x3 : (W6.setCell ⟨B5, 1 + a.toNat, none⟩ (.int .u16 (d))).cell? ⟨B5, 3, none⟩ = some (.int .u16 (r' 2)) := n5.c 3
  have x4 : (W6.setCell ⟨B5, 1 + a.toNat, none⟩ (.int .u16 (d))).cell? ⟨B5, 4, none⟩ = some (.int .u16 (r' 3)) := n5.c 4
  have x5 : (W6.setCell ⟨B5, 1 + a.toNat, none⟩ (.int .u16 (d))).cell? ⟨B5, 5, none⟩ = some (.int .u16 (r' 4)) := n5.c 5
  have x6 : (W6.setCell ⟨B5, 1 + a.toNat, none⟩ (.int .u16 (d))).cell? ⟨B5, 6, none⟩ = some (.int .u16 (r' 5)) := n5.c 6
  have x7 : (W6.setCell ⟨B5, 1 + a.toNat, none⟩ (.int .u16 (d))).cell? ⟨B5, 7, none⟩ = some (.int .u16 (r' 6)) := n5.c 7
  have x8 : (W6.setCell ⟨B5, 1 + a.toNat, none⟩ (.int .u16 (d))).cell? ⟨B5, 8, none⟩ = some (.int .u16 (r' 7)) := n5.c 8
  go_wp2_with fail
  go_region_held3 (fun w' => w'.cell? ⟨w.heap.size + 1, 1, none⟩ = some (.int .u8 a) ∧ w'.cell? ⟨w.heap.size + 1, 0, none⟩ = some (.int .u8 4)) (simp [go_sem, i0, i1]) ((go_at_call 23; refine (cK _).mono ?_; rintro e w' ⟨rfl, rfl⟩))
  clear p0 p1 p2 p3 p4 p5 p6 p7 p8 i0 i1 i2 i3 q0 q1 q2 q3 q4 q5 q6 q7 q8 u0 u1 u2 u3 u4 v0 v1 v2 v3 v4 v5 v6 v7 v8 x0 x1 x2 x3 x4 x5 x6 x7 x8 va f2 f3 f5 e0 e2 e3
  replace j0 := (j0.other (c := B5) (by omega) (1 + a.toNat) (.int .u16 (d))).drew
  replace j1 := (j1.other (c := B5) (by omega) (1 + a.toNat) (.int .u16 (d))).drew
  replace j2 := (j2.other (c := B5) (by omega) (1 + a.toNat) (.int .u16 (d))).drew
  replace j3 := (j3.other (c := B5) (by omega) (1 + a.toNat) (.int .u16 (d))).drew
  replace j5 := n5.drew
  have hb7 := Below.drew (bsx hb6 (show w.heap.size ≤ B5 by omega) (1 + a.toNat) (.int .u16 (d)))
  clear hb6 n5
  generalize (W6.setCell ⟨B5, 1 + a.toNat, none⟩ (.int .u16 (d))).drew = W7 at *
  have p0 : W7.cell? ⟨w.heap.size, 0, none⟩ = some (.int .u16 pc) := j0.c 0
  have p1 : W7.cell? ⟨w.heap.size, 1, none⟩ = some (.int .u16 (r 0)) := j0.c 1
  have p2 : W7.cell? ⟨w.heap.size, 2, none⟩ = some (.int .u16 (r 1)) := j0.c 2
  have p3 : W7.cell? ⟨w.heap.size, 3, none⟩ = some (.int .u16 (r 2)) := j0.c 3
  have p4 : W7.cell? ⟨w.heap.size, 4, none⟩ = some (.int .u16 (r 3)) := j0.c 4
  have p5 : W7.cell? ⟨w.heap.size, 5, none⟩ = some (.int .u16 (r 4)) := j0.c 5
  have p6 : W7.cell? ⟨w.heap.size, 6, none⟩ = some (.int .u16 (r 5)) := j0.c 6
  have p7 : W7.cell? ⟨w.heap.size, 7, none⟩ = some (.int .u16 (r 6)) := j0.c 7
  have p8 : W7.cell? ⟨w.heap.size, 8, none⟩ = some (.int .u16 (r 7)) := j0.c 8
  have i0 : W7.cell? ⟨w.heap.size + 1, 0, none⟩ = some (.int .u8 4) := j1.c 0
  have i1 : W7.cell? ⟨w.heap.size + 1, 1, none⟩ = some (.int .u8 a) := j1.c 1
  have i2 : W7.cell? ⟨w.heap.size + 1, 2, none⟩ = some (.int .u8 b) := j1.c 2
  have i3 : W7.cell? ⟨w.heap.size + 1, 3, none⟩ = some (.int .u16 m) := j1.c 3
  have q0 : W7.cell? ⟨w.heap.size + 1 + 1, 0, none⟩ = some (.int .u16 0) := j2.c 0
  have q1 : W7.cell? ⟨w.heap.size + 1 + 1, 1, none⟩ = some (.int .u16 0) := j2.c 1
  have q2 : W7.cell? ⟨w.heap.size + 1 + 1, 2, none⟩ = some (.int .u16 0) := j2.c 2
  have q3 : W7.cell? ⟨w.heap.size + 1 + 1, 3, none⟩ = some (.int .u16 0) := j2.c 3
  have q4 : W7.cell? ⟨w.heap.size + 1 + 1, 4, none⟩ = some (.int .u16 0) := j2.c 4
  have q5 : W7.cell? ⟨w.heap.size + 1 + 1, 5, none⟩ = some (.int .u16 0) := j2.c 5
  have q6 : W7.cell? ⟨w.heap.size + 1 + 1, 6, none⟩ = some (.int .u16 0) := j2.c 6
  have q7 : W7.cell? ⟨w.heap.size + 1 + 1, 7, none⟩ = some (.int .u16 0) := j2.c 7
  have q8 : W7.cell? ⟨w.heap.size + 1 + 1, 8, none⟩ = some (.int .u16 0) := j2.c 8
  have u0 : W7.cell? ⟨w.heap.size + 1 + 1 + 1, 0, none⟩ = some (.int .u8 0) := j3.c 0
  have u1 : W7.cell? ⟨w.heap.size + 1 + 1 + 1, 1, none⟩ = some (.int .u16 0) := j3.c 1
  have u2 : W7.cell? ⟨w.heap.size + 1 + 1 + 1, 2, none⟩ = some (.int .u16 0) := j3.c 2
  have u3 : W7.cell? ⟨w.heap.size + 1 + 1 + 1, 3, none⟩ = some (.int .u8 0) := j3.c 3
  have u4 : W7.cell? ⟨w.heap.size + 1 + 1 + 1, 4, none⟩ = some (.int .i64 0) := j3.c 4
  have v0 : W7.cell? ⟨B5, 0, none⟩ = some (.int .u16 (addV pc 4)) := j5.c 0
  have v1 : W7.cell? ⟨B5, 1, none⟩ = some (.int .u16 (r' 0)) := j5.c 1
  have v2 : W7.cell? ⟨B5, 2, none⟩ = some (.int .u16 (r' 1)) := j5.c 2
  have v3 : W7.cell? ⟨B5, 3, none⟩ = some (.int .u16 (r' 2)) := j5.c 3
  have v4 : W7.cell? ⟨B5, 4, none⟩ = some (.int .u16 (r' 3)) := j5.c 4
  have v5 : W7.cell? ⟨B5, 5, none⟩ = some (.int .u16 (r' 4)) := j5.c 5
  have v6 : W7.cell? ⟨B5, 6, none⟩ = some (.int .u16 (r' 5)) := j5.c 6
  have v7 : W7.cell? ⟨B5, 7, none⟩ = some (.int .u16 (r' 6)) := j5.c 7
  have v8 : W7.cell? ⟨B5, 8, none⟩ = some (.int .u16 (r' 7)) := j5.c 8
  have f2 := j2.f
  have f3 := j3.f
  have f5 := j5.f
  have e0 : ¬ w.heap.size = B5 := by omega
  have e2 : ¬ w.heap.size + 1 + 1 = B5 := by omega
  have e3 : ¬ w.heap.size + 1 + 1 + 1 = B5 := by omega
  go_wp2_with fail
  exact bodyPost_ret (v := .tuple #[rgV (addV pc 4) r', accV (0, 0, 0, 0, 0)]) (by simp [results, Tryd.results13, go_sem, accV, rgV, q0, q1, q2, q3, q4, q5, q6, q7, q8, u0, u1, u2, u3, u4]) rfl ⟨rfl, bsx (bsx (bsx (bsx (bsx (bsx (bsx (bsx (bsx (bsx (bsx (bsx (bsx (bsx (hb7) (by omega) _ _) (by omega) _ _) (by omega) _ _) (by omega) _ _) (by omega) _ _) (by omega) _ _) (by omega) _ _) (by omega) _ _) (by omega) _ _) (by omega) _ _) (by omega) _ _) (by omega) _ _) (by omega) _ _) (by omega) _ _⟩
set_option maxHeartbeats 1500000 in
theorem rexec_5 (pc : Int) (r : Nat → Int) (a b m : Int) (w : World) (hp : Wd pc) (hr : ∀ k, Wd (r k)) (hO : InsOk 5 a b m) (hR : insR 5 a b m = true) (ha2 : a < 8) (hb2 : b < 8) :
    Calls Tryd.prog 13 #[rgV pc r, insV 5 a b m] w fun e w' => e = .returned (execV (execP pc r 5 a b m)) ∧ Below w.heap.size w w' := by
  have ha := hO.2.2.1
  have hb := hO.2.2.2.2.1
  have hm : Wd m := ⟨hO.2.2.2.2.2.2.1, hO.2.2.2.2.2.2.2⟩
  have cR := fun w => rright_any 5 a b m w (by decide) (by decide)
  rw [hR] at cR
  have cA := fun w => radd_any pc 4 w hp.1 hp.2 (by decide) (by decide)
  have cB := fun w => radd_any (r b.toNat) m w (hr _).1 (hr _).2 hm.1 hm.2
  obtain ⟨W1, hW1, k0, k2, k3, hB1, hs1⟩ := w0_cells pc r 5 a b m w
  have k1 : Cel W1 (w.heap.size + 1) #[.int .u8 5, .int .u8 a, .int .u8 b, .int .u16 m] 41 := by
    rw [hW1]
    have h := ((Cel.new (w.alloc (.cells #[.int .u16 pc, .int .u16 (r 0), .int .u16 (r 1), .int .u16 (r 2), .int .u16 (r 3), .int .u16 (r 4), .int .u16 (r 5), .int .u16 (r 6), .int .u16 (r 7)] 26)) #[.int .u8 5, .int .u8 a, .int .u8 b, .int .u16 m] 41).alloc (.cells #[.int .u16 0, .int .u16 0, .int .u16 0, .int .u16 0, .int .u16 0, .int .u16 0, .int .u16 0, .int .u16 0, .int .u16 0] 26)).alloc (.cells #[.int .u8 0, .int .u16 0, .int .u16 0, .int .u8 0, .int .i64 0] 31)
    rw [World.size_alloc] at h
    exact h
  unfold execP
  rw [hR]
  simp only [reduceCtorEq, reduceIte, Int.reduceEq, false_and, doesP, execV]
  have cK := fun w => rreck_any 5 (r a.toNat) (r b.toNat) w (hr _) (hr _) (by decide)
  simp only [reduceIte, Int.reduceEq] at cK
  have hs : #[Value.int .u16 (addV pc 4), .int .u16 (r 0), .int .u16 (r 1), .int .u16 (r 2), .int .u16 (r 3), .int .u16 (r 4), .int .u16 (r 5), .int .u16 (r 6), .int .u16 (r 7)].setIfInBounds (1 + a.toNat) (.int .u16 (recV 5 (r a.toNat) (r b.toNat))) = #[.int .u16 (addV pc 4), .int .u16 ((upd r a.toNat (recV 5 (r a.toNat) (r b.toNat))) 0), .int .u16 ((upd r a.toNat (recV 5 (r a.toNat) (r b.toNat))) 1), .int .u16 ((upd r a.toNat (recV 5 (r a.toNat) (r b.toNat))) 2), .int .u16 ((upd r a.toNat (recV 5 (r a.toNat) (r b.toNat))) 3), .int .u16 ((upd r a.toNat (recV 5 (r a.toNat) (r b.toNat))) 4), .int .u16 ((upd r a.toNat (recV 5 (r a.toNat) (r b.toNat))) 5), .int .u16 ((upd r a.toNat (recV 5 (r a.toNat) (r b.toNat))) 6), .int .u16 ((upd r a.toNat (recV 5 (r a.toNat) (r b.toNat))) 7)] := by
    have h := rg_set (addV pc 4) r (recV 5 (r a.toNat) (r b.toNat)) a.toNat (by omega)
    rw [← Array.toList_inj]
    simpa using h
  generalize hr' : upd r a.toNat (recV 5 (r a.toNat) (r b.toNat)) = r' at *
  generalize recV 5 (r a.toNat) (r b.toNat) = d at *
  unfold rgV insV
  go_enter Tryd.func13, Tryd.ntmps13
  go_wp2_with fail
  rw [← hW1]
  clear hW1
  refine (cR _).mono ?_
  rintro e W2 ⟨rfl, hB2⟩
  have j0 := k0.below hB2 (by omega)
  have j1 := k1.below hB2 (by omega)
  have j2 := k2.below hB2 (by omega)
  have j3 := k3.below hB2 (by omega)
  have hb3 := hB1.trans (hB2.mono (by omega))
  have hs2 := hB2.size
  have l0 : w.heap.size < W2.heap.size := by omega
  have l1 : w.heap.size + 1 < W2.heap.size := by omega
  have l2 : w.heap.size + 1 + 1 < W2.heap.size := by omega
  have l3 : w.heap.size + 1 + 1 + 1 < W2.heap.size := by omega
  clear k0 k1 k2 k3 hB2 hB1 cR
  have i0 : W2.cell? ⟨w.heap.size + 1, 0, none⟩ = some (.int .u8 5) := j1.c 0
  have i1 : W2.cell? ⟨w.heap.size + 1, 1, none⟩ = some (.int .u8 a) := j1.c 1
  have i2 : W2.cell? ⟨w.heap.size + 1, 2, none⟩ = some (.int .u8 b) := j1.c 2
  have i3 : W2.cell? ⟨w.heap.size + 1, 3, none⟩ = some (.int .u16 m) := j1.c 3
  have ga : W2.cell? ⟨w.heap.size, 1 + a.toNat, none⟩ = some (.int .u16 (r a.toNat)) := (j0.c _).trans (rg_at pc r a.toNat (by omega))
  have gb : W2.cell? ⟨w.heap.size, 1 + b.toNat, none⟩ = some (.int .u16 (r b.toNat)) := (j0.c _).trans (rg_at pc r b.toNat (by omega))
  go_wp2_with fail
  refine still_all (by kernel_rfl) (by kernel_rfl) ?_
  still_step
  still_step
  still_step
  still_step
  still_step
  still_step
  still_step
  still_step
  still_step
  still_step
  still_step
  still_step
  refine wpStill_nil ?_
  clear i0 i1 i2 i3 ga gb
  have hb4 := Below.drew hb3
  replace l0 : w.heap.size < W2.drew.heap.size := l0
  replace l1 : w.heap.size + 1 < W2.drew.heap.size := l1
  replace l2 : w.heap.size + 1 + 1 < W2.drew.heap.size := l2
  replace l3 : w.heap.size + 1 + 1 + 1 < W2.drew.heap.size := l3
  replace j0 := j0.drew
  replace j1 := j1.drew
  replace j2 := j2.drew
  replace j3 := j3.drew
  clear hb3 hs2
  generalize W2.drew = W3 at *
  have p0 : W3.cell? ⟨w.heap.size, 0, none⟩ = some (.int .u16 pc) := j0.c 0
  have p1 : W3.cell? ⟨w.heap.size, 1, none⟩ = some (.int .u16 (r 0)) := j0.c 1
  have p2 : W3.cell? ⟨w.heap.size, 2, none⟩ = some (.int .u16 (r 1)) := j0.c 2
  have p3 : W3.cell? ⟨w.heap.size, 3, none⟩ = some (.int .u16 (r 2)) := j0.c 3
  have p4 : W3.cell? ⟨w.heap.size, 4, none⟩ = some (.int .u16 (r 3)) := j0.c 4
  have p5 : W3.cell? ⟨w.heap.size, 5, none⟩ = some (.int .u16 (r 4)) := j0.c 5
  have p6 : W3.cell? ⟨w.heap.size, 6, none⟩ = some (.int .u16 (r 5)) := j0.c 6
  have p7 : W3.cell? ⟨w.heap.size, 7, none⟩ = some (.int .u16 (r 6)) := j0.c 7
  have p8 : W3.cell? ⟨w.heap.size, 8, none⟩ = some (.int .u16 (r 7)) := j0.c 8
  go_wp2_with fail
  clear p0 p1 p2 p3 p4 p5 p6 p7 p8
  have hb5 := nx hb4 (.cells #[.int .u16 pc, .int .u16 (r 0), .int .u16 (r 1), .int .u16 (r 2), .int .u16 (r 3), .int .u16 (r 4), .int .u16 (r 5), .int .u16 (r 6), .int .u16 (r 7)] 26)
  replace j0 := j0.alloc (.cells #[.int .u16 pc, .int .u16 (r 0), .int .u16 (r 1), .int .u16 (r 2), .int .u16 (r 3), .int .u16 (r 4), .int .u16 (r 5), .int .u16 (r 6), .int .u16 (r 7)] 26)
  replace j1 := j1.alloc (.cells #[.int .u16 pc, .int .u16 (r 0), .int .u16 (r 1), .int .u16 (r 2), .int .u16 (r 3), .int .u16 (r 4), .int .u16 (r 5), .int .u16 (r 6), .int .u16 (r 7)] 26)
  replace j2 := j2.alloc (.cells #[.int .u16 pc, .int .u16 (r 0), .int .u16 (r 1), .int .u16 (r 2), .int .u16 (r 3), .int .u16 (r 4), .int .u16 (r 5), .int .u16 (r 6), .int .u16 (r 7)] 26)
  replace j3 := j3.alloc (.cells #[.int .u16 pc, .int .u16 (r 0), .int .u16 (r 1), .int .u16 (r 2), .int .u16 (r 3), .int .u16 (r 4), .int .u16 (r 5), .int .u16 (r 6), .int .u16 (r 7)] 26)
  have j5 := Cel.new W3 #[.int .u16 pc, .int .u16 (r 0), .int .u16 (r 1), .int .u16 (r 2), .int .u16 (r 3), .int .u16 (r 4), .int .u16 (r 5), .int .u16 (r 6), .int .u16 (r 7)] 26
  clear hb4 l0 l1 l2
  generalize (W3.alloc (.cells #[.int .u16 pc, .int .u16 (r 0), .int .u16 (r 1), .int .u16 (r 2), .int .u16 (r 3), .int .u16 (r 4), .int .u16 (r 5), .int .u16 (r 6), .int .u16 (r 7)] 26)) = W5 at *
  generalize W3.heap.size = B5 at *
  refine (cA _).mono ?_
  rintro e W4 ⟨rfl, h4⟩
  rw [h4]
  clear h4
  have i0 : W5.cell? ⟨w.heap.size + 1, 0, none⟩ = some (.int .u8 5) := j1.c 0
  have i1 : W5.cell? ⟨w.heap.size + 1, 1, none⟩ = some (.int .u8 a) := j1.c 1
  have i2 : W5.cell? ⟨w.heap.size + 1, 2, none⟩ = some (.int .u8 b) := j1.c 2
  have i3 : W5.cell? ⟨w.heap.size + 1, 3, none⟩ = some (.int .u16 m) := j1.c 3
  have v0 : W5.cell? ⟨B5, 0, none⟩ = some (.int .u16 pc) := j5.c 0
  have f5 := j5.f
  have ne1 : ¬ w.heap.size + 1 = B5 := by omega
  go_wp2_with fail
  clear i0 i1 i2 i3 v0 f5
  have hb6 := bsx hb5 (show w.heap.size ≤ B5 by omega) 0 (.int .u16 (addV pc 4))
  replace j0 := j0.other (c := B5) (by omega) 0 (.int .u16 (addV pc 4))
  replace j1 := j1.other (c := B5) (by omega) 0 (.int .u16 (addV pc 4))
  replace j2 := j2.other (c := B5) (by omega) 0 (.int .u16 (addV pc 4))
  replace j3 := j3.other (c := B5) (by omega) 0 (.int .u16 (addV pc 4))
  replace j5 : Cel _ B5 #[.int .u16 (addV pc 4), .int .u16 (r 0), .int .u16 (r 1), .int .u16 (r 2), .int .u16 (r 3), .int .u16 (r 4), .int .u16 (r 5), .int .u16 (r 6), .int .u16 (r 7)] 26 := j5.set 0 (.int .u16 (addV pc 4))
  clear hb5
  generalize W5.setCell ⟨B5, 0, none⟩ (.int .u16 (addV pc 4)) = W6 at *
  refine (cB _).mono ?_
  rintro e W4 ⟨rfl, h4⟩
  rw [h4]
  clear h4
  have p0 : W6.cell? ⟨w.heap.size, 0, none⟩ = some (.int .u16 pc) := j0.c 0
  have p1 : W6.cell? ⟨w.heap.size, 1, none⟩ = some (.int .u16 (r 0)) := j0.c 1
  have p2 : W6.cell? ⟨w.heap.size, 2, none⟩ = some (.int .u16 (r 1)) := j0.c 2
  have p3 : W6.cell? ⟨w.heap.size, 3, none⟩ = some (.int .u16 (r 2)) := j0.c 3
  have p4 : W6.cell? ⟨w.heap.size, 4, none⟩ = some (.int .u16 (r 3)) := j0.c 4
  have p5 : W6.cell? ⟨w.heap.size, 5, none⟩ = some (.int .u16 (r 4)) := j0.c 5
  have p6 : W6.cell? ⟨w.heap.size, 6, none⟩ = some (.int .u16 (r 5)) := j0.c 6
  have p7 : W6.cell? ⟨w.heap.size, 7, none⟩ = some (.int .u16 (r 6)) := j0.c 7
  have p8 : W6.cell? ⟨w.heap.size, 8, none⟩ = some (.int .u16 (r 7)) := j0.c 8
  have i0 : W6.cell? ⟨w.heap.size + 1, 0, none⟩ = some (.int .u8 5) := j1.c 0
  have i1 : W6.cell? ⟨w.heap.size + 1, 1, none⟩ = some (.int .u8 a) := j1.c 1
  have i2 : W6.cell? ⟨w.heap.size + 1, 2, none⟩ = some (.int .u8 b) := j1.c 2
  have i3 : W6.cell? ⟨w.heap.size + 1, 3, none⟩ = some (.int .u16 m) := j1.c 3
  have q0 : W6.cell? ⟨w.heap.size + 1 + 1, 0, none⟩ = some (.int .u16 0) := j2.c 0
  have q1 : W6.cell? ⟨w.heap.size + 1 + 1, 1, none⟩ = some (.int .u16 0) := j2.c 1
  have q2 : W6.cell? ⟨w.heap.size + 1 + 1, 2, none⟩ = some (.int .u16 0) := j2.c 2
  have q3 : W6.cell? ⟨w.heap.size + 1 + 1, 3, none⟩ = some (.int .u16 0) := j2.c 3
  have q4 : W6.cell? ⟨w.heap.size + 1 + 1, 4, none⟩ = some (.int .u16 0) := j2.c 4
  have q5 : W6.cell? ⟨w.heap.size + 1 + 1, 5, none⟩ = some (.int .u16 0) := j2.c 5
  have q6 : W6.cell? ⟨w.heap.size + 1 + 1, 6, none⟩ = some (.int .u16 0) := j2.c 6
  have q7 : W6.cell? ⟨w.heap.size + 1 + 1, 7, none⟩ = some (.int .u16 0) := j2.c 7
  have q8 : W6.cell? ⟨w.heap.size + 1 + 1, 8, none⟩ = some (.int .u16 0) := j2.c 8
  have u0 : W6.cell? ⟨w.heap.size + 1 + 1 + 1, 0, none⟩ = some (.int .u8 0) := j3.c 0
  have u1 : W6.cell? ⟨w.heap.size + 1 + 1 + 1, 1, none⟩ = some (.int .u16 0) := j3.c 1
  have u2 : W6.cell? ⟨w.heap.size + 1 + 1 + 1, 2, none⟩ = some (.int .u16 0) := j3.c 2
  have u3 : W6.cell? ⟨w.heap.size + 1 + 1 + 1, 3, none⟩ = some (.int .u8 0) := j3.c 3
  have u4 : W6.cell? ⟨w.heap.size + 1 + 1 + 1, 4, none⟩ = some (.int .i64 0) := j3.c 4
  have v0 : W6.cell? ⟨B5, 0, none⟩ = some (.int .u16 (addV pc 4)) := j5.c 0
  have v1 : W6.cell? ⟨B5, 1, none⟩ = some (.int .u16 (r 0)) := j5.c 1
  have v2 : W6.cell? ⟨B5, 2, none⟩ = some (.int .u16 (r 1)) := j5.c 2
  have v3 : W6.cell? ⟨B5, 3, none⟩ = some (.int .u16 (r 2)) := j5.c 3
  have v4 : W6.cell? ⟨B5, 4, none⟩ = some (.int .u16 (r 3)) := j5.c 4
  have v5 : W6.cell? ⟨B5, 5, none⟩ = some (.int .u16 (r 4)) := j5.c 5
  have v6 : W6.cell? ⟨B5, 6, none⟩ = some (.int .u16 (r 5)) := j5.c 6
  have v7 : W6.cell? ⟨B5, 7, none⟩ = some (.int .u16 (r 6)) := j5.c 7
  have v8 : W6.cell? ⟨B5, 8, none⟩ = some (.int .u16 (r 7)) := j5.c 8
  have f2 := j2.f
  have f3 := j3.f
  have f5 := j5.f
  have e0 : ¬ w.heap.size = B5 := by omega
  have e2 : ¬ w.heap.size + 1 + 1 = B5 := by omega
  have e3 : ¬ w.heap.size + 1 + 1 + 1 = B5 := by omega
  have n5 : Cel (W6.setCell ⟨B5, 1 + a.toNat, none⟩ (.int .u16 (d))) B5 #[.int .u16 (addV pc 4), .int .u16 (r' 0), .int .u16 (r' 1), .int .u16 (r' 2), .int .u16 (r' 3), .int .u16 (r' 4), .int .u16 (r' 5), .int .u16 (r' 6), .int .u16 (r' 7)] 26 := by
    have h := j5.set (1 + a.toNat) (.int .u16 (d))
    rw [hs] at h
    exact h
  have va : W6.cell? ⟨B5, 1 + a.toNat, none⟩ = some (.int .u16 (r a.toNat)) := (j5.c _).trans (rg_at (addV pc 4) r a.toNat (by omega))
  have x0 : (W6.setCell ⟨B5, 1 + a.toNat, none⟩ (.int .u16 (d))).cell? ⟨B5, 0, none⟩ = some (.int .u16 (addV pc 4)) := n5.c 0
  have x1 : (W6.setCell ⟨B5, 1 + a.toNat, none⟩ (.int .u16 (d))).cell? ⟨B5, 1, none⟩ = some (.int .u16 (r' 0)) := n5.c 1
  have x2 : (W6.setCell ⟨B5, 1 + a.toNat, none⟩ (.int .u16 (d))).cell? ⟨B5, 2, none⟩ = some (.int .u16 (r' 1)) := n5.c 2
  have x3 : (W6.setCell ⟨B5, 1 + a.toNat, none⟩ (.int .u16 (d))).cell? ⟨B5, 3, none⟩ = some (.int .u16 (r' 2)) := n5.c 3
  have x4 : (W6.setCell ⟨B5, 1 + a.toNat, none⟩ (.int .u16 (d))).cell? ⟨B5, 4, none⟩ = some (.int .u16 (r' 3)) := n5.c 4
  have x5 : (W6.setCell ⟨B5, 1 + a.toNat, none⟩ (.int .u16 (d))).cell? ⟨B5, 5, none⟩ = some (.int .u16 (r' 4)) := n5.c 5
  have x6 : (W6.setCell ⟨B5, 1 + a.toNat, none⟩ (.int .u16 (d))).cell? ⟨B5, 6, none⟩ = some (.int .u16 (r' 5)) := n5.c 6
  have x7 : (W6.setCell ⟨B5, 1 + a.toNat, none⟩ (.int .u16 (d))).cell? ⟨B5, 7, none⟩ = some (.int .u16 (r' 6)) := n5.c 7
  have x8 : (W6.setCell ⟨B5, 1 + a.toNat, none⟩ (.int .u16 (d))).cell? ⟨B5, 8, none⟩ = some (.int .u16 (r' 7)) := n5.c 8
  go_wp2_with fail
  go_region_held3 (fun w' => w'.cell? ⟨w.heap.size + 1, 1, none⟩ = some (.int .u8 a) ∧ w'.cell? ⟨w.heap.size + 1, 0, none⟩ = some (.int .u8 5)) (simp [go_sem, i0, i1]) ((go_at_call 23; refine (cK _).mono ?_; rintro e w' ⟨rfl, rfl⟩))
  clear p0 p1 p2 p3 p4 p5 p6 p7 p8 i0 i1 i2 i3 q0 q1 q2 q3 q4 q5 q6 q7 q8 u0 u1 u2 u3 u4 v0 v1 v2 v3 v4 v5 v6 v7 v8 x0 x1 x2 x3 x4 x5 x6 x7 x8 va f2 f3 f5 e0 e2 e3
  replace j0 := (j0.other (c := B5) (by omega) (1 + a.toNat) (.int .u16 (d))).drew
  replace j1 := (j1.other (c := B5) (by omega) (1 + a.toNat) (.int .u16 (d))).drew
  replace j2 := (j2.other (c := B5) (by omega) (1 + a.toNat) (.int .u16 (d))).drew
  replace j3 := (j3.other (c := B5) (by omega) (1 + a.toNat) (.int .u16 (d))).drew
  replace j5 := n5.drew
  have hb7 := Below.drew (bsx hb6 (show w.heap.size ≤ B5 by omega) (1 + a.toNat) (.int .u16 (d)))
  clear hb6 n5
  generalize (W6.setCell ⟨B5, 1 + a.toNat, none⟩ (.int .u16 (d))).drew = W7 at *
  have p0 : W7.cell? ⟨w.heap.size, 0, none⟩ = some (.int .u16 pc) := j0.c 0
  have p1 : W7.cell? ⟨w.heap.size, 1, none⟩ = some (.int .u16 (r 0)) := j0.c 1
  have p2 : W7.cell? ⟨w.heap.size, 2, none⟩ = some (.int .u16 (r 1)) := j0.c 2
  have p3 : W7.cell? ⟨w.heap.size, 3, none⟩ = some (.int .u16 (r 2)) := j0.c 3
  have p4 : W7.cell? ⟨w.heap.size, 4, none⟩ = some (.int .u16 (r 3)) := j0.c 4
  have p5 : W7.cell? ⟨w.heap.size, 5, none⟩ = some (.int .u16 (r 4)) := j0.c 5
  have p6 : W7.cell? ⟨w.heap.size, 6, none⟩ = some (.int .u16 (r 5)) := j0.c 6
  have p7 : W7.cell? ⟨w.heap.size, 7, none⟩ = some (.int .u16 (r 6)) := j0.c 7
  have p8 : W7.cell? ⟨w.heap.size, 8, none⟩ = some (.int .u16 (r 7)) := j0.c 8
  have i0 : W7.cell? ⟨w.heap.size + 1, 0, none⟩ = some (.int .u8 5) := j1.c 0
  have i1 : W7.cell? ⟨w.heap.size + 1, 1, none⟩ = some (.int .u8 a) := j1.c 1
  have i2 : W7.cell? ⟨w.heap.size + 1, 2, none⟩ = some (.int .u8 b) := j1.c 2
  have i3 : W7.cell? ⟨w.heap.size + 1, 3, none⟩ = some (.int .u16 m) := j1.c 3
  have q0 : W7.cell? ⟨w.heap.size + 1 + 1, 0, none⟩ = some (.int .u16 0) := j2.c 0
  have q1 : W7.cell? ⟨w.heap.size + 1 + 1, 1, none⟩ = some (.int .u16 0) := j2.c 1
  have q2 : W7.cell? ⟨w.heap.size + 1 + 1, 2, none⟩ = some (.int .u16 0) := j2.c 2
  have q3 : W7.cell? ⟨w.heap.size + 1 + 1, 3, none⟩ = some (.int .u16 0) := j2.c 3
  have q4 : W7.cell? ⟨w.heap.size + 1 + 1, 4, none⟩ = some (.int .u16 0) := j2.c 4
  have q5 : W7.cell? ⟨w.heap.size + 1 + 1, 5, none⟩ = some (.int .u16 0) := j2.c 5
  have q6 : W7.cell? ⟨w.heap.size + 1 + 1, 6, none⟩ = some (.int .u16 0) := j2.c 6
  have q7 : W7.cell? ⟨w.heap.size + 1 + 1, 7, none⟩ = some (.int .u16 0) := j2.c 7
  have q8 : W7.cell? ⟨w.heap.size + 1 + 1, 8, none⟩ = some (.int .u16 0) := j2.c 8
  have u0 : W7.cell? ⟨w.heap.size + 1 + 1 + 1, 0, none⟩ = some (.int .u8 0) := j3.c 0
  have u1 : W7.cell? ⟨w.heap.size + 1 + 1 + 1, 1, none⟩ = some (.int .u16 0) := j3.c 1
  have u2 : W7.cell? ⟨w.heap.size + 1 + 1 + 1, 2, none⟩ = some (.int .u16 0) := j3.c 2
  have u3 : W7.cell? ⟨w.heap.size + 1 + 1 + 1, 3, none⟩ = some (.int .u8 0) := j3.c 3
  have u4 : W7.cell? ⟨w.heap.size + 1 + 1 + 1, 4, none⟩ = some (.int .i64 0) := j3.c 4
  have v0 : W7.cell? ⟨B5, 0, none⟩ = some (.int .u16 (addV pc 4)) := j5.c 0
  have v1 : W7.cell? ⟨B5, 1, none⟩ = some (.int .u16 (r' 0)) := j5.c 1
  have v2 : W7.cell? ⟨B5, 2, none⟩ = some (.int .u16 (r' 1)) := j5.c 2
  have v3 : W7.cell? ⟨B5, 3, none⟩ = some (.int .u16 (r' 2)) := j5.c 3
  have v4 : W7.cell? ⟨B5, 4, none⟩ = some (.int .u16 (r' 3)) := j5.c 4
  have v5 : W7.cell? ⟨B5, 5, none⟩ = some (.int .u16 (r' 4)) := j5.c 5
  have v6 : W7.cell? ⟨B5, 6, none⟩ = some (.int .u16 (r' 5)) := j5.c 6
  have v7 : W7.cell? ⟨B5, 7, none⟩ = some (.int .u16 (r' 6)) := j5.c 7
  have v8 : W7.cell? ⟨B5, 8, none⟩ = some (.int .u16 (r' 7)) := j5.c 8
  have f2 := j2.f
  have f3 := j3.f
  have f5 := j5.f
  have e0 : ¬ w.heap.size = B5 := by omega
  have e2 : ¬ w.heap.size + 1 + 1 = B5 := by omega
  have e3 : ¬ w.heap.size + 1 + 1 + 1 = B5 := by omega
  go_wp2_with fail
  exact bodyPost_ret (v := .tuple #[rgV (addV pc 4) r', accV (0, 0, 0, 0, 0)]) (by simp [results, Tryd.results13, go_sem, accV, rgV, q0, q1, q2, q3, q4, q5, q6, q7, q8, u0, u1, u2, u3, u4]) rfl ⟨rfl, bsx (bsx (bsx (bsx (bsx (bsx (bsx (bsx (bsx (bsx (bsx (bsx (bsx (bsx (hb7) (by omega) _ _) (by omega) _ _) (by omega) _ _) (by omega) _ _) (by omega) _ _) (by omega) _ _) (by omega) _ _) (by omega) _ _) (by omega) _ _) (by omega) _ _) (by omega) _ _) (by omega) _ _) (by omega) _ _) (by omega) _ _⟩
set_option maxHeartbeats 1500000 in
theorem rexec_6 (pc : Int) (r : Nat → Int) (a b m : Int) (w : World) (hp : Wd pc) (hr : ∀ k, Wd (r k)) (hO : InsOk 6 a b m) (hR : insR 6 a b m = true) (ha2 : a < 8) (hb2 : b < 8) :
    Calls Tryd.prog 13 #[rgV pc r, insV 6 a b m] w fun e w' => e = .returned (execV (execP pc r 6 a b m)) ∧ Below w.heap.size w w' := by
  have ha := hO.2.2.1
  have hb := hO.2.2.2.2.1
  have hm : Wd m := ⟨hO.2.2.2.2.2.2.1, hO.2.2.2.2.2.2.2⟩
  have cR := fun w => rright_any 6 a b m w (by decide) (by decide)
  rw [hR] at cR
  have cA := fun w => radd_any pc 4 w hp.1 hp.2 (by decide) (by decide)
  have cB := fun w => radd_any (r b.toNat) m w (hr _).1 (hr _).2 hm.1 hm.2
  obtain ⟨W1, hW1, k0, k2, k3, hB1, hs1⟩ := w0_cells pc r 6 a b m w
  have k1 : Cel W1 (w.heap.size + 1) #[.int .u8 6, .int .u8 a, .int .u8 b, .int .u16 m] 41 := by
    rw [hW1]
    have h := ((Cel.new (w.alloc (.cells #[.int .u16 pc, .int .u16 (r 0), .int .u16 (r 1), .int .u16 (r 2), .int .u16 (r 3), .int .u16 (r 4), .int .u16 (r 5), .int .u16 (r 6), .int .u16 (r 7)] 26)) #[.int .u8 6, .int .u8 a, .int .u8 b, .int .u16 m] 41).alloc (.cells #[.int .u16 0, .int .u16 0, .int .u16 0, .int .u16 0, .int .u16 0, .int .u16 0, .int .u16 0, .int .u16 0, .int .u16 0] 26)).alloc (.cells #[.int .u8 0, .int .u16 0, .int .u16 0, .int .u8 0, .int .i64 0] 31)
    rw [World.size_alloc] at h
    exact h
  unfold execP
  rw [hR]
  simp only [reduceCtorEq, reduceIte, Int.reduceEq, false_and, doesP, execV]
  have cK := fun w => rreck_any 6 (r a.toNat) (r b.toNat) w (hr _) (hr _) (by decide)
  simp only [reduceIte, Int.reduceEq] at cK
  have hs : #[Value.int .u16 (addV pc 4), .int .u16 (r 0), .int .u16 (r 1), .int .u16 (r 2), .int .u16 (r 3), .int .u16 (r 4), .int .u16 (r 5), .int .u16 (r 6), .int .u16 (r 7)].setIfInBounds (1 + a.toNat) (.int .u16 (recV 6 (r a.toNat) (r b.toNat))) = #[.int .u16 (addV pc 4), .int .u16 ((upd r a.toNat (recV 6 (r a.toNat) (r b.toNat))) 0), .int .u16 ((upd r a.toNat (recV 6 (r a.toNat) (r b.toNat))) 1), .int .u16 ((upd r a.toNat (recV 6 (r a.toNat) (r b.toNat))) 2), .int .u16 ((upd r a.toNat (recV 6 (r a.toNat) (r b.toNat))) 3), .int .u16 ((upd r a.toNat (recV 6 (r a.toNat) (r b.toNat))) 4), .int .u16 ((upd r a.toNat (recV 6 (r a.toNat) (r b.toNat))) 5), .int .u16 ((upd r a.toNat (recV 6 (r a.toNat) (r b.toNat))) 6), .int .u16 ((upd r a.toNat (recV 6 (r a.toNat) (r b.toNat))) 7)] := by
    have h := rg_set (addV pc 4) r (recV 6 (r a.toNat) (r b.toNat)) a.toNat (by omega)
    rw [← Array.toList_inj]
    simpa using h
  generalize hr' : upd r a.toNat (recV 6 (r a.toNat) (r b.toNat)) = r' at *
  generalize recV 6 (r a.toNat) (r b.toNat) = d at *
  unfold rgV insV
  go_enter Tryd.func13, Tryd.ntmps13
  go_wp2_with fail
  rw [← hW1]
  clear hW1
  refine (cR _).mono ?_
  rintro e W2 ⟨rfl, hB2⟩
  have j0 := k0.below hB2 (by omega)
  have j1 := k1.below hB2 (by omega)
  have j2 := k2.below hB2 (by omega)
  have j3 := k3.below hB2 (by omega)
  have hb3 := hB1.trans (hB2.mono (by omega))
  have hs2 := hB2.size
  have l0 : w.heap.size < W2.heap.size := by omega
  have l1 : w.heap.size + 1 < W2.heap.size := by omega
  have l2 : w.heap.size + 1 + 1 < W2.heap.size := by omega
  have l3 : w.heap.size + 1 + 1 + 1 < W2.heap.size := by omega
  clear k0 k1 k2 k3 hB2 hB1 cR
  have i0 : W2.cell? ⟨w.heap.size + 1, 0, none⟩ = some (.int .u8 6) := j1.c 0
  have i1 : W2.cell? ⟨w.heap.size + 1, 1, none⟩ = some (.int .u8 a) := j1.c 1
  have i2 : W2.cell? ⟨w.heap.size + 1, 2, none⟩ = some (.int .u8 b) := j1.c 2
  have i3 : W2.cell? ⟨w.heap.size + 1, 3, none⟩ = some (.int .u16 m) := j1.c 3
  have ga : W2.cell? ⟨w.heap.size, 1 + a.toNat, none⟩ = some (.int .u16 (r a.toNat)) := (j0.c _).trans (rg_at pc r a.toNat (by omega))
  have gb : W2.cell? ⟨w.heap.size, 1 + b.toNat, none⟩ = some (.int .u16 (r b.toNat)) := (j0.c _).trans (rg_at pc r b.toNat (by omega))
  go_wp2_with fail
  refine still_all (by kernel_rfl) (by kernel_rfl) ?_
  still_step
  still_step
  still_step
  still_step
  still_step
  still_step
  still_step
  still_step
  still_step
  still_step
  still_step
  still_step
  refine wpStill_nil ?_
  clear i0 i1 i2 i3 ga gb
  have hb4 := Below.drew hb3
  replace l0 : w.heap.size < W2.drew.heap.size := l0
  replace l1 : w.heap.size + 1 < W2.drew.heap.size := l1
  replace l2 : w.heap.size + 1 + 1 < W2.drew.heap.size := l2
  replace l3 : w.heap.size + 1 + 1 + 1 < W2.drew.heap.size := l3
  replace j0 := j0.drew
  replace j1 := j1.drew
  replace j2 := j2.drew
  replace j3 := j3.drew
  clear hb3 hs2
  generalize W2.drew = W3 at *
  have p0 : W3.cell? ⟨w.heap.size, 0, none⟩ = some (.int .u16 pc) := j0.c 0
  have p1 : W3.cell? ⟨w.heap.size, 1, none⟩ = some (.int .u16 (r 0)) := j0.c 1
  have p2 : W3.cell? ⟨w.heap.size, 2, none⟩ = some (.int .u16 (r 1)) := j0.c 2
  have p3 : W3.cell? ⟨w.heap.size, 3, none⟩ = some (.int .u16 (r 2)) := j0.c 3
  have p4 : W3.cell? ⟨w.heap.size, 4, none⟩ = some (.int .u16 (r 3)) := j0.c 4
  have p5 : W3.cell? ⟨w.heap.size, 5, none⟩ = some (.int .u16 (r 4)) := j0.c 5
  have p6 : W3.cell? ⟨w.heap.size, 6, none⟩ = some (.int .u16 (r 5)) := j0.c 6
  have p7 : W3.cell? ⟨w.heap.size, 7, none⟩ = some (.int .u16 (r 6)) := j0.c 7
  have p8 : W3.cell? ⟨w.heap.size, 8, none⟩ = some (.int .u16 (r 7)) := j0.c 8
  go_wp2_with fail
  clear p0 p1 p2 p3 p4 p5 p6 p7 p8
  have hb5 := nx hb4 (.cells #[.int .u16 pc, .int .u16 (r 0), .int .u16 (r 1), .int .u16 (r 2), .int .u16 (r 3), .int .u16 (r 4), .int .u16 (r 5), .int .u16 (r 6), .int .u16 (r 7)] 26)
  replace j0 := j0.alloc (.cells #[.int .u16 pc, .int .u16 (r 0), .int .u16 (r 1), .int .u16 (r 2), .int .u16 (r 3), .int .u16 (r 4), .int .u16 (r 5), .int .u16 (r 6), .int .u16 (r 7)] 26)
  replace j1 := j1.alloc (.cells #[.int .u16 pc, .int .u16 (r 0), .int .u16 (r 1), .int .u16 (r 2), .int .u16 (r 3), .int .u16 (r 4), .int .u16 (r 5), .int .u16 (r 6), .int .u16 (r 7)] 26)
  replace j2 := j2.alloc (.cells #[.int .u16 pc, .int .u16 (r 0), .int .u16 (r 1), .int .u16 (r 2), .int .u16 (r 3), .int .u16 (r 4), .int .u16 (r 5), .int .u16 (r 6), .int .u16 (r 7)] 26)
  replace j3 := j3.alloc (.cells #[.int .u16 pc, .int .u16 (r 0), .int .u16 (r 1), .int .u16 (r 2), .int .u16 (r 3), .int .u16 (r 4), .int .u16 (r 5), .int .u16 (r 6), .int .u16 (r 7)] 26)
  have j5 := Cel.new W3 #[.int .u16 pc, .int .u16 (r 0), .int .u16 (r 1), .int .u16 (r 2), .int .u16 (r 3), .int .u16 (r 4), .int .u16 (r 5), .int .u16 (r 6), .int .u16 (r 7)] 26
  clear hb4 l0 l1 l2
  generalize (W3.alloc (.cells #[.int .u16 pc, .int .u16 (r 0), .int .u16 (r 1), .int .u16 (r 2), .int .u16 (r 3), .int .u16 (r 4), .int .u16 (r 5), .int .u16 (r 6), .int .u16 (r 7)] 26)) = W5 at *
  generalize W3.heap.size = B5 at *
  refine (cA _).mono ?_
  rintro e W4 ⟨rfl, h4⟩
  rw [h4]
  clear h4
  have i0 : W5.cell? ⟨w.heap.size + 1, 0, none⟩ = some (.int .u8 6) := j1.c 0
  have i1 : W5.cell? ⟨w.heap.size + 1, 1, none⟩ = some (.int .u8 a) := j1.c 1
  have i2 : W5.cell? ⟨w.heap.size + 1, 2, none⟩ = some (.int .u8 b) := j1.c 2
  have i3 : W5.cell? ⟨w.heap.size + 1, 3, none⟩ = some (.int .u16 m) := j1.c 3
  have v0 : W5.cell? ⟨B5, 0, none⟩ = some (.int .u16 pc) := j5.c 0
  have f5 := j5.f
  have ne1 : ¬ w.heap.size + 1 = B5 := by omega
  go_wp2_with fail
  clear i0 i1 i2 i3 v0 f5
  have hb6 := bsx hb5 (show w.heap.size ≤ B5 by omega) 0 (.int .u16 (addV pc 4))
  replace j0 := j0.other (c := B5) (by omega) 0 (.int .u16 (addV pc 4))
  replace j1 := j1.other (c := B5) (by omega) 0 (.int .u16 (addV pc 4))
  replace j2 := j2.other (c := B5) (by omega) 0 (.int .u16 (addV pc 4))
  replace j3 := j3.other (c := B5) (by omega) 0 (.int .u16 (addV pc 4))
  replace j5 : Cel _ B5 #[.int .u16 (addV pc 4), .int .u16 (r 0), .int .u16 (r 1), .int .u16 (r 2), .int .u16 (r 3), .int .u16 (r 4), .int .u16 (r 5), .int .u16 (r 6), .int .u16 (r 7)] 26 := j5.set 0 (.int .u16 (addV pc 4))
  clear hb5
  generalize W5.setCell ⟨B5, 0, none⟩ (.int .u16 (addV pc 4)) = W6 at *
  refine (cB _).mono ?_
  rintro e W4 ⟨rfl, h4⟩
  rw [h4]
  clear h4
  have p0 : W6.cell? ⟨w.heap.size, 0, none⟩ = some (.int .u16 pc) := j0.c 0
  have p1 : W6.cell? ⟨w.heap.size, 1, none⟩ = some (.int .u16 (r 0)) := j0.c 1
  have p2 : W6.cell? ⟨w.heap.size, 2, none⟩ = some (.int .u16 (r 1)) := j0.c 2
  have p3 : W6.cell? ⟨w.heap.size, 3, none⟩ = some (.int .u16 (r 2)) := j0.c 3
  have p4 : W6.cell? ⟨w.heap.size, 4, none⟩ = some (.int .u16 (r 3)) := j0.c 4
  have p5 : W6.cell? ⟨w.heap.size, 5, none⟩ = some (.int .u16 (r 4)) := j0.c 5
  have p6 : W6.cell? ⟨w.heap.size, 6, none⟩ = some (.int .u16 (r 5)) := j0.c 6
  have p7 : W6.cell? ⟨w.heap.size, 7, none⟩ = some (.int .u16 (r 6)) := j0.c 7
  have p8 : W6.cell? ⟨w.heap.size, 8, none⟩ = some (.int .u16 (r 7)) := j0.c 8
  have i0 : W6.cell? ⟨w.heap.size + 1, 0, none⟩ = some (.int .u8 6) := j1.c 0
  have i1 : W6.cell? ⟨w.heap.size + 1, 1, none⟩ = some (.int .u8 a) := j1.c 1
  have i2 : W6.cell? ⟨w.heap.size + 1, 2, none⟩ = some (.int .u8 b) := j1.c 2
  have i3 : W6.cell? ⟨w.heap.size + 1, 3, none⟩ = some (.int .u16 m) := j1.c 3
  have q0 : W6.cell? ⟨w.heap.size + 1 + 1, 0, none⟩ = some (.int .u16 0) := j2.c 0
  have q1 : W6.cell? ⟨w.heap.size + 1 + 1, 1, none⟩ = some (.int .u16 0) := j2.c 1
  have q2 : W6.cell? ⟨w.heap.size + 1 + 1, 2, none⟩ = some (.int .u16 0) := j2.c 2
  have q3 : W6.cell? ⟨w.heap.size + 1 + 1, 3, none⟩ = some (.int .u16 0) := j2.c 3
  have q4 : W6.cell? ⟨w.heap.size + 1 + 1, 4, none⟩ = some (.int .u16 0) := j2.c 4
  have q5 : W6.cell? ⟨w.heap.size + 1 + 1, 5, none⟩ = some (.int .u16 0) := j2.c 5
  have q6 : W6.cell? ⟨w.heap.size + 1 + 1, 6, none⟩ = some (.int .u16 0) := j2.c 6
  have q7 : W6.cell? ⟨w.heap.size + 1 + 1, 7, none⟩ = some (.int .u16 0) := j2.c 7
  have q8 : W6.cell? ⟨w.heap.size + 1 + 1, 8, none⟩ = some (.int .u16 0) := j2.c 8
  have u0 : W6.cell? ⟨w.heap.size + 1 + 1 + 1, 0, none⟩ = some (.int .u8 0) := j3.c 0
  have u1 : W6.cell? ⟨w.heap.size + 1 + 1 + 1, 1, none⟩ = some (.int .u16 0) := j3.c 1
  have u2 : W6.cell? ⟨w.heap.size + 1 + 1 + 1, 2, none⟩ = some (.int .u16 0) := j3.c 2
  have u3 : W6.cell? ⟨w.heap.size + 1 + 1 + 1, 3, none⟩ = some (.int .u8 0) := j3.c 3
  have u4 : W6.cell? ⟨w.heap.size + 1 + 1 + 1, 4, none⟩ = some (.int .i64 0) := j3.c 4
  have v0 : W6.cell? ⟨B5, 0, none⟩ = some (.int .u16 (addV pc 4)) := j5.c 0
  have v1 : W6.cell? ⟨B5, 1, none⟩ = some (.int .u16 (r 0)) := j5.c 1
  have v2 : W6.cell? ⟨B5, 2, none⟩ = some (.int .u16 (r 1)) := j5.c 2
  have v3 : W6.cell? ⟨B5, 3, none⟩ = some (.int .u16 (r 2)) := j5.c 3
  have v4 : W6.cell? ⟨B5, 4, none⟩ = some (.int .u16 (r 3)) := j5.c 4
  have v5 : W6.cell? ⟨B5, 5, none⟩ = some (.int .u16 (r 4)) := j5.c 5
  have v6 : W6.cell? ⟨B5, 6, none⟩ = some (.int .u16 (r 5)) := j5.c 6
  have v7 : W6.cell? ⟨B5, 7, none⟩ = some (.int .u16 (r 6)) := j5.c 7
  have v8 : W6.cell? ⟨B5, 8, none⟩ = some (.int .u16 (r 7)) := j5.c 8
  have f2 := j2.f
  have f3 := j3.f
  have f5 := j5.f
  have e0 : ¬ w.heap.size = B5 := by omega
  have e2 : ¬ w.heap.size + 1 + 1 = B5 := by omega
  have e3 : ¬ w.heap.size + 1 + 1 + 1 = B5 := by omega
  have n5 : Cel (W6.setCell ⟨B5, 1 + a.toNat, none⟩ (.int .u16 (d))) B5 #[.int .u16 (addV pc 4), .int .u16 (r' 0), .int .u16 (r' 1), .int .u16 (r' 2), .int .u16 (r' 3), .int .u16 (r' 4), .int .u16 (r' 5), .int .u16 (r' 6), .int .u16 (r' 7)] 26 := by
    have h := j5.set (1 + a.toNat) (.int .u16 (d))
    rw [hs] at h
    exact h
  have va : W6.cell? ⟨B5, 1 + a.toNat, none⟩ = some (.int .u16 (r a.toNat)) := (j5.c _).trans (rg_at (addV pc 4) r a.toNat (by omega))
  have x0 : (W6.setCell ⟨B5, 1 + a.toNat, none⟩ (.int .u16 (d))).cell? ⟨B5, 0, none⟩ = some (.int .u16 (addV pc 4)) := n5.c 0
  have x1 : (W6.setCell ⟨B5, 1 + a.toNat, none⟩ (.int .u16 (d))).cell? ⟨B5, 1, none⟩ = some (.int .u16 (r' 0)) := n5.c 1
  have x2 : (W6.setCell ⟨B5, 1 + a.toNat, none⟩ (.int .u16 (d))).cell? ⟨B5, 2, none⟩ = some (.int .u16 (r' 1)) := n5.c 2
  have x3 : (W6.setCell ⟨B5, 1 + a.toNat, none⟩ (.int .u16 (d))).cell? ⟨B5, 3, none⟩ = some (.int .u16 (r' 2)) := n5.c 3
  have x4 : (W6.setCell ⟨B5, 1 + a.toNat, none⟩ (.int .u16 (d))).cell? ⟨B5, 4, none⟩ = some (.int .u16 (r' 3)) := n5.c 4
  have x5 : (W6.setCell ⟨B5, 1 + a.toNat, none⟩ (.int .u16 (d))).cell? ⟨B5, 5, none⟩ = some (.int .u16 (r' 4)) := n5.c 5
  have x6 : (W6.setCell ⟨B5, 1 + a.toNat, none⟩ (.int .u16 (d))).cell? ⟨B5, 6, none⟩ = some (.int .u16 (r' 5)) := n5.c 6
  have x7 : (W6.setCell ⟨B5, 1 + a.toNat, none⟩ (.int .u16 (d))).cell? ⟨B5, 7, none⟩ = some (.int .u16 (r' 6)) := n5.c 7
  have x8 : (W6.setCell ⟨B5, 1 + a.toNat, none⟩ (.int .u16 (d))).cell? ⟨B5, 8, none⟩ = some (.int .u16 (r' 7)) := n5.c 8
  go_wp2_with fail
  go_region_held3 (fun w' => w'.cell? ⟨w.heap.size + 1, 1, none⟩ = some (.int .u8 a) ∧ w'.cell? ⟨w.heap.size + 1, 0, none⟩ = some (.int .u8 6)) (simp [go_sem, i0, i1]) ((go_at_call 23; refine (cK _).mono ?_; rintro e w' ⟨rfl, rfl⟩))
  clear p0 p1 p2 p3 p4 p5 p6 p7 p8 i0 i1 i2 i3 q0 q1 q2 q3 q4 q5 q6 q7 q8 u0 u1 u2 u3 u4 v0 v1 v2 v3 v4 v5 v6 v7 v8 x0 x1 x2 x3 x4 x5 x6 x7 x8 va f2 f3 f5 e0 e2 e3
  replace j0 := (j0.other (c := B5) (by omega) (1 + a.toNat) (.int .u16 (d))).drew
  replace j1 := (j1.other (c := B5) (by omega) (1 + a.toNat) (.int .u16 (d))).drew
  replace j2 := (j2.other (c := B5) (by omega) (1 + a.toNat) (.int .u16 (d))).drew
  replace j3 := (j3.other (c := B5) (by omega) (1 + a.toNat) (.int .u16 (d))).drew
  replace j5 := n5.drew
  have hb7 := Below.drew (bsx hb6 (show w.heap.size ≤ B5 by omega) (1 + a.toNat) (.int .u16 (d)))
  clear hb6 n5
  generalize (W6.setCell ⟨B5, 1 + a.toNat, none⟩ (.int .u16 (d))).drew = W7 at *
  have p0 : W7.cell? ⟨w.heap.size, 0, none⟩ = some (.int .u16 pc) := j0.c 0
  have p1 : W7.cell? ⟨w.heap.size, 1, none⟩ = some (.int .u16 (r 0)) := j0.c 1
  have p2 : W7.cell? ⟨w.heap.size, 2, none⟩ = some (.int .u16 (r 1)) := j0.c 2
  have p3 : W7.cell? ⟨w.heap.size, 3, none⟩ = some (.int .u16 (r 2)) := j0.c 3
  have p4 : W7.cell? ⟨w.heap.size, 4, none⟩ = some (.int .u16 (r 3)) := j0.c 4
  have p5 : W7.cell? ⟨w.heap.size, 5, none⟩ = some (.int .u16 (r 4)) := j0.c 5
  have p6 : W7.cell? ⟨w.heap.size, 6, none⟩ = some (.int .u16 (r 5)) := j0.c 6
  have p7 : W7.cell? ⟨w.heap.size, 7, none⟩ = some (.int .u16 (r 6)) := j0.c 7
  have p8 : W7.cell? ⟨w.heap.size, 8, none⟩ = some (.int .u16 (r 7)) := j0.c 8
  have i0 : W7.cell? ⟨w.heap.size + 1, 0, none⟩ = some (.int .u8 6) := j1.c 0
  have i1 : W7.cell? ⟨w.heap.size + 1, 1, none⟩ = some (.int .u8 a) := j1.c 1
  have i2 : W7.cell? ⟨w.heap.size + 1, 2, none⟩ = some (.int .u8 b) := j1.c 2
  have i3 : W7.cell? ⟨w.heap.size + 1, 3, none⟩ = some (.int .u16 m) := j1.c 3
  have q0 : W7.cell? ⟨w.heap.size + 1 + 1, 0, none⟩ = some (.int .u16 0) := j2.c 0
  have q1 : W7.cell? ⟨w.heap.size + 1 + 1, 1, none⟩ = some (.int .u16 0) := j2.c 1
  have q2 : W7.cell? ⟨w.heap.size + 1 + 1, 2, none⟩ = some (.int .u16 0) := j2.c 2
  have q3 : W7.cell? ⟨w.heap.size + 1 + 1, 3, none⟩ = some (.int .u16 0) := j2.c 3
  have q4 : W7.cell? ⟨w.heap.size + 1 + 1, 4, none⟩ = some (.int .u16 0) := j2.c 4
  have q5 : W7.cell? ⟨w.heap.size + 1 + 1, 5, none⟩ = some (.int .u16 0) := j2.c 5
  have q6 : W7.cell? ⟨w.heap.size + 1 + 1, 6, none⟩ = some (.int .u16 0) := j2.c 6
  have q7 : W7.cell? ⟨w.heap.size + 1 + 1, 7, none⟩ = some (.int .u16 0) := j2.c 7
  have q8 : W7.cell? ⟨w.heap.size + 1 + 1, 8, none⟩ = some (.int .u16 0) := j2.c 8
  have u0 : W7.cell? ⟨w.heap.size + 1 + 1 + 1, 0, none⟩ = some (.int .u8 0) := j3.c 0
  have u1 : W7.cell? ⟨w.heap.size + 1 + 1 + 1, 1, none⟩ = some (.int .u16 0) := j3.c 1
  have u2 : W7.cell? ⟨w.heap.size + 1 + 1 + 1, 2, none⟩ = some (.int .u16 0) := j3.c 2
  have u3 : W7.cell? ⟨w.heap.size + 1 + 1 + 1, 3, none⟩ = some (.int .u8 0) := j3.c 3
  have u4 : W7.cell? ⟨w.heap.size + 1 + 1 + 1, 4, none⟩ = some (.int .i64 0) := j3.c 4
  have v0 : W7.cell? ⟨B5, 0, none⟩ = some (.int .u16 (addV pc 4)) := j5.c 0
  have v1 : W7.cell? ⟨B5, 1, none⟩ = some (.int .u16 (r' 0)) := j5.c 1
  have v2 : W7.cell? ⟨B5, 2, none⟩ = some (.int .u16 (r' 1)) := j5.c 2
  have v3 : W7.cell? ⟨B5, 3, none⟩ = some (.int .u16 (r' 2)) := j5.c 3
  have v4 : W7.cell? ⟨B5, 4, none⟩ = some (.int .u16 (r' 3)) := j5.c 4
  have v5 : W7.cell? ⟨B5, 5, none⟩ = some (.int .u16 (r' 4)) := j5.c 5
  have v6 : W7.cell? ⟨B5, 6, none⟩ = some (.int .u16 (r' 5)) := j5.c 6
  have v7 : W7.cell? ⟨B5, 7, none⟩ = some (.int .u16 (r' 6)) := j5.c 7
  have v8 : W7.cell? ⟨B5, 8, none⟩ = some (.int .u16 (r' 7)) := j5.c 8
  have f2 := j2.f
  have f3 := j3.f
  have f5 := j5.f
  have e0 : ¬ w.heap.size = B5 := by omega
  have e2 : ¬ w.heap.size + 1 + 1 = B5 := by omega
  have e3 : ¬ w.heap.size + 1 + 1 + 1 = B5 := by omega
  go_wp2_with fail
  exact bodyPost_ret (v := .tuple #[rgV (addV pc 4) r', accV (0, 0, 0, 0, 0)]) (by simp [results, Tryd.results13, go_sem, accV, rgV, q0, q1, q2, q3, q4, q5, q6, q7, q8, u0, u1, u2, u3, u4]) rfl ⟨rfl, bsx (bsx (bsx (bsx (bsx (bsx (bsx (bsx (bsx (bsx (bsx (bsx (bsx (bsx (hb7) (by omega) _ _) (by omega) _ _) (by omega) _ _) (by omega) _ _) (by omega) _ _) (by omega) _ _) (by omega) _ _) (by omega) _ _) (by omega) _ _) (by omega) _ _) (by omega) _ _) (by omega) _ _) (by omega) _ _) (by omega) _ _⟩
set_option maxHeartbeats 1500000 in
theorem rexec_8 (pc : Int) (r : Nat → Int) (a b m : Int) (w : World) (hp : Wd pc) (hr : ∀ k, Wd (r k)) (hO : InsOk 8 a b m) (hR : insR 8 a b m = true) (ha2 : a < 8) (hb2 : b < 8) :
    Calls Tryd.prog 13 #[rgV pc r, insV 8 a b m] w fun e w' => e = .returned (execV (execP pc r 8 a b m)) ∧ Below w.heap.size w w' := by
  have ha := hO.2.2.1
  have hb := hO.2.2.2.2.1
  have hm : Wd m := ⟨hO.2.2.2.2.2.2.1, hO.2.2.2.2.2.2.2⟩
  have cR := fun w => rright_any 8 a b m w (by decide) (by decide)
  rw [hR] at cR
  have cA := fun w => radd_any pc 4 w hp.1 hp.2 (by decide) (by decide)
  have cB := fun w => radd_any (r b.toNat) m w (hr _).1 (hr _).2 hm.1 hm.2
  obtain ⟨W1, hW1, k0, k2, k3, hB1, hs1⟩ := w0_cells pc r 8 a b m w
  have k1 : Cel W1 (w.heap.size + 1) #[.int .u8 8, .int .u8 a, .int .u8 b, .int .u16 m] 41 := by
    rw [hW1]
    have h := ((Cel.new (w.alloc (.cells #[.int .u16 pc, .int .u16 (r 0), .int .u16 (r 1), .int .u16 (r 2), .int .u16 (r 3), .int .u16 (r 4), .int .u16 (r 5), .int .u16 (r 6), .int .u16 (r 7)] 26)) #[.int .u8 8, .int .u8 a, .int .u8 b, .int .u16 m] 41).alloc (.cells #[.int .u16 0, .int .u16 0, .int .u16 0, .int .u16 0, .int .u16 0, .int .u16 0, .int .u16 0, .int .u16 0, .int .u16 0] 26)).alloc (.cells #[.int .u8 0, .int .u16 0, .int .u16 0, .int .u8 0, .int .i64 0] 31)
    rw [World.size_alloc] at h
    exact h
  unfold execP
  rw [hR]
  simp only [reduceCtorEq, reduceIte, Int.reduceEq, false_and, doesP, execV]
  have cK := fun w => rreck_any 8 (r a.toNat) (r b.toNat) w (hr _) (hr _) (by decide)
  simp only [reduceIte, Int.reduceEq] at cK
  have hs : #[Value.int .u16 (addV pc 4), .int .u16 (r 0), .int .u16 (r 1), .int .u16 (r 2), .int .u16 (r 3), .int .u16 (r 4), .int .u16 (r 5), .int .u16 (r 6), .int .u16 (r 7)].setIfInBounds (1 + a.toNat) (.int .u16 (recV 8 (r a.toNat) (r b.toNat))) = #[.int .u16 (addV pc 4), .int .u16 ((upd r a.toNat (recV 8 (r a.toNat) (r b.toNat))) 0), .int .u16 ((upd r a.toNat (recV 8 (r a.toNat) (r b.toNat))) 1), .int .u16 ((upd r a.toNat (recV 8 (r a.toNat) (r b.toNat))) 2), .int .u16 ((upd r a.toNat (recV 8 (r a.toNat) (r b.toNat))) 3), .int .u16 ((upd r a.toNat (recV 8 (r a.toNat) (r b.toNat))) 4), .int .u16 ((upd r a.toNat (recV 8 (r a.toNat) (r b.toNat))) 5), .int .u16 ((upd r a.toNat (recV 8 (r a.toNat) (r b.toNat))) 6), .int .u16 ((upd r a.toNat (recV 8 (r a.toNat) (r b.toNat))) 7)] := by
    have h := rg_set (addV pc 4) r (recV 8 (r a.toNat) (r b.toNat)) a.toNat (by omega)
    rw [← Array.toList_inj]
    simpa using h
  generalize hr' : upd r a.toNat (recV 8 (r a.toNat) (r b.toNat)) = r' at *
  generalize recV 8 (r a.toNat) (r b.toNat) = d at *
  unfold rgV insV
  go_enter Tryd.func13, Tryd.ntmps13
  go_wp2_with fail
  rw [← hW1]
  clear hW1
  refine (cR _).mono ?_
  rintro e W2 ⟨rfl, hB2⟩
  have j0 := k0.below hB2 (by omega)
  have j1 := k1.below hB2 (by omega)
  have j2 := k2.below hB2 (by omega)
  have j3 := k3.below hB2 (by omega)
  have hb3 := hB1.trans (hB2.mono (by omega))
  have hs2 := hB2.size
  have l0 : w.heap.size < W2.heap.size := by omega
  have l1 : w.heap.size + 1 < W2.heap.size := by omega
  have l2 : w.heap.size + 1 + 1 < W2.heap.size := by omega
  have l3 : w.heap.size + 1 + 1 + 1 < W2.heap.size := by omega
  clear k0 k1 k2 k3 hB2 hB1 cR
  have i0 : W2.cell? ⟨w.heap.size + 1, 0, none⟩ = some (.int .u8 8) := j1.c 0
  have i1 : W2.cell? ⟨w.heap.size + 1, 1, none⟩ = some (.int .u8 a) := j1.c 1
  have i2 : W2.cell? ⟨w.heap.size + 1, 2, none⟩ = some (.int .u8 b) := j1.c 2
  have i3 : W2.cell? ⟨w.heap.size + 1, 3, none⟩ = some (.int .u16 m) := j1.c 3
  have ga : W2.cell? ⟨w.heap.size, 1 + a.toNat, none⟩ = some (.int .u16 (r a.toNat)) := (j0.c _).trans (rg_at pc r a.toNat (by omega))
  have gb : W2.cell? ⟨w.heap.size, 1 + b.toNat, none⟩ = some (.int .u16 (r b.toNat)) := (j0.c _).trans (rg_at pc r b.toNat (by omega))
  go_wp2_with fail
  refine still_all (by kernel_rfl) (by kernel_rfl) ?_
  still_step
  still_step
  still_step
  still_step
  still_step
  still_step
  still_step
  still_step
  still_step
  still_step
  still_step
  still_step
  refine wpStill_nil ?_
  clear i0 i1 i2 i3 ga gb
  have hb4 := Below.drew hb3
  replace l0 : w.heap.size < W2.drew.heap.size := l0
  replace l1 : w.heap.size + 1 < W2.drew.heap.size := l1
  replace l2 : w.heap.size + 1 + 1 < W2.drew.heap.size := l2
  replace l3 : w.heap.size + 1 + 1 + 1 < W2.drew.heap.size := l3
  replace j0 := j0.drew
  replace j1 := j1.drew
  replace j2 := j2.drew
  replace j3 := j3.drew
  clear hb3 hs2
  generalize W2.drew = W3 at *
  have p0 : W3.cell? ⟨w.heap.size, 0, none⟩ = some (.int .u16 pc) := j0.c 0
  have p1 : W3.cell? ⟨w.heap.size, 1, none⟩ = some (.int .u16 (r 0)) := j0.c 1
  have p2 : W3.cell? ⟨w.heap.size, 2, none⟩ = some (.int .u16 (r 1)) := j0.c 2
  have p3 : W3.cell? ⟨w.heap.size, 3, none⟩ = some (.int .u16 (r 2)) := j0.c 3
  have p4 : W3.cell? ⟨w.heap.size, 4, none⟩ = some (.int .u16 (r 3)) := j0.c 4
  have p5 : W3.cell? ⟨w.heap.size, 5, none⟩ = some (.int .u16 (r 4)) := j0.c 5
  have p6 : W3.cell? ⟨w.heap.size, 6, none⟩ = some (.int .u16 (r 5)) := j0.c 6
  have p7 : W3.cell? ⟨w.heap.size, 7, none⟩ = some (.int .u16 (r 6)) := j0.c 7
  have p8 : W3.cell? ⟨w.heap.size, 8, none⟩ = some (.int .u16 (r 7)) := j0.c 8
  go_wp2_with fail
  clear p0 p1 p2 p3 p4 p5 p6 p7 p8
  have hb5 := nx hb4 (.cells #[.int .u16 pc, .int .u16 (r 0), .int .u16 (r 1), .int .u16 (r 2), .int .u16 (r 3), .int .u16 (r 4), .int .u16 (r 5), .int .u16 (r 6), .int .u16 (r 7)] 26)
  replace j0 := j0.alloc (.cells #[.int .u16 pc, .int .u16 (r 0), .int .u16 (r 1), .int .u16 (r 2), .int .u16 (r 3), .int .u16 (r 4), .int .u16 (r 5), .int .u16 (r 6), .int .u16 (r 7)] 26)
  replace j1 := j1.alloc (.cells #[.int .u16 pc, .int .u16 (r 0), .int .u16 (r 1), .int .u16 (r 2), .int .u16 (r 3), .int .u16 (r 4), .int .u16 (r 5), .int .u16 (r 6), .int .u16 (r 7)] 26)
  replace j2 := j2.alloc (.cells #[.int .u16 pc, .int .u16 (r 0), .int .u16 (r 1), .int .u16 (r 2), .int .u16 (r 3), .int .u16 (r 4), .int .u16 (r 5), .int .u16 (r 6), .int .u16 (r 7)] 26)
  replace j3 := j3.alloc (.cells #[.int .u16 pc, .int .u16 (r 0), .int .u16 (r 1), .int .u16 (r 2), .int .u16 (r 3), .int .u16 (r 4), .int .u16 (r 5), .int .u16 (r 6), .int .u16 (r 7)] 26)
  have j5 := Cel.new W3 #[.int .u16 pc, .int .u16 (r 0), .int .u16 (r 1), .int .u16 (r 2), .int .u16 (r 3), .int .u16 (r 4), .int .u16 (r 5), .int .u16 (r 6), .int .u16 (r 7)] 26
  clear hb4 l0 l1 l2
  generalize (W3.alloc (.cells #[.int .u16 pc, .int .u16 (r 0), .int .u16 (r 1), .int .u16 (r 2), .int .u16 (r 3), .int .u16 (r 4), .int .u16 (r 5), .int .u16 (r 6), .int .u16 (r 7)] 26)) = W5 at *
  generalize W3.heap.size = B5 at *
  refine (cA _).mono ?_
  rintro e W4 ⟨rfl, h4⟩
  rw [h4]
  clear h4
  have i0 : W5.cell? ⟨w.heap.size + 1, 0, none⟩ = some (.int .u8 8) := j1.c 0
  have i1 : W5.cell? ⟨w.heap.size + 1, 1, none⟩ = some (.int .u8 a) := j1.c 1
  have i2 : W5.cell? ⟨w.heap.size + 1, 2, none⟩ = some (.int .u8 b) := j1.c 2
  have i3 : W5.cell? ⟨w.heap.size + 1, 3, none⟩ = some (.int .u16 m) := j1.c 3
  have v0 : W5.cell? ⟨B5, 0, none⟩ = some (.int .u16 pc) := j5.c 0
  have f5 := j5.f
  have ne1 : ¬ w.heap.size + 1 = B5 := by omega
  go_wp2_with fail
  clear i0 i1 i2 i3 v0 f5
  have hb6 := bsx hb5 (show w.heap.size ≤ B5 by omega) 0 (.int .u16 (addV pc 4))
  replace j0 := j0.other (c := B5) (by omega) 0 (.int .u16 (addV pc 4))
  replace j1 := j1.other (c := B5) (by omega) 0 (.int .u16 (addV pc 4))
  replace j2 := j2.other (c := B5) (by omega) 0 (.int .u16 (addV pc 4))
  replace j3 := j3.other (c := B5) (by omega) 0 (.int .u16 (addV pc 4))
  replace j5 : Cel _ B5 #[.int .u16 (addV pc 4), .int .u16 (r 0), .int .u16 (r 1), .int .u16 (r 2), .int .u16 (r 3), .int .u16 (r 4), .int .u16 (r 5), .int .u16 (r 6), .int .u16 (r 7)] 26 := j5.set 0 (.int .u16 (addV pc 4))
  clear hb5
  generalize W5.setCell ⟨B5, 0, none⟩ (.int .u16 (addV pc 4)) = W6 at *
  refine (cB _).mono ?_
  rintro e W4 ⟨rfl, h4⟩
  rw [h4]
  clear h4
  have p0 : W6.cell? ⟨w.heap.size, 0, none⟩ = some (.int .u16 pc) := j0.c 0
  have p1 : W6.cell? ⟨w.heap.size, 1, none⟩ = some (.int .u16 (r 0)) := j0.c 1
  have p2 : W6.cell? ⟨w.heap.size, 2, none⟩ = some (.int .u16 (r 1)) := j0.c 2
  have p3 : W6.cell? ⟨w.heap.size, 3, none⟩ = some (.int .u16 (r 2)) := j0.c 3
  have p4 : W6.cell? ⟨w.heap.size, 4, none⟩ = some (.int .u16 (r 3)) := j0.c 4
  have p5 : W6.cell? ⟨w.heap.size, 5, none⟩ = some (.int .u16 (r 4)) := j0.c 5
  have p6 : W6.cell? ⟨w.heap.size, 6, none⟩ = some (.int .u16 (r 5)) := j0.c 6
  have p7 : W6.cell? ⟨w.heap.size, 7, none⟩ = some (.int .u16 (r 6)) := j0.c 7
  have p8 : W6.cell? ⟨w.heap.size, 8, none⟩ = some (.int .u16 (r 7)) := j0.c 8
  have i0 : W6.cell? ⟨w.heap.size + 1, 0, none⟩ = some (.int .u8 8) := j1.c 0
  have i1 : W6.cell? ⟨w.heap.size + 1, 1, none⟩ = some (.int .u8 a) := j1.c 1
  have i2 : W6.cell? ⟨w.heap.size + 1, 2, none⟩ = some (.int .u8 b) := j1.c 2
  have i3 : W6.cell? ⟨w.heap.size + 1, 3, none⟩ = some (.int .u16 m) := j1.c 3
  have q0 : W6.cell? ⟨w.heap.size + 1 + 1, 0, none⟩ = some (.int .u16 0) := j2.c 0
  have q1 : W6.cell? ⟨w.heap.size + 1 + 1, 1, none⟩ = some (.int .u16 0) := j2.c 1
  have q2 : W6.cell? ⟨w.heap.size + 1 + 1, 2, none⟩ = some (.int .u16 0) := j2.c 2
  have q3 : W6.cell? ⟨w.heap.size + 1 + 1, 3, none⟩ = some (.int .u16 0) := j2.c 3
  have q4 : W6.cell? ⟨w.heap.size + 1 + 1, 4, none⟩ = some (.int .u16 0) := j2.c 4
  have q5 : W6.cell? ⟨w.heap.size + 1 + 1, 5, none⟩ = some (.int .u16 0) := j2.c 5
  have q6 : W6.cell? ⟨w.heap.size + 1 + 1, 6, none⟩ = some (.int .u16 0) := j2.c 6
  have q7 : W6.cell? ⟨w.heap.size + 1 + 1, 7, none⟩ = some (.int .u16 0) := j2.c 7
  have q8 : W6.cell? ⟨w.heap.size + 1 + 1, 8, none⟩ = some (.int .u16 0) := j2.c 8
  have u0 : W6.cell? ⟨w.heap.size + 1 + 1 + 1, 0, none⟩ = some (.int .u8 0) := j3.c 0
  have u1 : W6.cell? ⟨w.heap.size + 1 + 1 + 1, 1, none⟩ = some (.int .u16 0) := j3.c 1
  have u2 : W6.cell? ⟨w.heap.size + 1 + 1 + 1, 2, none⟩ = some (.int .u16 0) := j3.c 2
  have u3 : W6.cell? ⟨w.heap.size + 1 + 1 + 1, 3, none⟩ = some (.int .u8 0) := j3.c 3
  have u4 : W6.cell? ⟨w.heap.size + 1 + 1 + 1, 4, none⟩ = some (.int .i64 0) := j3.c 4
  have v0 : W6.cell? ⟨B5, 0, none⟩ = some (.int .u16 (addV pc 4)) := j5.c 0
  have v1 : W6.cell? ⟨B5, 1, none⟩ = some (.int .u16 (r 0)) := j5.c 1
  have v2 : W6.cell? ⟨B5, 2, none⟩ = some (.int .u16 (r 1)) := j5.c 2
  have v3 : W6.cell? ⟨B5, 3, none⟩ = some (.int .u16 (r 2)) := j5.c 3
  have v4 : W6.cell? ⟨B5, 4, none⟩ = some (.int .u16 (r 3)) := j5.c 4
  have v5 : W6.cell? ⟨B5, 5, none⟩ = some (.int .u16 (r 4)) := j5.c 5
  have v6 : W6.cell? ⟨B5, 6, none⟩ = some (.int .u16 (r 5)) := j5.c 6
  have v7 : W6.cell? ⟨B5, 7, none⟩ = some (.int .u16 (r 6)) := j5.c 7
  have v8 : W6.cell? ⟨B5, 8, none⟩ = some (.int .u16 (r 7)) := j5.c 8
  have f2 := j2.f
  have f3 := j3.f
  have f5 := j5.f
  have e0 : ¬ w.heap.size = B5 := by omega
  have e2 : ¬ w.heap.size + 1 + 1 = B5 := by omega
  have e3 : ¬ w.heap.size + 1 + 1 + 1 = B5 := by omega
  have n5 : Cel (W6.setCell ⟨B5, 1 + a.toNat, none⟩ (.int .u16 (d))) B5 #[.int .u16 (addV pc 4), .int .u16 (r' 0), .int .u16 (r' 1), .int .u16 (r' 2), .int .u16 (r' 3), .int .u16 (r' 4), .int .u16 (r' 5), .int .u16 (r' 6), .int .u16 (r' 7)] 26 := by
    have h := j5.set (1 + a.toNat) (.int .u16 (d))
    rw [hs] at h
    exact h
  have va : W6.cell? ⟨B5, 1 + a.toNat, none⟩ = some (.int .u16 (r a.toNat)) := (j5.c _).trans (rg_at (addV pc 4) r a.toNat (by omega))
  have x0 : (W6.setCell ⟨B5, 1 + a.toNat, none⟩ (.int .u16 (d))).cell? ⟨B5, 0, none⟩ = some (.int .u16 (addV pc 4)) := n5.c 0
  have x1 : (W6.setCell ⟨B5, 1 + a.toNat, none⟩ (.int .u16 (d))).cell? ⟨B5, 1, none⟩ = some (.int .u16 (r' 0)) := n5.c 1
  have x2 : (W6.setCell ⟨B5, 1 + a.toNat, none⟩ (.int .u16 (d))).cell? ⟨B5, 2, none⟩ = some (.int .u16 (r' 1)) := n5.c 2
  have x3 : (W6.setCell ⟨B5, 1 + a.toNat, none⟩ (.int .u16 (d))).cell? ⟨B5, 3, none⟩ = some (.int .u16 (r' 2)) := n5.c 3
  have x4 : (W6.setCell ⟨B5, 1 + a.toNat, none⟩ (.int .u16 (d))).cell? ⟨B5, 4, none⟩ = some (.int .u16 (r' 3)) := n5.c 4
  have x5 : (W6.setCell ⟨B5, 1 + a.toNat, none⟩ (.int .u16 (d))).cell? ⟨B5, 5, none⟩ = some (.int .u16 (r' 4)) := n5.c 5
  have x6 : (W6.setCell ⟨B5, 1 + a.toNat, none⟩ (.int .u16 (d))).cell? ⟨B5, 6, none⟩ = some (.int .u16 (r' 5)) := n5.c 6
  have x7 : (W6.setCell ⟨B5, 1 + a.toNat, none⟩ (.int .u16 (d))).cell? ⟨B5, 7, none⟩ = some (.int .u16 (r' 6)) := n5.c 7
  have x8 : (W6.setCell ⟨B5, 1 + a.toNat, none⟩ (.int .u16 (d))).cell? ⟨B5, 8, none⟩ = some (.int .u16 (r' 7)) := n5.c 8
  go_wp2_with fail
  go_region_held3 (fun w' => w'.cell? ⟨w.heap.size + 1, 1, none⟩ = some (.int .u8 a) ∧ w'.cell? ⟨w.heap.size + 1, 0, none⟩ = some (.int .u8 8)) (simp [go_sem, i0, i1]) ((go_at_call 23; refine (cK _).mono ?_; rintro e w' ⟨rfl, rfl⟩))
  clear p0 p1 p2 p3 p4 p5 p6 p7 p8 i0 i1 i2 i3 q0 q1 q2 q3 q4 q5 q6 q7 q8 u0 u1 u2 u3 u4 v0 v1 v2 v3 v4 v5 v6 v7 v8 x0 x1 x2 x3 x4 x5 x6 x7 x8 va f2 f3 f5 e0 e2 e3
  replace j0 := (j0.other (c := B5) (by omega) (1 + a.toNat) (.int .u16 (d))).drew
  replace j1 := (j1.other (c := B5) (by omega) (1 + a.toNat) (.int .u16 (d))).drew
  replace j2 := (j2.other (c := B5) (by omega) (1 + a.toNat) (.int .u16 (d))).drew
  replace j3 := (j3.other (c := B5) (by omega) (1 + a.toNat) (.int .u16 (d))).drew
  replace j5 := n5.drew
  have hb7 := Below.drew (bsx hb6 (show w.heap.size ≤ B5 by omega) (1 + a.toNat) (.int .u16 (d)))
  clear hb6 n5
  generalize (W6.setCell ⟨B5, 1 + a.toNat, none⟩ (.int .u16 (d))).drew = W7 at *
  have p0 : W7.cell? ⟨w.heap.size, 0, none⟩ = some (.int .u16 pc) := j0.c 0
  have p1 : W7.cell? ⟨w.heap.size, 1, none⟩ = some (.int .u16 (r 0)) := j0.c 1
  have p2 : W7.cell? ⟨w.heap.size, 2, none⟩ = some (.int .u16 (r 1)) := j0.c 2
  have p3 : W7.cell? ⟨w.heap.size, 3, none⟩ = some (.int .u16 (r 2)) := j0.c 3
  have p4 : W7.cell? ⟨w.heap.size, 4, none⟩ = some (.int .u16 (r 3)) := j0.c 4
  have p5 : W7.cell? ⟨w.heap.size, 5, none⟩ = some (.int .u16 (r 4)) := j0.c 5
  have p6 : W7.cell? ⟨w.heap.size, 6, none⟩ = some (.int .u16 (r 5)) := j0.c 6
  have p7 : W7.cell? ⟨w.heap.size, 7, none⟩ = some (.int .u16 (r 6)) := j0.c 7
  have p8 : W7.cell? ⟨w.heap.size, 8, none⟩ = some (.int .u16 (r 7)) := j0.c 8
  have i0 : W7.cell? ⟨w.heap.size + 1, 0, none⟩ = some (.int .u8 8) := j1.c 0
  have i1 : W7.cell? ⟨w.heap.size + 1, 1, none⟩ = some (.int .u8 a) := j1.c 1
  have i2 : W7.cell? ⟨w.heap.size + 1, 2, none⟩ = some (.int .u8 b) := j1.c 2
  have i3 : W7.cell? ⟨w.heap.size + 1, 3, none⟩ = some (.int .u16 m) := j1.c 3
  have q0 : W7.cell? ⟨w.heap.size + 1 + 1, 0, none⟩ = some (.int .u16 0) := j2.c 0
  have q1 : W7.cell? ⟨w.heap.size + 1 + 1, 1, none⟩ = some (.int .u16 0) := j2.c 1
  have q2 : W7.cell? ⟨w.heap.size + 1 + 1, 2, none⟩ = some (.int .u16 0) := j2.c 2
  have q3 : W7.cell? ⟨w.heap.size + 1 + 1, 3, none⟩ = some (.int .u16 0) := j2.c 3
  have q4 : W7.cell? ⟨w.heap.size + 1 + 1, 4, none⟩ = some (.int .u16 0) := j2.c 4
  have q5 : W7.cell? ⟨w.heap.size + 1 + 1, 5, none⟩ = some (.int .u16 0) := j2.c 5
  have q6 : W7.cell? ⟨w.heap.size + 1 + 1, 6, none⟩ = some (.int .u16 0) := j2.c 6
  have q7 : W7.cell? ⟨w.heap.size + 1 + 1, 7, none⟩ = some (.int .u16 0) := j2.c 7
  have q8 : W7.cell? ⟨w.heap.size + 1 + 1, 8, none⟩ = some (.int .u16 0) := j2.c 8
  have u0 : W7.cell? ⟨w.heap.size + 1 + 1 + 1, 0, none⟩ = some (.int .u8 0) := j3.c 0
  have u1 : W7.cell? ⟨w.heap.size + 1 + 1 + 1, 1, none⟩ = some (.int .u16 0) := j3.c 1
  have u2 : W7.cell? ⟨w.heap.size + 1 + 1 + 1, 2, none⟩ = some (.int .u16 0) := j3.c 2
  have u3 : W7.cell? ⟨w.heap.size + 1 + 1 + 1, 3, none⟩ = some (.int .u8 0) := j3.c 3
  have u4 : W7.cell? ⟨w.heap.size + 1 + 1 + 1, 4, none⟩ = some (.int .i64 0) := j3.c 4
  have v0 : W7.cell? ⟨B5, 0, none⟩ = some (.int .u16 (addV pc 4)) := j5.c 0
  have v1 : W7.cell? ⟨B5, 1, none⟩ = some (.int .u16 (r' 0)) := j5.c 1
  have v2 : W7.cell? ⟨B5, 2, none⟩ = some (.int .u16 (r' 1)) := j5.c 2
  have v3 : W7.cell? ⟨B5, 3, none⟩ = some (.int .u16 (r' 2)) := j5.c 3
  have v4 : W7.cell? ⟨B5, 4, none⟩ = some (.int .u16 (r' 3)) := j5.c 4
  have v5 : W7.cell? ⟨B5, 5, none⟩ = some (.int .u16 (r' 4)) := j5.c 5
  have v6 : W7.cell? ⟨B5, 6, none⟩ = some (.int .u16 (r' 5)) := j5.c 6
  have v7 : W7.cell? ⟨B5, 7, none⟩ = some (.int .u16 (r' 6)) := j5.c 7
  have v8 : W7.cell? ⟨B5, 8, none⟩ = some (.int .u16 (r' 7)) := j5.c 8
  have f2 := j2.f
  have f3 := j3.f
  have f5 := j5.f
  have e0 : ¬ w.heap.size = B5 := by omega
  have e2 : ¬ w.heap.size + 1 + 1 = B5 := by omega
  have e3 : ¬ w.heap.size + 1 + 1 + 1 = B5 := by omega
  go_wp2_with fail
  exact bodyPost_ret (v := .tuple #[rgV (addV pc 4) r', accV (0, 0, 0, 0, 0)]) (by simp [results, Tryd.results13, go_sem, accV, rgV, q0, q1, q2, q3, q4, q5, q6, q7, q8, u0, u1, u2, u3, u4]) rfl ⟨rfl, bsx (bsx (bsx (bsx (bsx (bsx (bsx (bsx (bsx (bsx (bsx (bsx (bsx (bsx (hb7) (by omega) _ _) (by omega) _ _) (by omega) _ _) (by omega) _ _) (by omega) _ _) (by omega) _ _) (by omega) _ _) (by omega) _ _) (by omega) _ _) (by omega) _ _) (by omega) _ _) (by omega) _ _) (by omega) _ _) (by omega) _ _⟩
end Go.Proofs.YtfdkkkjelalbjaaDoor
