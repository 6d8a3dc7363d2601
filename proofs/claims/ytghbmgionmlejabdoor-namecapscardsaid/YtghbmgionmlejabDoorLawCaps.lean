/- NameCaps: whether a capability is right, what it opens, what is made of it, or the errors: as the document says. -/
import Derived.Test.YtghbmgionmlejabDoorRefU
import Derived.Lib.QuietBelow
namespace Go.Proofs.YtghbmgionmlejabDoor
open Go.RowKit Go.Shelf Go.Sort
set_option linter.unusedVariables false

theorem eqGuardC : Tryd.prog.eqGuardType Tryd.prog.depth 50 = false := by kernel_rfl
theorem eqCap (w : World) (n : ByteArray) (r : Int) : (Op.equalIn 10000 50 (.agg #[.string n, .int .u8 r]) (.agg #[.string n, .int .u8 r])).run Tryd.prog w = .ok true w := by
  show (Op.equalIn (9998 + 1 + 1) 50 _ _).run Tryd.prog w = _
  rw [Op.equalIn]
  simp only [Sem.run_bind, run_underlying Tryd.underlying50, Result.andThen_ok]
  simp [go_sem]

set_option maxHeartbeats 8000000 in
theorem caps_walk (n0 : ByteArray) (r0 : BitVec 8) (n1 : ByteArray) (q : BitVec 8) (x : BitVec 8) (W : World) (hT : NTabs W) :
    Calls Tryd.prog 7 #[capV n0 r0.toNat, capV n1 q.toNat, .int .u8 x.toNat] W fun e W' => e = .returned (.bool true) ∧ Below W.heap.size W W' := by
  have c0 := fun w => short_any n0 w
  have c1 := fun w => short_any n1 w
  have s0 := shortS_size n0
  have s1 := shortS_size n1
  generalize shortS n0 = m0 at *
  generalize shortS n1 = m1 at *
  have cRs := fun w => restrict_any m0 r0 x w (by omega)
  have cRt := fun w hT => rrestrict_any m0 r0 x w (by omega) hT
  have cDr := fun w => derive_any m0 m1 r0 w (by omega) (by omega)
  have cDt := fun w hT => rderive_any m0 m1 r0 w (by omega) (by omega) hT
  have cV := fun w => live2_any w
  have cR := fun w => right_any m0 r0.toNat w (by omega)
  have cRr := fun w hT => rright_any m0 r0.toNat w (by omega) hT
  have cO := fun w => opens_any m0 m1 r0 q w (by omega) (by omega)
  have cOr := fun w hT => ropens_any m0 m1 r0 q w (by omega) (by omega) hT
  obtain ⟨a1, a2, e1, hA⟩ : ∃ a1 a2 e1, restrictO m0.data.toList r0 x = (a1, a2, e1) := ⟨_, _, _, rfl⟩
  obtain ⟨b1, b2, f1, hD⟩ : ∃ b1 b2 f1, deriveO m0.data.toList r0 m1.data.toList = (b1, b2, f1) := ⟨_, _, _, rfl⟩
  rw [hA] at cRs cRt
  rw [hD] at cDr cDt
  clear hA hD
  unfold capsV at cRs cRt cDr cDt
  unfold capV at *
  simp only at cRs cRt cDr cDt
  generalize opensB m0.data.toList r0 m1.data.toList q = OC at *
  generalize rightB m0.data.toList r0.toNat = RC at *
  generalize ((r0.toNat : Nat) : Int) = y0 at *
  generalize ((q.toNat : Nat) : Int) = y1 at *
  generalize ((x.toNat : Nat) : Int) = y2 at *
  generalize ((a2.toNat : Nat) : Int) = y3 at *
  generalize ((b2.toNat : Nat) : Int) = y4 at *
  generalize (⟨a1.toArray⟩ : ByteArray) = A1 at *
  generalize (⟨b1.toArray⟩ : ByteArray) = B1 at *
  go_enter Tryd.func7, Tryd.ntmps7
  go_wp2_with fail
  have t0 := (Two.new W 50 (.string n0) (.int .u8 y0)).alloc (.cells #[.string n1, .int .u8 y1] 50)
  have t1 := Two.new (W.alloc (.cells #[.string n0, .int .u8 y0] 50)) 50 (.string n1) (.int .u8 y1)
  simp only [World.size_alloc] at t1
  have hB0 : Below W.heap.size W ((W.alloc (.cells #[.string n0, .int .u8 y0] 50)).alloc (.cells #[.string n1, .int .u8 y1] 50)) := ((Below.refl _ W).alloc (Nat.le_refl _) _).alloc (by simp) _
  have hsz : ((W.alloc (.cells #[.string n0, .int .u8 y0] 50)).alloc (.cells #[.string n1, .int .u8 y1] 50)).heap.size = W.heap.size + 1 + 1 := by simp
  generalize ((W.alloc (.cells #[.string n0, .int .u8 y0] 50)).alloc (.cells #[.string n1, .int .u8 y1] 50)) = W1 at *
  have a0 := t0.c0
  have a1 := t1.c0
  have f0 := t0.f 0
  have f2 := t1.f 0
  have e0 := t0.c1
  have e2 := t1.c1
  refine wp_region_still_tail 7 (by kernel_rfl) (by kernel_rfl) ?_
  simp only [List.take_succ_cons, List.take_zero, List.drop_succ_cons, List.drop_zero]
  still_step
  still_step
  still_call (c0 _)
  still_step
  still_step
  still_call (c1 _)
  still_step
  refine wpStill_nil ?_
  go_wp2_with fail
  have u0 := ((t0.set0 (.string m0)).other (c := W.heap.size + 1) (by omega) 0 (.string m1)).drew
  have u1 := ((t1.other (c := W.heap.size) (by omega) 0 (.string m0)).set0 (.string m1)).drew
  have hB1 : Below W.heap.size W ((W1.setCell ⟨W.heap.size, 0, none⟩ (.string m0)).setCell ⟨W.heap.size + 1, 0, none⟩ (.string m1)).drew := ((hB0.setCell (p := ⟨W.heap.size, 0, none⟩) (Nat.le_refl _) _).setCell (p := ⟨W.heap.size + 1, 0, none⟩) (by show W.heap.size ≤ W.heap.size + 1; omega) _).drew
  have hs2 : W.heap.size + 1 + 1 ≤ ((W1.setCell ⟨W.heap.size, 0, none⟩ (.string m0)).setCell ⟨W.heap.size + 1, 0, none⟩ (.string m1)).drew.heap.size := by simp [World.setCell, World.drew, hsz]
  generalize ((W1.setCell ⟨W.heap.size, 0, none⟩ (.string m0)).setCell ⟨W.heap.size + 1, 0, none⟩ (.string m1)).drew = W2 at *
  clear a0 a1 f0 f2 e0 e2 t0 t1 hB0 hsz c0 c1
  refine (cRs W2).mono ?_
  rintro e W3 ⟨rfl, hB3⟩
  have hs3 := hB3.size
  have v0 := u0.below hB3 (by omega)
  have v1 := u1.below hB3 (by omega)
  have hB3' := hB1.trans (hB3.mono (by omega))
  clear u0 u1 hB1
  have p0 := v0.alloc (.cells #[.string A1, .int .u8 y3] 50)
  have p1 := v1.alloc (.cells #[.string A1, .int .u8 y3] 50)
  have pA := Two.new W3 50 (.string A1) (.int .u8 y3)
  have hB4 := hB3'.alloc hB3'.size (.cells #[.string A1, .int .u8 y3] 50)
  have hs4 : (W3.alloc (.cells #[.string A1, .int .u8 y3] 50)).heap.size = W3.heap.size + 1 := by simp
  have w0 := p0.c0
  have w1 := p0.c1
  clear v0 v1
  go_wp2_with fail
  generalize W3.alloc (.cells #[.string A1, .int .u8 y3] 50) = W4 at *
  refine (cRt W4 (hT.later hB4)).mono ?_
  rintro e W5 ⟨rfl, hB5⟩
  have hs5 := hB5.size
  have q0 := (p0.below hB5 (by omega)).alloc (.cells #[.string A1, .int .u8 y3] 50)
  have q1 := (p1.below hB5 (by omega)).alloc (.cells #[.string A1, .int .u8 y3] 50)
  have qA := (pA.below hB5 (by omega)).alloc (.cells #[.string A1, .int .u8 y3] 50)
  have qB := Two.new W5 50 (.string A1) (.int .u8 y3)
  have hB6 := (hB4.trans (hB5.mono (by omega))).alloc (by omega) (.cells #[.string A1, .int .u8 y3] 50)
  have hs6 : (W5.alloc (.cells #[.string A1, .int .u8 y3] 50)).heap.size = W5.heap.size + 1 := by simp
  clear w0 w1 p0 p1 pA hB4
  have i0 := q0.c0
  have i1 := q0.c1
  have i2 := q1.c0
  have i3 := q1.c1
  go_wp2_with fail
  clear i0 i1 i2 i3
  generalize W5.alloc (.cells #[.string A1, .int .u8 y3] 50) = W6 at *
  refine (cDr W6).mono ?_
  rintro e W7 ⟨rfl, hB7⟩
  have hs7 := hB7.size
  have p0 := (q0.below hB7 (by omega)).alloc (.cells #[.string B1, .int .u8 y4] 50)
  have p1 := (q1.below hB7 (by omega)).alloc (.cells #[.string B1, .int .u8 y4] 50)
  have pA := (qA.below hB7 (by omega)).alloc (.cells #[.string B1, .int .u8 y4] 50)
  have pB := (qB.below hB7 (by omega)).alloc (.cells #[.string B1, .int .u8 y4] 50)
  have pC := Two.new W7 50 (.string B1) (.int .u8 y4)
  have hB8 := (hB6.trans (hB7.mono (by omega))).alloc (by omega) (.cells #[.string B1, .int .u8 y4] 50)
  have hs8 : (W7.alloc (.cells #[.string B1, .int .u8 y4] 50)).heap.size = W7.heap.size + 1 := by simp
  clear q0 q1 qA qB hB6
  have i0 := p0.c0
  have i1 := p0.c1
  have i2 := p1.c0
  have i3 := p1.c1
  go_wp2_with fail
  clear i0 i1 i2 i3
  generalize W7.alloc (.cells #[.string B1, .int .u8 y4] 50) = W8 at *
  refine (cDt W8 (hT.later hB8)).mono ?_
  rintro e W9 ⟨rfl, hB9⟩
  have hs9 := hB9.size
  have q0 := (p0.below hB9 (by omega)).alloc (.cells #[.string B1, .int .u8 y4] 50)
  have q1 := (p1.below hB9 (by omega)).alloc (.cells #[.string B1, .int .u8 y4] 50)
  have qA := (pA.below hB9 (by omega)).alloc (.cells #[.string B1, .int .u8 y4] 50)
  have qB := (pB.below hB9 (by omega)).alloc (.cells #[.string B1, .int .u8 y4] 50)
  have qC := (pC.below hB9 (by omega)).alloc (.cells #[.string B1, .int .u8 y4] 50)
  have qD := Two.new W9 50 (.string B1) (.int .u8 y4)
  have hBx := (hB8.trans (hB9.mono (by omega))).alloc (by omega) (.cells #[.string B1, .int .u8 y4] 50)
  clear p0 p1 pA pB pC hB8
  go_wp2_with fail
  generalize W9.alloc (.cells #[.string B1, .int .u8 y4] 50) = X at *
  have hTX := hT.later hBx
  have g0 := fun d os => cell_regrown q0.c0 d os
  have g1 := fun d os => cell_regrown q0.c1 d os
  have g2 := fun d os => cell_regrown q1.c0 d os
  have g3 := fun d os => cell_regrown q1.c1 d os
  have g4 := fun d os => cell_regrown qA.c0 d os
  have g5 := fun d os => cell_regrown qA.c1 d os
  have g6 := fun d os => cell_regrown qB.c0 d os
  have g7 := fun d os => cell_regrown qB.c1 d os
  have g8 := fun d os => cell_regrown qC.c0 d os
  have g9 := fun d os => cell_regrown qC.c1 d os
  have ga := fun d os => cell_regrown qD.c0 d os
  have gb := fun d os => cell_regrown qD.c1 d os
  have dV := fun d os => Calls.regrown_of (cV (grow (redrawn X d) os))
  have dR := fun d os => Calls.regrown_of (cR (grow (redrawn X d) os))
  have dRr := fun d os => Calls.regrown_of (cRr (grow (redrawn X d) os) (hTX.later (below_regrown X d os)))
  have dO := fun d os => Calls.regrown_of (cO (grow (redrawn X d) os))
  have dOr := fun d os => Calls.regrown_of (cOr (grow (redrawn X d) os) (hTX.later (below_regrown X d os)))
  have eC := eqCap
  have eG := eqGuardC
  clear cRs cRt cDr cDt cV cR cRr cO cOr hT hTX q0 q1 qA qB qC qD
  refine wp_region_quiet_below (by kernel_rfl) (by kernel_rfl) ?_
  repeat (quiet_step (first | exact dV _ _ | exact dR _ _ | exact dRr _ _ | exact dO _ _ | exact dOr _ _))
  refine wpQuiet_nil ?_
  intro _ hw'
  obtain ⟨⟨dq, osq⟩, hw''⟩ := hw'
  subst hw''
  go_wp2
  go_ret
  exact ⟨by simp, hBx.trans ((below_regrown X dq osq).mono hBx.size)⟩
end Go.Proofs.YtghbmgionmlejabDoor
