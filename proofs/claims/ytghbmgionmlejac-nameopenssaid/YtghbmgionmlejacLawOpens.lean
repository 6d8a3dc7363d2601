/- NameOpens: who opens what opens a third one opens that; each that is right opens itself. -/
import Derived.Test.YtghbmgionmlejacNameP
import Derived.StillTail
import Derived.StillTactics
import Derived.Lib.QuietBelow
namespace Go.Proofs.Ytghbmgionmlejac
open Go.RowKit Go.Shelf Go.Sort
set_option linter.unusedVariables false

set_option maxHeartbeats 8000000 in
theorem opens_walk (n0 : ByteArray) (r0 : BitVec 8) (n1 : ByteArray) (r1 : BitVec 8) (n2 : ByteArray) (r2 : BitVec 8) (W : World) :
    Calls Try.prog 5 #[capV n0 r0.toNat, capV n1 r1.toNat, capV n2 r2.toNat] W fun e W' => e = .returned (.bool true) ∧ Below W.heap.size W W' := by
  have c0 := fun w => short_any n0 w
  have c1 := fun w => short_any n1 w
  have c2 := fun w => short_any n2 w
  have s0 := shortS_size n0
  have s1 := shortS_size n1
  have s2 := shortS_size n2
  generalize shortS n0 = m0 at *
  generalize shortS n1 = m1 at *
  generalize shortS n2 = m2 at *
  have cAB := fun w => opens_any m0 m1 r0 r1 w (by omega) (by omega)
  have cBC := fun w => opens_any m1 m2 r1 r2 w (by omega) (by omega)
  have cAC := fun w => opens_any m0 m2 r0 r2 w (by omega) (by omega)
  have cAA := fun w => opens_any m0 m0 r0 r0 w (by omega) (by omega)
  have cR := fun w => right_any m0 r0.toNat w (by omega)
  have cV := fun w => live2_any w
  have htr : opensB m0.data.toList r0 m1.data.toList r1 = true → opensB m1.data.toList r1 m2.data.toList r2 = true → opensB m0.data.toList r0 m2.data.toList r2 = true := opens_trans
  rw [opens_self] at cAA
  unfold capV at *
  generalize opensB m0.data.toList r0 m1.data.toList r1 = AB at *
  generalize opensB m1.data.toList r1 m2.data.toList r2 = BC at *
  generalize opensB m0.data.toList r0 m2.data.toList r2 = AC at *
  generalize rightB m0.data.toList r0.toNat = R at *
  have hcase : Hid ((AB = false) ∨ (AB = true ∧ ((BC = false) ∨ (BC = true ∧ AC = true)))) := by
    show _ ∨ _
    cases AB <;> cases BC <;> simp_all
  clear htr
  generalize ((r0.toNat : Nat) : Int) = x0 at *
  generalize ((r1.toNat : Nat) : Int) = x1 at *
  generalize ((r2.toNat : Nat) : Int) = x2 at *
  go_enter Try.func5, Try.ntmps5
  go_wp2_with fail
  have t0 := ((Two.new W 23 (.string n0) (.int .u8 x0)).alloc (.cells #[.string n1, .int .u8 x1] 23)).alloc (.cells #[.string n2, .int .u8 x2] 23)
  have t1 := (Two.new (W.alloc (.cells #[.string n0, .int .u8 x0] 23)) 23 (.string n1) (.int .u8 x1)).alloc (.cells #[.string n2, .int .u8 x2] 23)
  have t2 := Two.new ((W.alloc (.cells #[.string n0, .int .u8 x0] 23)).alloc (.cells #[.string n1, .int .u8 x1] 23)) 23 (.string n2) (.int .u8 x2)
  simp only [World.size_alloc] at t1 t2
  have hB0 : Below W.heap.size W (((W.alloc (.cells #[.string n0, .int .u8 x0] 23)).alloc (.cells #[.string n1, .int .u8 x1] 23)).alloc (.cells #[.string n2, .int .u8 x2] 23)) := (((Below.refl _ W).alloc (Nat.le_refl _) _).alloc (by simp) _).alloc (by simp; omega) _
  have hsz : (((W.alloc (.cells #[.string n0, .int .u8 x0] 23)).alloc (.cells #[.string n1, .int .u8 x1] 23)).alloc (.cells #[.string n2, .int .u8 x2] 23)).heap.size = W.heap.size + 1 + 1 + 1 := by simp
  generalize (((W.alloc (.cells #[.string n0, .int .u8 x0] 23)).alloc (.cells #[.string n1, .int .u8 x1] 23)).alloc (.cells #[.string n2, .int .u8 x2] 23)) = W1 at *
  have a0 := t0.c0
  have a1 := t1.c0
  have a2 := t2.c0
  have f0 := t0.f 0
  have f1 := t1.f 0
  have f2 := t2.f 0
  have e0 := t0.c1
  have e1 := t1.c1
  have e2 := t2.c1
  refine wp_region_still_tail 10 (by kernel_rfl) (by kernel_rfl) ?_
  simp only [List.take_succ_cons, List.take_zero, List.drop_succ_cons, List.drop_zero]
  still_step
  still_step
  still_call (c0 _)
  still_step
  still_step
  still_call (c1 _)
  still_step
  still_step
  still_call (c2 _)
  still_step
  refine wpStill_nil ?_
  go_wp2_with fail
  have u0 := (((t0.set0 (.string m0)).other (c := W.heap.size + 1) (by omega) 0 (.string m1)).other (c := W.heap.size + 1 + 1) (by omega) 0 (.string m2)).drew
  have u1 := (((t1.other (c := W.heap.size) (by omega) 0 (.string m0)).set0 (.string m1)).other (c := W.heap.size + 1 + 1) (by omega) 0 (.string m2)).drew
  have u2 := (((t2.other (c := W.heap.size) (by omega) 0 (.string m0)).other (c := W.heap.size + 1) (by omega) 0 (.string m1)).set0 (.string m2)).drew
  have hB1 : Below W.heap.size W (((W1.setCell ⟨W.heap.size, 0, none⟩ (.string m0)).setCell ⟨W.heap.size + 1, 0, none⟩ (.string m1)).setCell ⟨W.heap.size + 1 + 1, 0, none⟩ (.string m2)).drew := (((hB0.setCell (p := ⟨W.heap.size, 0, none⟩) (Nat.le_refl _) _).setCell (p := ⟨W.heap.size + 1, 0, none⟩) (by show W.heap.size ≤ W.heap.size + 1; omega) _).setCell (p := ⟨W.heap.size + 1 + 1, 0, none⟩) (by show W.heap.size ≤ W.heap.size + 1 + 1; omega) _).drew
  have hs2 : W.heap.size + 1 + 1 + 1 ≤ (((W1.setCell ⟨W.heap.size, 0, none⟩ (.string m0)).setCell ⟨W.heap.size + 1, 0, none⟩ (.string m1)).setCell ⟨W.heap.size + 1 + 1, 0, none⟩ (.string m2)).drew.heap.size := by simp [World.setCell, World.drew, hsz]
  generalize (((W1.setCell ⟨W.heap.size, 0, none⟩ (.string m0)).setCell ⟨W.heap.size + 1, 0, none⟩ (.string m1)).setCell ⟨W.heap.size + 1 + 1, 0, none⟩ (.string m2)).drew = W2 at *
  clear a0 a1 a2 f0 f1 f2 e0 e1 e2 t0 t1 t2 hB0 hsz c0 c1 c2
  refine (cAB W2).mono ?_
  rintro e W3 ⟨rfl, hB3⟩
  have hs3 := hB3.size
  have hB3' := hB1.trans (hB3.mono (by omega))
  have v0 := u0.below hB3 (by omega)
  have v1 := u1.below hB3 (by omega)
  have v2 := u2.below hB3 (by omega)
  clear u0 u1 u2 hB1
  have hc0 := hcase.out
  clear hcase
  rcases hc0 with rfl | ⟨rfl, hc0⟩
  · go_wp2_with fail
    have k0 := v0.c0
    have k1 := v0.c1
    have g0 := fun d os => cell_regrown k0 d os
    have g1 := fun d os => cell_regrown k1 d os
    have dV := fun d os => Calls.regrown_of (cV (grow (redrawn W3 d) os))
    have dA := fun d os => Calls.regrown_of (cAA (grow (redrawn W3 d) os))
    have dR := fun d os => Calls.regrown_of (cR (grow (redrawn W3 d) os))
    clear k0 k1 cAB cBC cAC cAA cR cV
    refine wp_region_quiet_below (by kernel_rfl) (by kernel_rfl) ?_
    repeat (quiet_step (first | exact dV _ _ | exact dA _ _ | exact dR _ _))
    refine wpQuiet_nil ?_
    intro _ hw'
    obtain ⟨⟨dq, osq⟩, hw''⟩ := hw'
    subst hw''
    go_wp2
    go_ret
    exact ⟨by simp, hB3'.trans ((below_regrown W3 dq osq).mono hB3'.size)⟩
  · have hcase : Hid (BC = false ∨ (BC = true ∧ AC = true)) := hc0
    clear hc0
    have z0 := v1.c0
    have z1 := v1.c1
    have z2 := v2.c0
    have z3 := v2.c1
    go_wp2_with fail
    refine (cBC W3).mono ?_
    rintro e W4 ⟨rfl, hB4⟩
    have hs4 := hB4.size
    have hB4' := hB3'.trans (hB4.mono (by omega))
    have y0 := v0.below hB4 (by omega)
    have y2 := v2.below hB4 (by omega)
    clear v0 v1 v2 z0 z1 z2 z3
    have hc0 := hcase.out
    clear hcase
    rcases hc0 with rfl | ⟨rfl, rfl⟩
    · have v0 := y0
      go_wp2_with fail
      have k0 := v0.c0
      have k1 := v0.c1
      have g0 := fun d os => cell_regrown k0 d os
      have g1 := fun d os => cell_regrown k1 d os
      have dV := fun d os => Calls.regrown_of (cV (grow (redrawn W4 d) os))
      have dA := fun d os => Calls.regrown_of (cAA (grow (redrawn W4 d) os))
      have dR := fun d os => Calls.regrown_of (cR (grow (redrawn W4 d) os))
      clear k0 k1 cAB cBC cAC cAA cR cV
      refine wp_region_quiet_below (by kernel_rfl) (by kernel_rfl) ?_
      repeat (quiet_step (first | exact dV _ _ | exact dA _ _ | exact dR _ _))
      refine wpQuiet_nil ?_
      intro _ hw'
      obtain ⟨⟨dq, osq⟩, hw''⟩ := hw'
      subst hw''
      go_wp2
      go_ret
      exact ⟨by simp, hB4'.trans ((below_regrown W4 dq osq).mono hB4'.size)⟩
    · have z0 := y0.c0
      have z1 := y0.c1
      have z2 := y2.c0
      have z3 := y2.c1
      go_wp2_with fail
      refine (cAC W4).mono ?_
      rintro e W5 ⟨rfl, hB5⟩
      have hs5 := hB5.size
      have hB5' := hB4'.trans (hB5.mono (by omega))
      have v0 := y0.below hB5 (by omega)
      clear y0 y2 z0 z1 z2 z3
      go_wp2_with fail
      have k0 := v0.c0
      have k1 := v0.c1
      have g0 := fun d os => cell_regrown k0 d os
      have g1 := fun d os => cell_regrown k1 d os
      have dV := fun d os => Calls.regrown_of (cV (grow (redrawn W5 d) os))
      have dA := fun d os => Calls.regrown_of (cAA (grow (redrawn W5 d) os))
      have dR := fun d os => Calls.regrown_of (cR (grow (redrawn W5 d) os))
      clear k0 k1 cAB cBC cAC cAA cR cV
      refine wp_region_quiet_below (by kernel_rfl) (by kernel_rfl) ?_
      repeat (quiet_step (first | exact dV _ _ | exact dA _ _ | exact dR _ _))
      refine wpQuiet_nil ?_
      intro _ hw'
      obtain ⟨⟨dq, osq⟩, hw''⟩ := hw'
      subst hw''
      go_wp2
      go_ret
      exact ⟨by simp, hB5'.trans ((below_regrown W5 dq osq).mono hB5'.size)⟩
end Go.Proofs.Ytghbmgionmlejac
