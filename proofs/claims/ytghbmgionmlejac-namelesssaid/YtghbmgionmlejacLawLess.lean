/- NameLess: what is derived, or restricted, opens nothing that the first one does not. -/
import Derived.Test.YtghbmgionmlejacNameQ
import Derived.StillTail
import Derived.StillTactics
namespace Go.Proofs.Ytghbmgionmlejac
open Go.RowKit Go.Shelf
set_option linter.unusedVariables false

set_option maxHeartbeats 8000000 in
theorem less_walk (n0 : ByteArray) (r0 : BitVec 8) (x : BitVec 8) (n1 : ByteArray) (q : BitVec 8) (W : World) :
    Calls Try.prog 4 #[capV n0 r0.toNat, .int .u8 x.toNat, capV n1 q.toNat] W fun e W' => e = .returned (.bool true) ∧ Below W.heap.size W W' := by
  have c0 := fun w => short_any n0 w
  have c1 := fun w => short_any n1 w
  have s0 := shortS_size n0
  have s1 := shortS_size n1
  generalize shortS n0 = m0 at *
  generalize shortS n1 = m1 at *
  have cRs := fun w => restrict_any m0 r0 x w (by omega)
  have cDr := fun w => derive_any m0 ⟨#[122]⟩ r0 w (by omega) (by decide)
  have la := restrictO_len m0.data.toList r0 x
  have lb := deriveO_len m0.data.toList [122] r0
  rw [← Lib.size_eq] at la
  have hE : Hid (∀ c s, restrictO m0.data.toList r0 x = (c, s, 0) → opensB c s m1.data.toList q = true → opensB m0.data.toList r0 m1.data.toList q = true) := fun c s h k => restrict_less h k
  have hF : Hid (∀ c s, deriveO m0.data.toList r0 [122] = (c, s, 0) → opensB c s m1.data.toList q = true → opensB m0.data.toList r0 m1.data.toList q = true) := fun c s h k => derive_less h k
  obtain ⟨a1, a2, e1, hA⟩ : ∃ a1 a2 e1, restrictO m0.data.toList r0 x = (a1, a2, e1) := ⟨_, _, _, rfl⟩
  obtain ⟨b1, b2, f1, hD⟩ : ∃ b1 b2 f1, deriveO m0.data.toList r0 [122] = (b1, b2, f1) := ⟨_, _, _, rfl⟩
  rw [hA] at cRs la
  rw [show deriveO m0.data.toList r0 (⟨#[122]⟩ : ByteArray).data.toList = (b1, b2, f1) from hD] at cDr
  rw [hD] at lb
  simp only at la lb
  have hE' : e1 = 0 → opensB a1 a2 m1.data.toList q = true → opensB m0.data.toList r0 m1.data.toList q = true := fun h => hE.out a1 a2 (by rw [hA, h])
  have hF' : f1 = 0 → opensB b1 b2 m1.data.toList q = true → opensB m0.data.toList r0 m1.data.toList q = true := fun h => hF.out b1 b2 (by rw [hD, h])
  clear hE hF hA hD
  have cA := fun w => opens_any ⟨a1.toArray⟩ m1 a2 q w (by show a1.length ≤ 1000; omega) (by omega)
  have cB := fun w => opens_any ⟨b1.toArray⟩ m1 b2 q w (by show b1.length ≤ 1000; omega) (by omega)
  have cC := fun w => opens_any m0 m1 r0 q w (by omega) (by omega)
  have cV := fun w => live2_any w
  unfold capsV at cRs cDr
  unfold capV at *
  simp only at cRs cDr cA cB
  generalize opensB a1 a2 m1.data.toList q = OA at *
  generalize opensB b1 b2 m1.data.toList q = OB at *
  generalize opensB m0.data.toList r0 m1.data.toList q = OC at *
  clear la lb
  generalize ((r0.toNat : Nat) : Int) = y0 at *
  generalize ((q.toNat : Nat) : Int) = y1 at *
  generalize ((x.toNat : Nat) : Int) = y2 at *
  generalize ((a2.toNat : Nat) : Int) = y3 at *
  generalize ((b2.toNat : Nat) : Int) = y4 at *
  generalize (⟨a1.toArray⟩ : ByteArray) = A1 at *
  generalize (⟨b1.toArray⟩ : ByteArray) = B1 at *
  have hE2 : Hid ((e1 == 0) = false ∨ (e1 = 0 ∧ (OA = false ∨ (OA = true ∧ OC = true)))) := by
    show _ ∨ _
    by_cases h : e1 = 0
    · refine .inr ⟨h, ?_⟩
      cases OA
      · exact .inl rfl
      · exact .inr ⟨rfl, hE' h rfl⟩
    · exact .inl (beq_eq_false_iff_ne.2 h)
  have hF2 : Hid ((f1 != 0) = true ∨ (f1 = 0 ∧ (OB = false ∨ (OB = true ∧ OC = true)))) := by
    show _ ∨ _
    by_cases h : f1 = 0
    · refine .inr ⟨h, ?_⟩
      cases OB
      · exact .inl rfl
      · exact .inr ⟨rfl, hF' h rfl⟩
    · exact .inl (bne_iff_ne.2 h)
  clear hE' hF'
  go_enter Try.func4, Try.ntmps4
  go_wp2_with fail
  have t0 := (Two.new W 23 (.string n0) (.int .u8 y0)).alloc (.cells #[.string n1, .int .u8 y1] 23)
  have t1 := Two.new (W.alloc (.cells #[.string n0, .int .u8 y0] 23)) 23 (.string n1) (.int .u8 y1)
  simp only [World.size_alloc] at t1
  have hB0 : Below W.heap.size W ((W.alloc (.cells #[.string n0, .int .u8 y0] 23)).alloc (.cells #[.string n1, .int .u8 y1] 23)) := ((Below.refl _ W).alloc (Nat.le_refl _) _).alloc (by simp) _
  have hsz : ((W.alloc (.cells #[.string n0, .int .u8 y0] 23)).alloc (.cells #[.string n1, .int .u8 y1] 23)).heap.size = W.heap.size + 1 + 1 := by simp
  generalize ((W.alloc (.cells #[.string n0, .int .u8 y0] 23)).alloc (.cells #[.string n1, .int .u8 y1] 23)) = W1 at *
  have a0 := t0.c0
  have a1 := t1.c0
  have f0 := t0.f 0
  have f2 := t1.f 0
  have e0 := t0.c1
  have e2 := t1.c1
  refine wp_region_still_tail 7 (by kernel_rfl) (by kernel_rfl) ?_
  simp only [List.take_succ_cons, List.take_zero, List.drop_succ_cons, List.drop_zero]
  still_step
  still_step
  still_call (c0 _)
  still_step
  still_step
  still_call (c1 _)
  still_step
  refine wpStill_nil ?_
  go_wp2_with fail
  have u0 := ((t0.set0 (.string m0)).other (c := W.heap.size + 1) (by omega) 0 (.string m1)).drew
  have u1 := ((t1.other (c := W.heap.size) (by omega) 0 (.string m0)).set0 (.string m1)).drew
  have hB1 : Below W.heap.size W ((W1.setCell ⟨W.heap.size, 0, none⟩ (.string m0)).setCell ⟨W.heap.size + 1, 0, none⟩ (.string m1)).drew := ((hB0.setCell (p := ⟨W.heap.size, 0, none⟩) (Nat.le_refl _) _).setCell (p := ⟨W.heap.size + 1, 0, none⟩) (by show W.heap.size ≤ W.heap.size + 1; omega) _).drew
  have hs2 : W.heap.size + 1 + 1 ≤ ((W1.setCell ⟨W.heap.size, 0, none⟩ (.string m0)).setCell ⟨W.heap.size + 1, 0, none⟩ (.string m1)).drew.heap.size := by simp [World.setCell, World.drew, hsz]
  generalize ((W1.setCell ⟨W.heap.size, 0, none⟩ (.string m0)).setCell ⟨W.heap.size + 1, 0, none⟩ (.string m1)).drew = W2 at *
  clear a0 a1 f0 f2 e0 e2 t0 t1 hB0 hsz c0 c1
  refine (cRs W2).mono ?_
  rintro e W3 ⟨rfl, hB3⟩
  have hs3 := hB3.size
  have v0 := u0.below hB3 (by omega)
  have v1 := u1.below hB3 (by omega)
  have hB3' := hB1.trans (hB3.mono (by omega))
  clear u0 u1 hB1
  have p0 := v0.alloc (.cells #[.string A1, .int .u8 y3] 23)
  have p1 := v1.alloc (.cells #[.string A1, .int .u8 y3] 23)
  have pA := Two.new W3 23 (.string A1) (.int .u8 y3)
  have hB4 := hB3'.alloc hB3'.size (.cells #[.string A1, .int .u8 y3] 23)
  have hs4 : (W3.alloc (.cells #[.string A1, .int .u8 y3] 23)).heap.size = W3.heap.size + 1 := by simp
  have w0 := p0.c0
  have w1 := p0.c1
  clear v0 v1
  go_wp2_with fail
  generalize W3.alloc (.cells #[.string A1, .int .u8 y3] 23) = W4 at *
  refine (cDr W4).mono ?_
  rintro e W5 ⟨rfl, hB5⟩
  have hs5 := hB5.size
  have q0 := (p0.below hB5 (by omega)).alloc (.cells #[.string B1, .int .u8 y4] 23)
  have q1 := (p1.below hB5 (by omega)).alloc (.cells #[.string B1, .int .u8 y4] 23)
  have qA := (pA.below hB5 (by omega)).alloc (.cells #[.string B1, .int .u8 y4] 23)
  have qB := Two.new W5 23 (.string B1) (.int .u8 y4)
  have hB6 := (hB4.trans (hB5.mono (by omega))).alloc (by omega) (.cells #[.string B1, .int .u8 y4] 23)
  have hs6 : (W5.alloc (.cells #[.string B1, .int .u8 y4] 23)).heap.size = W5.heap.size + 1 := by simp
  clear w0 w1 p0 p1 pA hB4
  have i0 := q0.c0
  have i1 := q0.c1
  have i2 := q1.c0
  have i3 := q1.c1
  have i4 := qA.c0
  have i5 := qA.c1
  have i6 := qB.c0
  have i7 := qB.c1
  have hE3 := hE2.out
  clear hE2
  rcases hE3 with hE3 | ⟨hE3, hE4⟩
  · go_wp2_with fail
    clear i0 i1 i2 i3 i4 i5 i6 i7
    generalize W5.alloc (.cells #[.string B1, .int .u8 y4] 23) = W6 at *
    refine (cV _).mono ?_
    rintro e Y1 ⟨rfl, hY1⟩
    have hz1 := hY1.size
    have j0 := (q0.below hY1 (by omega)).c0
    have j1 := (q0.below hY1 (by omega)).c1
    have j2 := (q1.below hY1 (by omega)).c0
    have j3 := (q1.below hY1 (by omega)).c1
    have j6 := (qB.below hY1 (by omega)).c0
    have j7 := (qB.below hY1 (by omega)).c1
    have hBY := hB6.trans (hY1.mono (by omega))
    have hF3 := hF2.out
    clear hF2
    rcases hF3 with hF3 | ⟨hF3, hF4⟩
    · go_wp2
      go_ret
      exact ⟨rfl, hBY⟩
    · subst hF3
      have HF4 : Hid (OB = false ∨ (OB = true ∧ OC = true)) := hF4
      clear hF4
      go_wp2_with fail
      refine (cB _).mono ?_
      rintro e Y2 ⟨rfl, hY2⟩
      have hz2 := hY2.size
      have l0 := ((q0.below hY1 (by omega)).below hY2 (by omega)).c0
      have l1 := ((q0.below hY1 (by omega)).below hY2 (by omega)).c1
      have l2 := ((q1.below hY1 (by omega)).below hY2 (by omega)).c0
      have l3 := ((q1.below hY1 (by omega)).below hY2 (by omega)).c1
      have hBY2 := hBY.trans (hY2.mono (by omega))
      clear j0 j1 j2 j3 j6 j7
      have hF4 := HF4.out
      clear HF4
      rcases hF4 with rfl | ⟨rfl, rfl⟩
      · go_wp2
        go_ret
        exact ⟨rfl, hBY2⟩
      · go_wp2_with fail
        refine (cC _).mono ?_
        rintro e Y3 ⟨rfl, hY3⟩
        go_wp2
        go_ret
        exact ⟨rfl, hBY2.trans (hY3.mono (by omega))⟩
  · subst hE3
    have HE4 : Hid (OA = false ∨ (OA = true ∧ OC = true)) := hE4
    clear hE4
    go_wp2_with fail
    clear i0 i1 i2 i3 i4 i5 i6 i7
    generalize W5.alloc (.cells #[.string B1, .int .u8 y4] 23) = W6 at *
    refine (cA _).mono ?_
    rintro e W7 ⟨rfl, hB7⟩
    have hs7 := hB7.size
    have o0 := q0.below hB7 (by omega)
    have o1 := q1.below hB7 (by omega)
    have oB := qB.below hB7 (by omega)
    have hB8 := hB6.trans (hB7.mono (by omega))
    clear q0 q1 qA qB hB6
    have hE4 := HE4.out
    clear HE4
    rcases hE4 with rfl | ⟨rfl, rfl⟩
    · have q0 := o0
      have q1 := o1
      have qB := oB
      go_wp2_with fail
      refine (cV _).mono ?_
      rintro e Y1 ⟨rfl, hY1⟩
      have hz1 := hY1.size
      have j0 := (q0.below hY1 (by omega)).c0
      have j1 := (q0.below hY1 (by omega)).c1
      have j2 := (q1.below hY1 (by omega)).c0
      have j3 := (q1.below hY1 (by omega)).c1
      have j6 := (qB.below hY1 (by omega)).c0
      have j7 := (qB.below hY1 (by omega)).c1
      have hBY := hB8.trans (hY1.mono (by omega))
      have hF3 := hF2.out
      clear hF2
      rcases hF3 with hF3 | ⟨hF3, hF4⟩
      · go_wp2
        go_ret
        exact ⟨rfl, hBY⟩
      · subst hF3
        have HF4 : Hid (OB = false ∨ (OB = true ∧ OC = true)) := hF4
        clear hF4
        go_wp2_with fail
        refine (cB _).mono ?_
        rintro e Y2 ⟨rfl, hY2⟩
        have hz2 := hY2.size
        have l0 := ((q0.below hY1 (by omega)).below hY2 (by omega)).c0
        have l1 := ((q0.below hY1 (by omega)).below hY2 (by omega)).c1
        have l2 := ((q1.below hY1 (by omega)).below hY2 (by omega)).c0
        have l3 := ((q1.below hY1 (by omega)).below hY2 (by omega)).c1
        have hBY2 := hBY.trans (hY2.mono (by omega))
        clear j0 j1 j2 j3 j6 j7
        have hF4 := HF4.out
        clear HF4
        rcases hF4 with rfl | ⟨rfl, rfl⟩
        · go_wp2
          go_ret
          exact ⟨rfl, hBY2⟩
        · go_wp2_with fail
          refine (cC _).mono ?_
          rintro e Y3 ⟨rfl, hY3⟩
          go_wp2
          go_ret
          exact ⟨rfl, hBY2.trans (hY3.mono (by omega))⟩
    · have i0 := o0.c0
      have i1 := o0.c1
      have i2 := o1.c0
      have i3 := o1.c1
      go_wp2_with fail
      refine (cC _).mono ?_
      rintro e W8 ⟨rfl, hB9⟩
      have hs8 := hB9.size
      have q0 := o0.below hB9 (by omega)
      have q1 := o1.below hB9 (by omega)
      have qB := oB.below hB9 (by omega)
      have hB10 := hB8.trans (hB9.mono (by omega))
      clear i0 i1 i2 i3 o0 o1 oB
      go_wp2_with fail
      refine (cV _).mono ?_
      rintro e Y1 ⟨rfl, hY1⟩
      have hz1 := hY1.size
      have j0 := (q0.below hY1 (by omega)).c0
      have j1 := (q0.below hY1 (by omega)).c1
      have j2 := (q1.below hY1 (by omega)).c0
      have j3 := (q1.below hY1 (by omega)).c1
      have j6 := (qB.below hY1 (by omega)).c0
      have j7 := (qB.below hY1 (by omega)).c1
      have hBY := hB10.trans (hY1.mono (by omega))
      have hF3 := hF2.out
      clear hF2
      rcases hF3 with hF3 | ⟨hF3, hF4⟩
      · go_wp2
        go_ret
        exact ⟨rfl, hBY⟩
      · subst hF3
        have HF4 : Hid (OB = false ∨ (OB = true ∧ True)) := hF4
        clear hF4
        go_wp2_with fail
        refine (cB _).mono ?_
        rintro e Y2 ⟨rfl, hY2⟩
        have hz2 := hY2.size
        have l0 := ((q0.below hY1 (by omega)).below hY2 (by omega)).c0
        have l1 := ((q0.below hY1 (by omega)).below hY2 (by omega)).c1
        have l2 := ((q1.below hY1 (by omega)).below hY2 (by omega)).c0
        have l3 := ((q1.below hY1 (by omega)).below hY2 (by omega)).c1
        have hBY2 := hBY.trans (hY2.mono (by omega))
        clear j0 j1 j2 j3 j6 j7
        have hF4 := HF4.out
        clear HF4
        rcases hF4 with rfl | ⟨rfl, _⟩
        · go_wp2
          go_ret
          exact ⟨rfl, hBY2⟩
        · go_wp2_with fail
          refine (cC _).mono ?_
          rintro e Y3 ⟨rfl, hY3⟩
          go_wp2
          go_ret
          exact ⟨rfl, hBY2.trans (hY3.mono (by omega))⟩
end Go.Proofs.Ytghbmgionmlejac
