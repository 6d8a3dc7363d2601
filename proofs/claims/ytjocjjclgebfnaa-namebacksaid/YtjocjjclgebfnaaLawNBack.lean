/- NameBack: what is read of what was written is it; what is written of what was read is that. -/
import Derived.Test.YtjocjjclgebfnaaNameS
import Derived.Test.YtjocjjclgebfnaaNameT
import Derived.StillTail
import Derived.StillTactics
namespace Go.Proofs.Ytjocjjclgebfnaa
open Go.RowKit Go.Shelf
set_option linter.unusedVariables false

theorem eqGuardC : Try.prog.eqGuardType Try.prog.depth 31 = false := by kernel_rfl
theorem eqCap (w : World) (n : ByteArray) (r : Int) : (Op.equalIn 10000 31 (.agg #[.string n, .int .u8 r]) (.agg #[.string n, .int .u8 r])).run Try.prog w = .ok true w := by
  show (Op.equalIn (9998 + 1 + 1) 31 _ _).run Try.prog w = _
  rw [Op.equalIn]
  simp only [Sem.run_bind, run_underlying Try.underlying31, Result.andThen_ok]
  simp [go_sem]

set_option maxHeartbeats 8000000 in
theorem back_111 (n0 : ByteArray) (r0 : BitVec 8) (vb : Value) (bs : List UInt8) (s : ByteArray) (W : World) (hb : Byt W vb bs)
    (hR : rightB (shortS n0).data.toList r0.toNat = true) (dn : List UInt8) (dr : BitVec 8) (de : Int) (hD : decodeO bs = (dn, dr, de)) (h2 : de = 0) (pn : List UInt8) (pr : BitVec 8) (pe : Int) (hP : parseO (shortS s).data.toList = (pn, pr, pe)) (h3 : pe = 0) :
    Calls Try.prog 4 #[capV n0 r0.toNat, vb, .string s] W fun e W' => e = .returned (.bool true) ∧ Below W.heap.size W W' := by
  have c0 := fun w => short_any n0 w
  have c1 := fun w => short_any s w
  have s0 := shortS_size n0
  have s1 := shortS_size s
  generalize shortS n0 = m at *
  generalize shortS s = t at *
  have cB := fun w h => decode_any vb bs w h
  rw [hD] at cB
  have cG := fun w => parse_any t w (by omega)
  rw [hP] at cG
  have cV := fun w => live2_any w
  have cE := fun w => encode_ok m r0 w hR
  obtain ⟨t1, hpr, hpa⟩ := parse_print hR
  have ht1 : t1.length ≤ 400 := by
    have h1 := right_len hR
    have h2 := rightsO_len r0
    unfold printO at hpr
    rw [if_pos hR] at hpr
    cases hpr
    simp
    omega
  have cD := fun v w h => decode_any v (encL m.data.toList r0) w h
  rw [decode_encode hR] at cD
  have cP := fun w => print_any m r0 w (by omega)
  rw [hpr] at cP
  have cQ := fun w => parse_any ⟨t1.toArray⟩ w (by show t1.length ≤ 1000; omega)
  rw [show parseO (⟨t1.toArray⟩ : ByteArray).data.toList = _ from hpa] at cQ
  unfold capsV at cD cQ
  unfold textV at cP
  unfold capV at cP cE cD cQ
  simp only at cD cQ cP
  have eq1 : (⟨m.data.toList.toArray⟩ : ByteArray) = m := rfl
  rw [eq1] at cD cQ
  generalize encL m.data.toList r0 = E at *
  generalize (⟨t1.toArray⟩ : ByteArray) = T1 at *
  clear eq1 hpr hpa ht1
  subst h2
  obtain ⟨hbs, hbr⟩ := encode_decode hD
  have cF := fun w => encode_ok ⟨dn.toArray⟩ dr w hbr
  rw [show encL (⟨dn.toArray⟩ : ByteArray).data.toList dr = bs from hbs.symm] at cF
  have hne : bs ≠ [] := by rw [hbs]; unfold encL; simp
  unfold capV at cF
  clear hbs hbr
  subst h3
  have hpl := right_len (parseO_right hP)
  have cH := fun w => print_any ⟨pn.toArray⟩ pr w (by show pn.length ≤ 1000; omega)
  rw [show printO (⟨pn.toArray⟩ : ByteArray).data.toList pr = _ from print_parse hP] at cH
  unfold textV capV at cH
  simp only at cH
  have eq2 : (⟨t.data.toList.toArray⟩ : ByteArray) = t := rfl
  rw [eq2] at cH
  clear eq2 hpl
  unfold capsV at cB cG
  unfold capV at cB cG ⊢
  simp only at cB cG
  clear hR hD hP s0 s1
  have eC := eqCap
  have eG := eqGuardC
  have HB : Hid (Byt W vb bs) := hb
  clear hb
  generalize ((r0.toNat : Nat) : Int) = y0 at *
  generalize ((dr.toNat : Nat) : Int) = y1 at *
  generalize ((pr.toNat : Nat) : Int) = y2 at *
  generalize (⟨dn.toArray⟩ : ByteArray) = D1 at *
  generalize (⟨pn.toArray⟩ : ByteArray) = P1 at *
  go_enter Try.func4, Try.ntmps4
  go_wp2_with fail
  have t0 := Two.new W 31 (.string n0) (.int .u8 y0)
  have hB0 : Below W.heap.size W (W.alloc (.cells #[.string n0, .int .u8 y0] 31)) := (Below.refl _ W).alloc (Nat.le_refl _) _
  have hsz : (W.alloc (.cells #[.string n0, .int .u8 y0] 31)).heap.size = W.heap.size + 1 := by simp
  generalize (W.alloc (.cells #[.string n0, .int .u8 y0] 31)) = W1 at *
  have f0 := t0.f 0
  have t2 := t0.set0 (.string m)
  have a2 := t2.c0
  have a3 := t2.c1
  have a0 := t0.c0
  have hB2 := hB0.setCell (p := ⟨W.heap.size, 0, none⟩) (Nat.le_refl _) (.string m)
  have hs2 : (W1.setCell ⟨W.heap.size, 0, none⟩ (.string m)).heap.size = W.heap.size + 1 := by simp [World.setCell, hsz]
  refine (c0 _).mono ?_
  rintro e W0 ⟨rfl, hw⟩
  rw [hw]
  clear hw W0
  go_wp2_with fail
  refine (c1 _).mono ?_
  rintro e W0 ⟨rfl, hw⟩
  rw [hw]
  clear hw W0
  go_wp2_with fail
  generalize W1.setCell ⟨W.heap.size, 0, none⟩ (.string m) = W2 at *
  clear a0 f0 t0 hB0 hsz c0 c1
  refine (cE W2).mono ?_
  rintro e W3 ⟨v3, rfl, hv3, hB3⟩
  have hs3 := hB3.size
  have t3 := t2.below hB3 (by omega)
  have hB3' := hB2.trans (hB3.mono (by omega))
  clear a2 a3 t2 hB2
  go_wp2_with fail
  refine (cD v3 W3 hv3).mono ?_
  rintro e W4 ⟨rfl, hB4⟩
  have hs4 := hB4.size
  have t4 := (t3.below hB4 (by omega)).alloc (.cells #[.string m, .int .u8 y0] 31)
  have x4 := Two.new W4 31 (.string m) (.int .u8 y0)
  have hB4' := (hB3'.trans (hB4.mono (by omega))).alloc (by omega) (.cells #[.string m, .int .u8 y0] 31)
  have hs4' : (W4.alloc (.cells #[.string m, .int .u8 y0] 31)).heap.size = W4.heap.size + 1 := by simp
  have a0 := t4.c0
  have a1 := t4.c1
  clear hv3 t3 hB3'
  go_wp2_with fail
  generalize W4.alloc (.cells #[.string m, .int .u8 y0] 31) = W5 at *
  clear a0 a1
  refine (cP W5).mono ?_
  rintro e W6 ⟨rfl, hB6⟩
  have hs6 := hB6.size
  have t6 := t4.below hB6 (by omega)
  have x6 := x4.below hB6 (by omega)
  have hB6' := hB4'.trans (hB6.mono (by omega))
  clear t4 x4 hB4'
  go_wp2_with fail
  refine (cQ W6).mono ?_
  rintro e W7 ⟨rfl, hB7⟩
  have hs7 := hB7.size
  have t7 := (t6.below hB7 (by omega)).alloc (.cells #[.string m, .int .u8 y0] 31)
  have x7 := (x6.below hB7 (by omega)).alloc (.cells #[.string m, .int .u8 y0] 31)
  have y7 := Two.new W7 31 (.string m) (.int .u8 y0)
  have hBA := (hB6'.trans (hB7.mono (by omega))).alloc (by omega) (.cells #[.string m, .int .u8 y0] 31)
  have a0 := t7.c0
  have a1 := t7.c1
  have a2 := x7.c0
  have a3 := x7.c1
  have a4 := y7.c0
  have a5 := y7.c1
  clear t6 x6 hB6'
  go_wp2_with fail
  generalize W7.alloc (.cells #[.string m, .int .u8 y0] 31) = WA at *
  clear a0 a1 a2 a3 a4 a5 t7 x7 y7 hB3 hB4 hB6 hB7 hs2 hs3 hs4 hs4' hs6 hs7
  have hsA := hBA.size
  refine (cB WA (HB.out.below hBA (Nat.le_refl _))).mono ?_
  rintro e WB ⟨rfl, hBB⟩
  have hsB := hBB.size
  have x9 := Two.new WB 31 (.string D1) (.int .u8 y1)
  have hBC := (hBA.trans (hBB.mono (by omega))).alloc (by omega) (.cells #[.string D1, .int .u8 y1] 31)
  have a0 := x9.c0
  have a1 := x9.c1
  clear hBA hBB
  go_wp2_with fail
  generalize WB.alloc (.cells #[.string D1, .int .u8 y1] 31) = WC at *
  clear a0 a1 x9
  have hsC := hBC.size
  refine (cF WC).mono ?_
  rintro e WD ⟨v9, rfl, hv9, hBD⟩
  have hsD := hBD.size
  replace hBD := hBC.trans (hBD.mono (by omega))
  have k1 := hv9.text hne
  have k2 := (HB.out.below hBD (Nat.le_refl _)).text hne
  clear hv9 hBC
  go_wp2_with fail
  have hsE := hBD.size
  refine (cG WD).mono ?_
  rintro e WE ⟨rfl, hBE⟩
  have hsF := hBE.size
  have z9 := Two.new WE 31 (.string P1) (.int .u8 y2)
  have hBF := (hBD.trans (hBE.mono (by omega))).alloc (by omega) (.cells #[.string P1, .int .u8 y2] 31)
  have a0 := z9.c0
  have a1 := z9.c1
  clear hBD hBE
  go_wp2_with fail
  generalize WE.alloc (.cells #[.string P1, .int .u8 y2] 31) = WF at *
  have hsG := hBF.size
  clear a0 a1 z9
  refine (cH WF).mono ?_
  rintro e WG ⟨rfl, hBG⟩
  have hsH := hBG.size
  replace hBG := hBF.trans (hBG.mono (by omega))
  go_wp2_with fail
  refine (cV WG).mono ?_
  rintro e WH ⟨rfl, hBH⟩
  go_wp2
  go_ret
  exact ⟨rfl, hBG.trans (hBH.mono (by omega))⟩

set_option maxHeartbeats 8000000 in
theorem back_110 (n0 : ByteArray) (r0 : BitVec 8) (vb : Value) (bs : List UInt8) (s : ByteArray) (W : World) (hb : Byt W vb bs)
    (hR : rightB (shortS n0).data.toList r0.toNat = true) (dn : List UInt8) (dr : BitVec 8) (de : Int) (hD : decodeO bs = (dn, dr, de)) (h2 : de = 0) (pn : List UInt8) (pr : BitVec 8) (pe : Int) (hP : parseO (shortS s).data.toList = (pn, pr, pe)) (h3 : pe ≠ 0) :
    Calls Try.prog 4 #[capV n0 r0.toNat, vb, .string s] W fun e W' => e = .returned (.bool true) ∧ Below W.heap.size W W' := by
  have c0 := fun w => short_any n0 w
  have c1 := fun w => short_any s w
  have s0 := shortS_size n0
  have s1 := shortS_size s
  generalize shortS n0 = m at *
  generalize shortS s = t at *
  have cB := fun w h => decode_any vb bs w h
  rw [hD] at cB
  have cG := fun w => parse_any t w (by omega)
  rw [hP] at cG
  have cV := fun w => live2_any w
  have cE := fun w => encode_ok m r0 w hR
  obtain ⟨t1, hpr, hpa⟩ := parse_print hR
  have ht1 : t1.length ≤ 400 := by
    have h1 := right_len hR
    have h2 := rightsO_len r0
    unfold printO at hpr
    rw [if_pos hR] at hpr
    cases hpr
    simp
    omega
  have cD := fun v w h => decode_any v (encL m.data.toList r0) w h
  rw [decode_encode hR] at cD
  have cP := fun w => print_any m r0 w (by omega)
  rw [hpr] at cP
  have cQ := fun w => parse_any ⟨t1.toArray⟩ w (by show t1.length ≤ 1000; omega)
  rw [show parseO (⟨t1.toArray⟩ : ByteArray).data.toList = _ from hpa] at cQ
  unfold capsV at cD cQ
  unfold textV at cP
  unfold capV at cP cE cD cQ
  simp only at cD cQ cP
  have eq1 : (⟨m.data.toList.toArray⟩ : ByteArray) = m := rfl
  rw [eq1] at cD cQ
  generalize encL m.data.toList r0 = E at *
  generalize (⟨t1.toArray⟩ : ByteArray) = T1 at *
  clear eq1 hpr hpa ht1
  subst h2
  obtain ⟨hbs, hbr⟩ := encode_decode hD
  have cF := fun w => encode_ok ⟨dn.toArray⟩ dr w hbr
  rw [show encL (⟨dn.toArray⟩ : ByteArray).data.toList dr = bs from hbs.symm] at cF
  have hne : bs ≠ [] := by rw [hbs]; unfold encL; simp
  unfold capV at cF
  clear hbs hbr
  have h3' : (pe != 0) = true := bne_iff_ne.2 h3
  clear h3
  unfold capsV at cB cG
  unfold capV at cB cG ⊢
  simp only at cB cG
  clear hR hD hP s0 s1
  have eC := eqCap
  have eG := eqGuardC
  have HB : Hid (Byt W vb bs) := hb
  clear hb
  generalize ((r0.toNat : Nat) : Int) = y0 at *
  generalize ((dr.toNat : Nat) : Int) = y1 at *
  generalize ((pr.toNat : Nat) : Int) = y2 at *
  generalize (⟨dn.toArray⟩ : ByteArray) = D1 at *
  generalize (⟨pn.toArray⟩ : ByteArray) = P1 at *
  go_enter Try.func4, Try.ntmps4
  go_wp2_with fail
  have t0 := Two.new W 31 (.string n0) (.int .u8 y0)
  have hB0 : Below W.heap.size W (W.alloc (.cells #[.string n0, .int .u8 y0] 31)) := (Below.refl _ W).alloc (Nat.le_refl _) _
  have hsz : (W.alloc (.cells #[.string n0, .int .u8 y0] 31)).heap.size = W.heap.size + 1 := by simp
  generalize (W.alloc (.cells #[.string n0, .int .u8 y0] 31)) = W1 at *
  have f0 := t0.f 0
  have t2 := t0.set0 (.string m)
  have a2 := t2.c0
  have a3 := t2.c1
  have a0 := t0.c0
  have hB2 := hB0.setCell (p := ⟨W.heap.size, 0, none⟩) (Nat.le_refl _) (.string m)
  have hs2 : (W1.setCell ⟨W.heap.size, 0, none⟩ (.string m)).heap.size = W.heap.size + 1 := by simp [World.setCell, hsz]
  refine (c0 _).mono ?_
  rintro e W0 ⟨rfl, hw⟩
  rw [hw]
  clear hw W0
  go_wp2_with fail
  refine (c1 _).mono ?_
  rintro e W0 ⟨rfl, hw⟩
  rw [hw]
  clear hw W0
  go_wp2_with fail
  generalize W1.setCell ⟨W.heap.size, 0, none⟩ (.string m) = W2 at *
  clear a0 f0 t0 hB0 hsz c0 c1
  refine (cE W2).mono ?_
  rintro e W3 ⟨v3, rfl, hv3, hB3⟩
  have hs3 := hB3.size
  have t3 := t2.below hB3 (by omega)
  have hB3' := hB2.trans (hB3.mono (by omega))
  clear a2 a3 t2 hB2
  go_wp2_with fail
  refine (cD v3 W3 hv3).mono ?_
  rintro e W4 ⟨rfl, hB4⟩
  have hs4 := hB4.size
  have t4 := (t3.below hB4 (by omega)).alloc (.cells #[.string m, .int .u8 y0] 31)
  have x4 := Two.new W4 31 (.string m) (.int .u8 y0)
  have hB4' := (hB3'.trans (hB4.mono (by omega))).alloc (by omega) (.cells #[.string m, .int .u8 y0] 31)
  have hs4' : (W4.alloc (.cells #[.string m, .int .u8 y0] 31)).heap.size = W4.heap.size + 1 := by simp
  have a0 := t4.c0
  have a1 := t4.c1
  clear hv3 t3 hB3'
  go_wp2_with fail
  generalize W4.alloc (.cells #[.string m, .int .u8 y0] 31) = W5 at *
  clear a0 a1
  refine (cP W5).mono ?_
  rintro e W6 ⟨rfl, hB6⟩
  have hs6 := hB6.size
  have t6 := t4.below hB6 (by omega)
  have x6 := x4.below hB6 (by omega)
  have hB6' := hB4'.trans (hB6.mono (by omega))
  clear t4 x4 hB4'
  go_wp2_with fail
  refine (cQ W6).mono ?_
  rintro e W7 ⟨rfl, hB7⟩
  have hs7 := hB7.size
  have t7 := (t6.below hB7 (by omega)).alloc (.cells #[.string m, .int .u8 y0] 31)
  have x7 := (x6.below hB7 (by omega)).alloc (.cells #[.string m, .int .u8 y0] 31)
  have y7 := Two.new W7 31 (.string m) (.int .u8 y0)
  have hBA := (hB6'.trans (hB7.mono (by omega))).alloc (by omega) (.cells #[.string m, .int .u8 y0] 31)
  have a0 := t7.c0
  have a1 := t7.c1
  have a2 := x7.c0
  have a3 := x7.c1
  have a4 := y7.c0
  have a5 := y7.c1
  clear t6 x6 hB6'
  go_wp2_with fail
  generalize W7.alloc (.cells #[.string m, .int .u8 y0] 31) = WA at *
  clear a0 a1 a2 a3 a4 a5 t7 x7 y7 hB3 hB4 hB6 hB7 hs2 hs3 hs4 hs4' hs6 hs7
  have hsA := hBA.size
  refine (cB WA (HB.out.below hBA (Nat.le_refl _))).mono ?_
  rintro e WB ⟨rfl, hBB⟩
  have hsB := hBB.size
  have x9 := Two.new WB 31 (.string D1) (.int .u8 y1)
  have hBC := (hBA.trans (hBB.mono (by omega))).alloc (by omega) (.cells #[.string D1, .int .u8 y1] 31)
  have a0 := x9.c0
  have a1 := x9.c1
  clear hBA hBB
  go_wp2_with fail
  generalize WB.alloc (.cells #[.string D1, .int .u8 y1] 31) = WC at *
  clear a0 a1 x9
  have hsC := hBC.size
  refine (cF WC).mono ?_
  rintro e WD ⟨v9, rfl, hv9, hBD⟩
  have hsD := hBD.size
  replace hBD := hBC.trans (hBD.mono (by omega))
  have k1 := hv9.text hne
  have k2 := (HB.out.below hBD (Nat.le_refl _)).text hne
  clear hv9 hBC
  go_wp2_with fail
  have hsE := hBD.size
  refine (cG WD).mono ?_
  rintro e WE ⟨rfl, hBE⟩
  have hsF := hBE.size
  have z9 := Two.new WE 31 (.string P1) (.int .u8 y2)
  have hBF := (hBD.trans (hBE.mono (by omega))).alloc (by omega) (.cells #[.string P1, .int .u8 y2] 31)
  have a0 := z9.c0
  have a1 := z9.c1
  clear hBD hBE
  go_wp2_with fail
  generalize WE.alloc (.cells #[.string P1, .int .u8 y2] 31) = WF at *
  have hsG := hBF.size
  clear a0 a1 z9
  refine (cV WF).mono ?_
  rintro e WH ⟨rfl, hBH⟩
  go_wp2
  go_ret
  exact ⟨rfl, hBF.trans (hBH.mono (by omega))⟩

set_option maxHeartbeats 8000000 in
theorem back_101 (n0 : ByteArray) (r0 : BitVec 8) (vb : Value) (bs : List UInt8) (s : ByteArray) (W : World) (hb : Byt W vb bs)
    (hR : rightB (shortS n0).data.toList r0.toNat = true) (dn : List UInt8) (dr : BitVec 8) (de : Int) (hD : decodeO bs = (dn, dr, de)) (h2 : de ≠ 0) (pn : List UInt8) (pr : BitVec 8) (pe : Int) (hP : parseO (shortS s).data.toList = (pn, pr, pe)) (h3 : pe = 0) :
    Calls Try.prog 4 #[capV n0 r0.toNat, vb, .string s] W fun e W' => e = .returned (.bool true) ∧ Below W.heap.size W W' := by
  have c0 := fun w => short_any n0 w
  have c1 := fun w => short_any s w
  have s0 := shortS_size n0
  have s1 := shortS_size s
  generalize shortS n0 = m at *
  generalize shortS s = t at *
  have cB := fun w h => decode_any vb bs w h
  rw [hD] at cB
  have cG := fun w => parse_any t w (by omega)
  rw [hP] at cG
  have cV := fun w => live2_any w
  have cE := fun w => encode_ok m r0 w hR
  obtain ⟨t1, hpr, hpa⟩ := parse_print hR
  have ht1 : t1.length ≤ 400 := by
    have h1 := right_len hR
    have h2 := rightsO_len r0
    unfold printO at hpr
    rw [if_pos hR] at hpr
    cases hpr
    simp
    omega
  have cD := fun v w h => decode_any v (encL m.data.toList r0) w h
  rw [decode_encode hR] at cD
  have cP := fun w => print_any m r0 w (by omega)
  rw [hpr] at cP
  have cQ := fun w => parse_any ⟨t1.toArray⟩ w (by show t1.length ≤ 1000; omega)
  rw [show parseO (⟨t1.toArray⟩ : ByteArray).data.toList = _ from hpa] at cQ
  unfold capsV at cD cQ
  unfold textV at cP
  unfold capV at cP cE cD cQ
  simp only at cD cQ cP
  have eq1 : (⟨m.data.toList.toArray⟩ : ByteArray) = m := rfl
  rw [eq1] at cD cQ
  generalize encL m.data.toList r0 = E at *
  generalize (⟨t1.toArray⟩ : ByteArray) = T1 at *
  clear eq1 hpr hpa ht1
  have h2' : (de == 0) = false := beq_eq_false_iff_ne.2 h2
  clear h2
  subst h3
  have hpl := right_len (parseO_right hP)
  have cH := fun w => print_any ⟨pn.toArray⟩ pr w (by show pn.length ≤ 1000; omega)
  rw [show printO (⟨pn.toArray⟩ : ByteArray).data.toList pr = _ from print_parse hP] at cH
  unfold textV capV at cH
  simp only at cH
  have eq2 : (⟨t.data.toList.toArray⟩ : ByteArray) = t := rfl
  rw [eq2] at cH
  clear eq2 hpl
  unfold capsV at cB cG
  unfold capV at cB cG ⊢
  simp only at cB cG
  clear hR hD hP s0 s1
  have eC := eqCap
  have eG := eqGuardC
  have HB : Hid (Byt W vb bs) := hb
  clear hb
  generalize ((r0.toNat : Nat) : Int) = y0 at *
  generalize ((dr.toNat : Nat) : Int) = y1 at *
  generalize ((pr.toNat : Nat) : Int) = y2 at *
  generalize (⟨dn.toArray⟩ : ByteArray) = D1 at *
  generalize (⟨pn.toArray⟩ : ByteArray) = P1 at *
  go_enter Try.func4, Try.ntmps4
  go_wp2_with fail
  have t0 := Two.new W 31 (.string n0) (.int .u8 y0)
  have hB0 : Below W.heap.size W (W.alloc (.cells #[.string n0, .int .u8 y0] 31)) := (Below.refl _ W).alloc (Nat.le_refl _) _
  have hsz : (W.alloc (.cells #[.string n0, .int .u8 y0] 31)).heap.size = W.heap.size + 1 := by simp
  generalize (W.alloc (.cells #[.string n0, .int .u8 y0] 31)) = W1 at *
  have f0 := t0.f 0
  have t2 := t0.set0 (.string m)
  have a2 := t2.c0
  have a3 := t2.c1
  have a0 := t0.c0
  have hB2 := hB0.setCell (p := ⟨W.heap.size, 0, none⟩) (Nat.le_refl _) (.string m)
  have hs2 : (W1.setCell ⟨W.heap.size, 0, none⟩ (.string m)).heap.size = W.heap.size + 1 := by simp [World.setCell, hsz]
  refine (c0 _).mono ?_
  rintro e W0 ⟨rfl, hw⟩
  rw [hw]
  clear hw W0
  go_wp2_with fail
  refine (c1 _).mono ?_
  rintro e W0 ⟨rfl, hw⟩
  rw [hw]
  clear hw W0
  go_wp2_with fail
  generalize W1.setCell ⟨W.heap.size, 0, none⟩ (.string m) = W2 at *
  clear a0 f0 t0 hB0 hsz c0 c1
  refine (cE W2).mono ?_
  rintro e W3 ⟨v3, rfl, hv3, hB3⟩
  have hs3 := hB3.size
  have t3 := t2.below hB3 (by omega)
  have hB3' := hB2.trans (hB3.mono (by omega))
  clear a2 a3 t2 hB2
  go_wp2_with fail
  refine (cD v3 W3 hv3).mono ?_
  rintro e W4 ⟨rfl, hB4⟩
  have hs4 := hB4.size
  have t4 := (t3.below hB4 (by omega)).alloc (.cells #[.string m, .int .u8 y0] 31)
  have x4 := Two.new W4 31 (.string m) (.int .u8 y0)
  have hB4' := (hB3'.trans (hB4.mono (by omega))).alloc (by omega) (.cells #[.string m, .int .u8 y0] 31)
  have hs4' : (W4.alloc (.cells #[.string m, .int .u8 y0] 31)).heap.size = W4.heap.size + 1 := by simp
  have a0 := t4.c0
  have a1 := t4.c1
  clear hv3 t3 hB3'
  go_wp2_with fail
  generalize W4.alloc (.cells #[.string m, .int .u8 y0] 31) = W5 at *
  clear a0 a1
  refine (cP W5).mono ?_
  rintro e W6 ⟨rfl, hB6⟩
  have hs6 := hB6.size
  have t6 := t4.below hB6 (by omega)
  have x6 := x4.below hB6 (by omega)
  have hB6' := hB4'.trans (hB6.mono (by omega))
  clear t4 x4 hB4'
  go_wp2_with fail
  refine (cQ W6).mono ?_
  rintro e W7 ⟨rfl, hB7⟩
  have hs7 := hB7.size
  have t7 := (t6.below hB7 (by omega)).alloc (.cells #[.string m, .int .u8 y0] 31)
  have x7 := (x6.below hB7 (by omega)).alloc (.cells #[.string m, .int .u8 y0] 31)
  have y7 := Two.new W7 31 (.string m) (.int .u8 y0)
  have hBA := (hB6'.trans (hB7.mono (by omega))).alloc (by omega) (.cells #[.string m, .int .u8 y0] 31)
  have a0 := t7.c0
  have a1 := t7.c1
  have a2 := x7.c0
  have a3 := x7.c1
  have a4 := y7.c0
  have a5 := y7.c1
  clear t6 x6 hB6'
  go_wp2_with fail
  generalize W7.alloc (.cells #[.string m, .int .u8 y0] 31) = WA at *
  clear a0 a1 a2 a3 a4 a5 t7 x7 y7 hB3 hB4 hB6 hB7 hs2 hs3 hs4 hs4' hs6 hs7
  have hsA := hBA.size
  refine (cB WA (HB.out.below hBA (Nat.le_refl _))).mono ?_
  rintro e WB ⟨rfl, hBB⟩
  have hsB := hBB.size
  have hBD := (hBA.trans (hBB.mono (by omega))).alloc (by omega) (.cells #[.string D1, .int .u8 y1] 31)
  clear hBA hBB
  go_wp2_with fail
  generalize WB.alloc (.cells #[.string D1, .int .u8 y1] 31) = WD at *
  have hsE := hBD.size
  refine (cG WD).mono ?_
  rintro e WE ⟨rfl, hBE⟩
  have hsF := hBE.size
  have z9 := Two.new WE 31 (.string P1) (.int .u8 y2)
  have hBF := (hBD.trans (hBE.mono (by omega))).alloc (by omega) (.cells #[.string P1, .int .u8 y2] 31)
  have a0 := z9.c0
  have a1 := z9.c1
  clear hBD hBE
  go_wp2_with fail
  generalize WE.alloc (.cells #[.string P1, .int .u8 y2] 31) = WF at *
  have hsG := hBF.size
  clear a0 a1 z9
  refine (cH WF).mono ?_
  rintro e WG ⟨rfl, hBG⟩
  have hsH := hBG.size
  replace hBG := hBF.trans (hBG.mono (by omega))
  go_wp2_with fail
  refine (cV WG).mono ?_
  rintro e WH ⟨rfl, hBH⟩
  go_wp2
  go_ret
  exact ⟨rfl, hBG.trans (hBH.mono (by omega))⟩

set_option maxHeartbeats 8000000 in
theorem back_100 (n0 : ByteArray) (r0 : BitVec 8) (vb : Value) (bs : List UInt8) (s : ByteArray) (W : World) (hb : Byt W vb bs)
    (hR : rightB (shortS n0).data.toList r0.toNat = true) (dn : List UInt8) (dr : BitVec 8) (de : Int) (hD : decodeO bs = (dn, dr, de)) (h2 : de ≠ 0) (pn : List UInt8) (pr : BitVec 8) (pe : Int) (hP : parseO (shortS s).data.toList = (pn, pr, pe)) (h3 : pe ≠ 0) :
    Calls Try.prog 4 #[capV n0 r0.toNat, vb, .string s] W fun e W' => e = .returned (.bool true) ∧ Below W.heap.size W W' := by
  have c0 := fun w => short_any n0 w
  have c1 := fun w => short_any s w
  have s0 := shortS_size n0
  have s1 := shortS_size s
  generalize shortS n0 = m at *
  generalize shortS s = t at *
  have cB := fun w h => decode_any vb bs w h
  rw [hD] at cB
  have cG := fun w => parse_any t w (by omega)
  rw [hP] at cG
  have cV := fun w => live2_any w
  have cE := fun w => encode_ok m r0 w hR
  obtain ⟨t1, hpr, hpa⟩ := parse_print hR
  have ht1 : t1.length ≤ 400 := by
    have h1 := right_len hR
    have h2 := rightsO_len r0
    unfold printO at hpr
    rw [if_pos hR] at hpr
    cases hpr
    simp
    omega
  have cD := fun v w h => decode_any v (encL m.data.toList r0) w h
  rw [decode_encode hR] at cD
  have cP := fun w => print_any m r0 w (by omega)
  rw [hpr] at cP
  have cQ := fun w => parse_any ⟨t1.toArray⟩ w (by show t1.length ≤ 1000; omega)
  rw [show parseO (⟨t1.toArray⟩ : ByteArray).data.toList = _ from hpa] at cQ
  unfold capsV at cD cQ
  unfold textV at cP
  unfold capV at cP cE cD cQ
  simp only at cD cQ cP
  have eq1 : (⟨m.data.toList.toArray⟩ : ByteArray) = m := rfl
  rw [eq1] at cD cQ
  generalize encL m.data.toList r0 = E at *
  generalize (⟨t1.toArray⟩ : ByteArray) = T1 at *
  clear eq1 hpr hpa ht1
  have h2' : (de == 0) = false := beq_eq_false_iff_ne.2 h2
  clear h2
  have h3' : (pe != 0) = true := bne_iff_ne.2 h3
  clear h3
  unfold capsV at cB cG
  unfold capV at cB cG ⊢
  simp only at cB cG
  clear hR hD hP s0 s1
  have eC := eqCap
  have eG := eqGuardC
  have HB : Hid (Byt W vb bs) := hb
  clear hb
  generalize ((r0.toNat : Nat) : Int) = y0 at *
  generalize ((dr.toNat : Nat) : Int) = y1 at *
  generalize ((pr.toNat : Nat) : Int) = y2 at *
  generalize (⟨dn.toArray⟩ : ByteArray) = D1 at *
  generalize (⟨pn.toArray⟩ : ByteArray) = P1 at *
  go_enter Try.func4, Try.ntmps4
  go_wp2_with fail
  have t0 := Two.new W 31 (.string n0) (.int .u8 y0)
  have hB0 : Below W.heap.size W (W.alloc (.cells #[.string n0, .int .u8 y0] 31)) := (Below.refl _ W).alloc (Nat.le_refl _) _
  have hsz : (W.alloc (.cells #[.string n0, .int .u8 y0] 31)).heap.size = W.heap.size + 1 := by simp
  generalize (W.alloc (.cells #[.string n0, .int .u8 y0] 31)) = W1 at *
  have f0 := t0.f 0
  have t2 := t0.set0 (.string m)
  have a2 := t2.c0
  have a3 := t2.c1
  have a0 := t0.c0
  have hB2 := hB0.setCell (p := ⟨W.heap.size, 0, none⟩) (Nat.le_refl _) (.string m)
  have hs2 : (W1.setCell ⟨W.heap.size, 0, none⟩ (.string m)).heap.size = W.heap.size + 1 := by simp [World.setCell, hsz]
  refine (c0 _).mono ?_
  rintro e W0 ⟨rfl, hw⟩
  rw [hw]
  clear hw W0
  go_wp2_with fail
  refine (c1 _).mono ?_
  rintro e W0 ⟨rfl, hw⟩
  rw [hw]
  clear hw W0
  go_wp2_with fail
  generalize W1.setCell ⟨W.heap.size, 0, none⟩ (.string m) = W2 at *
  clear a0 f0 t0 hB0 hsz c0 c1
  refine (cE W2).mono ?_
  rintro e W3 ⟨v3, rfl, hv3, hB3⟩
  have hs3 := hB3.size
  have t3 := t2.below hB3 (by omega)
  have hB3' := hB2.trans (hB3.mono (by omega))
  clear a2 a3 t2 hB2
  go_wp2_with fail
  refine (cD v3 W3 hv3).mono ?_
  rintro e W4 ⟨rfl, hB4⟩
  have hs4 := hB4.size
  have t4 := (t3.below hB4 (by omega)).alloc (.cells #[.string m, .int .u8 y0] 31)
  have x4 := Two.new W4 31 (.string m) (.int .u8 y0)
  have hB4' := (hB3'.trans (hB4.mono (by omega))).alloc (by omega) (.cells #[.string m, .int .u8 y0] 31)
  have hs4' : (W4.alloc (.cells #[.string m, .int .u8 y0] 31)).heap.size = W4.heap.size + 1 := by simp
  have a0 := t4.c0
  have a1 := t4.c1
  clear hv3 t3 hB3'
  go_wp2_with fail
  generalize W4.alloc (.cells #[.string m, .int .u8 y0] 31) = W5 at *
  clear a0 a1
  refine (cP W5).mono ?_
  rintro e W6 ⟨rfl, hB6⟩
  have hs6 := hB6.size
  have t6 := t4.below hB6 (by omega)
  have x6 := x4.below hB6 (by omega)
  have hB6' := hB4'.trans (hB6.mono (by omega))
  clear t4 x4 hB4'
  go_wp2_with fail
  refine (cQ W6).mono ?_
  rintro e W7 ⟨rfl, hB7⟩
  have hs7 := hB7.size
  have t7 := (t6.below hB7 (by omega)).alloc (.cells #[.string m, .int .u8 y0] 31)
  have x7 := (x6.below hB7 (by omega)).alloc (.cells #[.string m, .int .u8 y0] 31)
  have y7 := Two.new W7 31 (.string m) (.int .u8 y0)
  have hBA := (hB6'.trans (hB7.mono (by omega))).alloc (by omega) (.cells #[.string m, .int .u8 y0] 31)
  have a0 := t7.c0
  have a1 := t7.c1
  have a2 := x7.c0
  have a3 := x7.c1
  have a4 := y7.c0
  have a5 := y7.c1
  clear t6 x6 hB6'
  go_wp2_with fail
  generalize W7.alloc (.cells #[.string m, .int .u8 y0] 31) = WA at *
  clear a0 a1 a2 a3 a4 a5 t7 x7 y7 hB3 hB4 hB6 hB7 hs2 hs3 hs4 hs4' hs6 hs7
  have hsA := hBA.size
  refine (cB WA (HB.out.below hBA (Nat.le_refl _))).mono ?_
  rintro e WB ⟨rfl, hBB⟩
  have hsB := hBB.size
  have hBD := (hBA.trans (hBB.mono (by omega))).alloc (by omega) (.cells #[.string D1, .int .u8 y1] 31)
  clear hBA hBB
  go_wp2_with fail
  generalize WB.alloc (.cells #[.string D1, .int .u8 y1] 31) = WD at *
  have hsE := hBD.size
  refine (cG WD).mono ?_
  rintro e WE ⟨rfl, hBE⟩
  have hsF := hBE.size
  have z9 := Two.new WE 31 (.string P1) (.int .u8 y2)
  have hBF := (hBD.trans (hBE.mono (by omega))).alloc (by omega) (.cells #[.string P1, .int .u8 y2] 31)
  have a0 := z9.c0
  have a1 := z9.c1
  clear hBD hBE
  go_wp2_with fail
  generalize WE.alloc (.cells #[.string P1, .int .u8 y2] 31) = WF at *
  have hsG := hBF.size
  clear a0 a1 z9
  refine (cV WF).mono ?_
  rintro e WH ⟨rfl, hBH⟩
  go_wp2
  go_ret
  exact ⟨rfl, hBF.trans (hBH.mono (by omega))⟩

set_option maxHeartbeats 8000000 in
theorem back_011 (n0 : ByteArray) (r0 : BitVec 8) (vb : Value) (bs : List UInt8) (s : ByteArray) (W : World) (hb : Byt W vb bs)
    (hR : rightB (shortS n0).data.toList r0.toNat = false) (dn : List UInt8) (dr : BitVec 8) (de : Int) (hD : decodeO bs = (dn, dr, de)) (h2 : de = 0) (pn : List UInt8) (pr : BitVec 8) (pe : Int) (hP : parseO (shortS s).data.toList = (pn, pr, pe)) (h3 : pe = 0) :
    Calls Try.prog 4 #[capV n0 r0.toNat, vb, .string s] W fun e W' => e = .returned (.bool true) ∧ Below W.heap.size W W' := by
  have c0 := fun w => short_any n0 w
  have c1 := fun w => short_any s w
  have s0 := shortS_size n0
  have s1 := shortS_size s
  generalize shortS n0 = m at *
  generalize shortS s = t at *
  have cB := fun w h => decode_any vb bs w h
  rw [hD] at cB
  have cG := fun w => parse_any t w (by omega)
  rw [hP] at cG
  have cV := fun w => live2_any w
  have cE := fun w => encode_no m r0 w (by omega) hR
  unfold capV at cE
  subst h2
  obtain ⟨hbs, hbr⟩ := encode_decode hD
  have cF := fun w => encode_ok ⟨dn.toArray⟩ dr w hbr
  rw [show encL (⟨dn.toArray⟩ : ByteArray).data.toList dr = bs from hbs.symm] at cF
  have hne : bs ≠ [] := by rw [hbs]; unfold encL; simp
  unfold capV at cF
  clear hbs hbr
  subst h3
  have hpl := right_len (parseO_right hP)
  have cH := fun w => print_any ⟨pn.toArray⟩ pr w (by show pn.length ≤ 1000; omega)
  rw [show printO (⟨pn.toArray⟩ : ByteArray).data.toList pr = _ from print_parse hP] at cH
  unfold textV capV at cH
  simp only at cH
  have eq2 : (⟨t.data.toList.toArray⟩ : ByteArray) = t := rfl
  rw [eq2] at cH
  clear eq2 hpl
  unfold capsV at cB cG
  unfold capV at cB cG ⊢
  simp only at cB cG
  clear hR hD hP s0 s1
  have eC := eqCap
  have eG := eqGuardC
  have HB : Hid (Byt W vb bs) := hb
  clear hb
  generalize ((r0.toNat : Nat) : Int) = y0 at *
  generalize ((dr.toNat : Nat) : Int) = y1 at *
  generalize ((pr.toNat : Nat) : Int) = y2 at *
  generalize (⟨dn.toArray⟩ : ByteArray) = D1 at *
  generalize (⟨pn.toArray⟩ : ByteArray) = P1 at *
  go_enter Try.func4, Try.ntmps4
  go_wp2_with fail
  have t0 := Two.new W 31 (.string n0) (.int .u8 y0)
  have hB0 : Below W.heap.size W (W.alloc (.cells #[.string n0, .int .u8 y0] 31)) := (Below.refl _ W).alloc (Nat.le_refl _) _
  have hsz : (W.alloc (.cells #[.string n0, .int .u8 y0] 31)).heap.size = W.heap.size + 1 := by simp
  generalize (W.alloc (.cells #[.string n0, .int .u8 y0] 31)) = W1 at *
  have f0 := t0.f 0
  have t2 := t0.set0 (.string m)
  have a2 := t2.c0
  have a3 := t2.c1
  have a0 := t0.c0
  have hB2 := hB0.setCell (p := ⟨W.heap.size, 0, none⟩) (Nat.le_refl _) (.string m)
  have hs2 : (W1.setCell ⟨W.heap.size, 0, none⟩ (.string m)).heap.size = W.heap.size + 1 := by simp [World.setCell, hsz]
  refine (c0 _).mono ?_
  rintro e W0 ⟨rfl, hw⟩
  rw [hw]
  clear hw W0
  go_wp2_with fail
  refine (c1 _).mono ?_
  rintro e W0 ⟨rfl, hw⟩
  rw [hw]
  clear hw W0
  go_wp2_with fail
  generalize W1.setCell ⟨W.heap.size, 0, none⟩ (.string m) = W2 at *
  clear a0 f0 t0 hB0 hsz c0 c1
  refine (cE W2).mono ?_
  rintro e WA ⟨rfl, hBA⟩
  have hsA := hBA.size
  replace hBA := hB2.trans (hBA.mono (by omega))
  clear a2 a3 t2 hB2 hs2 hsA
  go_wp2_with fail
  have hsA := hBA.size
  refine (cB WA (HB.out.below hBA (Nat.le_refl _))).mono ?_
  rintro e WB ⟨rfl, hBB⟩
  have hsB := hBB.size
  have x9 := Two.new WB 31 (.string D1) (.int .u8 y1)
  have hBC := (hBA.trans (hBB.mono (by omega))).alloc (by omega) (.cells #[.string D1, .int .u8 y1] 31)
  have a0 := x9.c0
  have a1 := x9.c1
  clear hBA hBB
  go_wp2_with fail
  generalize WB.alloc (.cells #[.string D1, .int .u8 y1] 31) = WC at *
  clear a0 a1 x9
  have hsC := hBC.size
  refine (cF WC).mono ?_
  rintro e WD ⟨v9, rfl, hv9, hBD⟩
  have hsD := hBD.size
  replace hBD := hBC.trans (hBD.mono (by omega))
  have k1 := hv9.text hne
  have k2 := (HB.out.below hBD (Nat.le_refl _)).text hne
  clear hv9 hBC
  go_wp2_with fail
  have hsE := hBD.size
  refine (cG WD).mono ?_
  rintro e WE ⟨rfl, hBE⟩
  have hsF := hBE.size
  have z9 := Two.new WE 31 (.string P1) (.int .u8 y2)
  have hBF := (hBD.trans (hBE.mono (by omega))).alloc (by omega) (.cells #[.string P1, .int .u8 y2] 31)
  have a0 := z9.c0
  have a1 := z9.c1
  clear hBD hBE
  go_wp2_with fail
  generalize WE.alloc (.cells #[.string P1, .int .u8 y2] 31) = WF at *
  have hsG := hBF.size
  clear a0 a1 z9
  refine (cH WF).mono ?_
  rintro e WG ⟨rfl, hBG⟩
  have hsH := hBG.size
  replace hBG := hBF.trans (hBG.mono (by omega))
  go_wp2_with fail
  refine (cV WG).mono ?_
  rintro e WH ⟨rfl, hBH⟩
  go_wp2
  go_ret
  exact ⟨rfl, hBG.trans (hBH.mono (by omega))⟩

set_option maxHeartbeats 8000000 in
theorem back_010 (n0 : ByteArray) (r0 : BitVec 8) (vb : Value) (bs : List UInt8) (s : ByteArray) (W : World) (hb : Byt W vb bs)
    (hR : rightB (shortS n0).data.toList r0.toNat = false) (dn : List UInt8) (dr : BitVec 8) (de : Int) (hD : decodeO bs = (dn, dr, de)) (h2 : de = 0) (pn : List UInt8) (pr : BitVec 8) (pe : Int) (hP : parseO (shortS s).data.toList = (pn, pr, pe)) (h3 : pe ≠ 0) :
    Calls Try.prog 4 #[capV n0 r0.toNat, vb, .string s] W fun e W' => e = .returned (.bool true) ∧ Below W.heap.size W W' := by
  have c0 := fun w => short_any n0 w
  have c1 := fun w => short_any s w
  have s0 := shortS_size n0
  have s1 := shortS_size s
  generalize shortS n0 = m at *
  generalize shortS s = t at *
  have cB := fun w h => decode_any vb bs w h
  rw [hD] at cB
  have cG := fun w => parse_any t w (by omega)
  rw [hP] at cG
  have cV := fun w => live2_any w
  have cE := fun w => encode_no m r0 w (by omega) hR
  unfold capV at cE
  subst h2
  obtain ⟨hbs, hbr⟩ := encode_decode hD
  have cF := fun w => encode_ok ⟨dn.toArray⟩ dr w hbr
  rw [show encL (⟨dn.toArray⟩ : ByteArray).data.toList dr = bs from hbs.symm] at cF
  have hne : bs ≠ [] := by rw [hbs]; unfold encL; simp
  unfold capV at cF
  clear hbs hbr
  have h3' : (pe != 0) = true := bne_iff_ne.2 h3
  clear h3
  unfold capsV at cB cG
  unfold capV at cB cG ⊢
  simp only at cB cG
  clear hR hD hP s0 s1
  have eC := eqCap
  have eG := eqGuardC
  have HB : Hid (Byt W vb bs) := hb
  clear hb
  generalize ((r0.toNat : Nat) : Int) = y0 at *
  generalize ((dr.toNat : Nat) : Int) = y1 at *
  generalize ((pr.toNat : Nat) : Int) = y2 at *
  generalize (⟨dn.toArray⟩ : ByteArray) = D1 at *
  generalize (⟨pn.toArray⟩ : ByteArray) = P1 at *
  go_enter Try.func4, Try.ntmps4
  go_wp2_with fail
  have t0 := Two.new W 31 (.string n0) (.int .u8 y0)
  have hB0 : Below W.heap.size W (W.alloc (.cells #[.string n0, .int .u8 y0] 31)) := (Below.refl _ W).alloc (Nat.le_refl _) _
  have hsz : (W.alloc (.cells #[.string n0, .int .u8 y0] 31)).heap.size = W.heap.size + 1 := by simp
  generalize (W.alloc (.cells #[.string n0, .int .u8 y0] 31)) = W1 at *
  have f0 := t0.f 0
  have t2 := t0.set0 (.string m)
  have a2 := t2.c0
  have a3 := t2.c1
  have a0 := t0.c0
  have hB2 := hB0.setCell (p := ⟨W.heap.size, 0, none⟩) (Nat.le_refl _) (.string m)
  have hs2 : (W1.setCell ⟨W.heap.size, 0, none⟩ (.string m)).heap.size = W.heap.size + 1 := by simp [World.setCell, hsz]
  refine (c0 _).mono ?_
  rintro e W0 ⟨rfl, hw⟩
  rw [hw]
  clear hw W0
  go_wp2_with fail
  refine (c1 _).mono ?_
  rintro e W0 ⟨rfl, hw⟩
  rw [hw]
  clear hw W0
  go_wp2_with fail
  generalize W1.setCell ⟨W.heap.size, 0, none⟩ (.string m) = W2 at *
  clear a0 f0 t0 hB0 hsz c0 c1
  refine (cE W2).mono ?_
  rintro e WA ⟨rfl, hBA⟩
  have hsA := hBA.size
  replace hBA := hB2.trans (hBA.mono (by omega))
  clear a2 a3 t2 hB2 hs2 hsA
  go_wp2_with fail
  have hsA := hBA.size
  refine (cB WA (HB.out.below hBA (Nat.le_refl _))).mono ?_
  rintro e WB ⟨rfl, hBB⟩
  have hsB := hBB.size
  have x9 := Two.new WB 31 (.string D1) (.int .u8 y1)
  have hBC := (hBA.trans (hBB.mono (by omega))).alloc (by omega) (.cells #[.string D1, .int .u8 y1] 31)
  have a0 := x9.c0
  have a1 := x9.c1
  clear hBA hBB
  go_wp2_with fail
  generalize WB.alloc (.cells #[.string D1, .int .u8 y1] 31) = WC at *
  clear a0 a1 x9
  have hsC := hBC.size
  refine (cF WC).mono ?_
  rintro e WD ⟨v9, rfl, hv9, hBD⟩
  have hsD := hBD.size
  replace hBD := hBC.trans (hBD.mono (by omega))
  have k1 := hv9.text hne
  have k2 := (HB.out.below hBD (Nat.le_refl _)).text hne
  clear hv9 hBC
  go_wp2_with fail
  have hsE := hBD.size
  refine (cG WD).mono ?_
  rintro e WE ⟨rfl, hBE⟩
  have hsF := hBE.size
  have z9 := Two.new WE 31 (.string P1) (.int .u8 y2)
  have hBF := (hBD.trans (hBE.mono (by omega))).alloc (by omega) (.cells #[.string P1, .int .u8 y2] 31)
  have a0 := z9.c0
  have a1 := z9.c1
  clear hBD hBE
  go_wp2_with fail
  generalize WE.alloc (.cells #[.string P1, .int .u8 y2] 31) = WF at *
  have hsG := hBF.size
  clear a0 a1 z9
  refine (cV WF).mono ?_
  rintro e WH ⟨rfl, hBH⟩
  go_wp2
  go_ret
  exact ⟨rfl, hBF.trans (hBH.mono (by omega))⟩

set_option maxHeartbeats 8000000 in
theorem back_001 (n0 : ByteArray) (r0 : BitVec 8) (vb : Value) (bs : List UInt8) (s : ByteArray) (W : World) (hb : Byt W vb bs)
    (hR : rightB (shortS n0).data.toList r0.toNat = false) (dn : List UInt8) (dr : BitVec 8) (de : Int) (hD : decodeO bs = (dn, dr, de)) (h2 : de ≠ 0) (pn : List UInt8) (pr : BitVec 8) (pe : Int) (hP : parseO (shortS s).data.toList = (pn, pr, pe)) (h3 : pe = 0) :
    Calls Try.prog 4 #[capV n0 r0.toNat, vb, .string s] W fun e W' => e = .returned (.bool true) ∧ Below W.heap.size W W' := by
  have c0 := fun w => short_any n0 w
  have c1 := fun w => short_any s w
  have s0 := shortS_size n0
  have s1 := shortS_size s
  generalize shortS n0 = m at *
  generalize shortS s = t at *
  have cB := fun w h => decode_any vb bs w h
  rw [hD] at cB
  have cG := fun w => parse_any t w (by omega)
  rw [hP] at cG
  have cV := fun w => live2_any w
  have cE := fun w => encode_no m r0 w (by omega) hR
  unfold capV at cE
  have h2' : (de == 0) = false := beq_eq_false_iff_ne.2 h2
  clear h2
  subst h3
  have hpl := right_len (parseO_right hP)
  have cH := fun w => print_any ⟨pn.toArray⟩ pr w (by show pn.length ≤ 1000; omega)
  rw [show printO (⟨pn.toArray⟩ : ByteArray).data.toList pr = _ from print_parse hP] at cH
  unfold textV capV at cH
  simp only at cH
  have eq2 : (⟨t.data.toList.toArray⟩ : ByteArray) = t := rfl
  rw [eq2] at cH
  clear eq2 hpl
  unfold capsV at cB cG
  unfold capV at cB cG ⊢
  simp only at cB cG
  clear hR hD hP s0 s1
  have eC := eqCap
  have eG := eqGuardC
  have HB : Hid (Byt W vb bs) := hb
  clear hb
  generalize ((r0.toNat : Nat) : Int) = y0 at *
  generalize ((dr.toNat : Nat) : Int) = y1 at *
  generalize ((pr.toNat : Nat) : Int) = y2 at *
  generalize (⟨dn.toArray⟩ : ByteArray) = D1 at *
  generalize (⟨pn.toArray⟩ : ByteArray) = P1 at *
  go_enter Try.func4, Try.ntmps4
  go_wp2_with fail
  have t0 := Two.new W 31 (.string n0) (.int .u8 y0)
  have hB0 : Below W.heap.size W (W.alloc (.cells #[.string n0, .int .u8 y0] 31)) := (Below.refl _ W).alloc (Nat.le_refl _) _
  have hsz : (W.alloc (.cells #[.string n0, .int .u8 y0] 31)).heap.size = W.heap.size + 1 := by simp
  generalize (W.alloc (.cells #[.string n0, .int .u8 y0] 31)) = W1 at *
  have f0 := t0.f 0
  have t2 := t0.set0 (.string m)
  have a2 := t2.c0
  have a3 := t2.c1
  have a0 := t0.c0
  have hB2 := hB0.setCell (p := ⟨W.heap.size, 0, none⟩) (Nat.le_refl _) (.string m)
  have hs2 : (W1.setCell ⟨W.heap.size, 0, none⟩ (.string m)).heap.size = W.heap.size + 1 := by simp [World.setCell, hsz]
  refine (c0 _).mono ?_
  rintro e W0 ⟨rfl, hw⟩
  rw [hw]
  clear hw W0
  go_wp2_with fail
  refine (c1 _).mono ?_
  rintro e W0 ⟨rfl, hw⟩
  rw [hw]
  clear hw W0
  go_wp2_with fail
  generalize W1.setCell ⟨W.heap.size, 0, none⟩ (.string m) = W2 at *
  clear a0 f0 t0 hB0 hsz c0 c1
  refine (cE W2).mono ?_
  rintro e WA ⟨rfl, hBA⟩
  have hsA := hBA.size
  replace hBA := hB2.trans (hBA.mono (by omega))
  clear a2 a3 t2 hB2 hs2 hsA
  go_wp2_with fail
  have hsA := hBA.size
  refine (cB WA (HB.out.below hBA (Nat.le_refl _))).mono ?_
  rintro e WB ⟨rfl, hBB⟩
  have hsB := hBB.size
  have hBD := (hBA.trans (hBB.mono (by omega))).alloc (by omega) (.cells #[.string D1, .int .u8 y1] 31)
  clear hBA hBB
  go_wp2_with fail
  generalize WB.alloc (.cells #[.string D1, .int .u8 y1] 31) = WD at *
  have hsE := hBD.size
  refine (cG WD).mono ?_
  rintro e WE ⟨rfl, hBE⟩
  have hsF := hBE.size
  have z9 := Two.new WE 31 (.string P1) (.int .u8 y2)
  have hBF := (hBD.trans (hBE.mono (by omega))).alloc (by omega) (.cells #[.string P1, .int .u8 y2] 31)
  have a0 := z9.c0
  have a1 := z9.c1
  clear hBD hBE
  go_wp2_with fail
  generalize WE.alloc (.cells #[.string P1, .int .u8 y2] 31) = WF at *
  have hsG := hBF.size
  clear a0 a1 z9
  refine (cH WF).mono ?_
  rintro e WG ⟨rfl, hBG⟩
  have hsH := hBG.size
  replace hBG := hBF.trans (hBG.mono (by omega))
  go_wp2_with fail
  refine (cV WG).mono ?_
  rintro e WH ⟨rfl, hBH⟩
  go_wp2
  go_ret
  exact ⟨rfl, hBG.trans (hBH.mono (by omega))⟩

set_option maxHeartbeats 8000000 in
theorem back_000 (n0 : ByteArray) (r0 : BitVec 8) (vb : Value) (bs : List UInt8) (s : ByteArray) (W : World) (hb : Byt W vb bs)
    (hR : rightB (shortS n0).data.toList r0.toNat = false) (dn : List UInt8) (dr : BitVec 8) (de : Int) (hD : decodeO bs = (dn, dr, de)) (h2 : de ≠ 0) (pn : List UInt8) (pr : BitVec 8) (pe : Int) (hP : parseO (shortS s).data.toList = (pn, pr, pe)) (h3 : pe ≠ 0) :
    Calls Try.prog 4 #[capV n0 r0.toNat, vb, .string s] W fun e W' => e = .returned (.bool true) ∧ Below W.heap.size W W' := by
  have c0 := fun w => short_any n0 w
  have c1 := fun w => short_any s w
  have s0 := shortS_size n0
  have s1 := shortS_size s
  generalize shortS n0 = m at *
  generalize shortS s = t at *
  have cB := fun w h => decode_any vb bs w h
  rw [hD] at cB
  have cG := fun w => parse_any t w (by omega)
  rw [hP] at cG
  have cV := fun w => live2_any w
  have cE := fun w => encode_no m r0 w (by omega) hR
  unfold capV at cE
  have h2' : (de == 0) = false := beq_eq_false_iff_ne.2 h2
  clear h2
  have h3' : (pe != 0) = true := bne_iff_ne.2 h3
  clear h3
  unfold capsV at cB cG
  unfold capV at cB cG ⊢
  simp only at cB cG
  clear hR hD hP s0 s1
  have eC := eqCap
  have eG := eqGuardC
  have HB : Hid (Byt W vb bs) := hb
  clear hb
  generalize ((r0.toNat : Nat) : Int) = y0 at *
  generalize ((dr.toNat : Nat) : Int) = y1 at *
  generalize ((pr.toNat : Nat) : Int) = y2 at *
  generalize (⟨dn.toArray⟩ : ByteArray) = D1 at *
  generalize (⟨pn.toArray⟩ : ByteArray) = P1 at *
  go_enter Try.func4, Try.ntmps4
  go_wp2_with fail
  have t0 := Two.new W 31 (.string n0) (.int .u8 y0)
  have hB0 : Below W.heap.size W (W.alloc (.cells #[.string n0, .int .u8 y0] 31)) := (Below.refl _ W).alloc (Nat.le_refl _) _
  have hsz : (W.alloc (.cells #[.string n0, .int .u8 y0] 31)).heap.size = W.heap.size + 1 := by simp
  generalize (W.alloc (.cells #[.string n0, .int .u8 y0] 31)) = W1 at *
  have f0 := t0.f 0
  have t2 := t0.set0 (.string m)
  have a2 := t2.c0
  have a3 := t2.c1
  have a0 := t0.c0
  have hB2 := hB0.setCell (p := ⟨W.heap.size, 0, none⟩) (Nat.le_refl _) (.string m)
  have hs2 : (W1.setCell ⟨W.heap.size, 0, none⟩ (.string m)).heap.size = W.heap.size + 1 := by simp [World.setCell, hsz]
  refine (c0 _).mono ?_
  rintro e W0 ⟨rfl, hw⟩
  rw [hw]
  clear hw W0
  go_wp2_with fail
  refine (c1 _).mono ?_
  rintro e W0 ⟨rfl, hw⟩
  rw [hw]
  clear hw W0
  go_wp2_with fail
  generalize W1.setCell ⟨W.heap.size, 0, none⟩ (.string m) = W2 at *
  clear a0 f0 t0 hB0 hsz c0 c1
  refine (cE W2).mono ?_
  rintro e WA ⟨rfl, hBA⟩
  have hsA := hBA.size
  replace hBA := hB2.trans (hBA.mono (by omega))
  clear a2 a3 t2 hB2 hs2 hsA
  go_wp2_with fail
  have hsA := hBA.size
  refine (cB WA (HB.out.below hBA (Nat.le_refl _))).mono ?_
  rintro e WB ⟨rfl, hBB⟩
  have hsB := hBB.size
  have hBD := (hBA.trans (hBB.mono (by omega))).alloc (by omega) (.cells #[.string D1, .int .u8 y1] 31)
  clear hBA hBB
  go_wp2_with fail
  generalize WB.alloc (.cells #[.string D1, .int .u8 y1] 31) = WD at *
  have hsE := hBD.size
  refine (cG WD).mono ?_
  rintro e WE ⟨rfl, hBE⟩
  have hsF := hBE.size
  have z9 := Two.new WE 31 (.string P1) (.int .u8 y2)
  have hBF := (hBD.trans (hBE.mono (by omega))).alloc (by omega) (.cells #[.string P1, .int .u8 y2] 31)
  have a0 := z9.c0
  have a1 := z9.c1
  clear hBD hBE
  go_wp2_with fail
  generalize WE.alloc (.cells #[.string P1, .int .u8 y2] 31) = WF at *
  have hsG := hBF.size
  clear a0 a1 z9
  refine (cV WF).mono ?_
  rintro e WH ⟨rfl, hBH⟩
  go_wp2
  go_ret
  exact ⟨rfl, hBF.trans (hBH.mono (by omega))⟩

theorem back_walk (n0 : ByteArray) (r0 : BitVec 8) (vb : Value) (bs : List UInt8) (s : ByteArray) (W : World) (hb : Byt W vb bs) :
    Calls Try.prog 4 #[capV n0 r0.toNat, vb, .string s] W fun e W' => e = .returned (.bool true) ∧ Below W.heap.size W W' := by
  obtain ⟨dn, dr, de, hD⟩ : ∃ dn dr de, decodeO bs = (dn, dr, de) := ⟨_, _, _, rfl⟩
  obtain ⟨pn, pr, pe, hP⟩ : ∃ pn pr pe, parseO (shortS s).data.toList = (pn, pr, pe) := ⟨_, _, _, rfl⟩
  cases hR : rightB (shortS n0).data.toList r0.toNat with
  | true =>
    by_cases h2 : de = 0 <;> by_cases h3 : pe = 0
    · exact back_111 n0 r0 vb bs s W hb hR dn dr de hD h2 pn pr pe hP h3
    · exact back_110 n0 r0 vb bs s W hb hR dn dr de hD h2 pn pr pe hP h3
    · exact back_101 n0 r0 vb bs s W hb hR dn dr de hD h2 pn pr pe hP h3
    · exact back_100 n0 r0 vb bs s W hb hR dn dr de hD h2 pn pr pe hP h3
  | false =>
    by_cases h2 : de = 0 <;> by_cases h3 : pe = 0
    · exact back_011 n0 r0 vb bs s W hb hR dn dr de hD h2 pn pr pe hP h3
    · exact back_010 n0 r0 vb bs s W hb hR dn dr de hD h2 pn pr pe hP h3
    · exact back_001 n0 r0 vb bs s W hb hR dn dr de hD h2 pn pr pe hP h3
    · exact back_000 n0 r0 vb bs s W hb hR dn dr de hD h2 pn pr pe hP h3
end Go.Proofs.Ytjocjjclgebfnaa
