/- NameCodes: a capability's bytes and text, those that bytes and a text say, or the errors: as the document says. -/
import Derived.Test.YtjocjjclgebfnaaDoorRefX
import Derived.StillTail
import Derived.StillTactics
namespace Go.Proofs.YtjocjjclgebfnaaDoor
open Go.RowKit Go.Shelf
set_option linter.unusedVariables false

theorem eqGuardC : Tryd.prog.eqGuardType Tryd.prog.depth 34 = false := by kernel_rfl
theorem eqCap (w : World) (n : ByteArray) (r : Int) : (Op.equalIn 10000 34 (.agg #[.string n, .int .u8 r]) (.agg #[.string n, .int .u8 r])).run Tryd.prog w = .ok true w := by
  show (Op.equalIn (9998 + 1 + 1) 34 _ _).run Tryd.prog w = _
  rw [Op.equalIn]
  simp only [Sem.run_bind, run_underlying Tryd.underlying34, Result.andThen_ok]
  simp [go_sem]
theorem Byt.take {w : World} {a : Option Addr} {n cap : Nat} {bs : List UInt8} (h : Byt w (.slice a n cap) bs) (k : Nat) (hk : k ≤ n) : Byt w (.slice a k cap) (bs.take k) := by
  obtain ⟨a', cap', hv, hc, hm, h⟩ := h
  cases hv
  refine ⟨a, cap, by rw [List.length_take, Nat.min_eq_left hk], by rw [List.length_take]; omega, hm, fun j x hx => ?_⟩
  rw [List.getElem?_take] at hx
  split at hx
  · exact h j x hx
  · cases hx
theorem nil_text (w : World) : (convert 35 9 (.slice none 0 0)).run Tryd.prog w = .ok (.string ByteArray.empty) w := run_convert_bytes_nil w 35 5 Tryd.underlying35 Tryd.underlying5 0 0 9 Tryd.underlying9

set_option maxHeartbeats 8000000 in
theorem codes_11 (n0 : ByteArray) (r0 : BitVec 8) (ao : Option Addr) (ln cap : Nat) (bs cs : List UInt8) (s : ByteArray) (W : World) (hT : NTabs W) (hb : Byt W (.slice ao ln cap) bs) (hlc : ln ≤ cap)
    (hln : 300 < ln) (hbc : Byt W (.slice ao 300 cap) cs) (hcl : cs.length ≤ 300)
    (hR : rightB (shortS n0).data.toList r0.toNat = true) :
    Calls Tryd.prog 4 #[capV n0 r0.toNat, .slice ao ln cap, .string s] W fun e W' => e = .returned (.bool true) ∧ Below W.heap.size W W' := by
  have c0 := fun w => short_any n0 w
  have c1 := fun w => short_any s w
  have s0 := shortS_size n0
  have s1 := shortS_size s
  generalize shortS n0 = m at *
  generalize shortS s = t at *
  have cV := fun w => live2_any w
  have cE := fun w => encode_ok m r0 w hR
  have cF := fun w hT => rencode_ok m r0 w hT hR
  have hne : Hid (encL m.data.toList r0 ≠ []) := by unfold encL; exact List.cons_ne_nil _ _
  have cD := fun w h => decode_any (.slice ao 300 cap) cs w h
  have cC := fun w h hT => rdecode_any (.slice ao 300 cap) cs w h (by omega) hT
  have cP := fun w => print_any m r0 w (by omega)
  have cQ := fun w hT => rprint_any m r0 w (by omega) hT
  have cG := fun w => parse_any t w (by omega)
  have cH := fun w hT => rparse_any t w (by omega) hT
  obtain ⟨dn, dr, de, hD⟩ : ∃ dn dr de, decodeO cs = (dn, dr, de) := ⟨_, _, _, rfl⟩
  obtain ⟨pn, pr, pe, hP⟩ : ∃ pn pr pe, parseO t.data.toList = (pn, pr, pe) := ⟨_, _, _, rfl⟩
  obtain ⟨tn, te, hU⟩ : ∃ tn te, printO m.data.toList r0 = (tn, te) := ⟨_, _, rfl⟩
  rw [hD] at cD cC
  rw [hP] at cG cH
  rw [hU] at cP cQ
  unfold capsV at cD cC cG cH
  unfold textV at cP cQ
  unfold capV at *
  simp only at cD cC cG cH cP cQ
  clear hR hD hP hU s0 s1
  have eC := eqCap
  have eG := eqGuardC
  have HB : Hid (Byt W (.slice ao 300 cap) cs) := hbc
  have HT : Hid (NTabs W) := hT
  have hln2 : (300 : Int) < (ln : Int) := by omega
  have hln3 : (300 : Int) ≤ (cap : Int) := by omega
  clear hb hbc hT hcl
  generalize encL m.data.toList r0 = E at *
  generalize ((r0.toNat : Nat) : Int) = y0 at *
  generalize ((dr.toNat : Nat) : Int) = y1 at *
  generalize ((pr.toNat : Nat) : Int) = y2 at *
  generalize (⟨dn.toArray⟩ : ByteArray) = D1 at *
  generalize (⟨pn.toArray⟩ : ByteArray) = P1 at *
  generalize (⟨tn.toArray⟩ : ByteArray) = T1 at *
  go_enter Tryd.func4, Tryd.ntmps4
  go_wp2_with fail
  have t0 := Two.new W 34 (.string n0) (.int .u8 y0)
  have hB0 : Below W.heap.size W (W.alloc (.cells #[.string n0, .int .u8 y0] 34)) := (Below.refl _ W).alloc (Nat.le_refl _) _
  have hsz : (W.alloc (.cells #[.string n0, .int .u8 y0] 34)).heap.size = W.heap.size + 1 := by simp
  generalize (W.alloc (.cells #[.string n0, .int .u8 y0] 34)) = W1 at *
  have f0 := t0.f 0
  have t2 := t0.set0 (.string m)
  have a2 := t2.c0
  have a3 := t2.c1
  have a0 := t0.c0
  have hB2 := hB0.setCell (p := ⟨W.heap.size, 0, none⟩) (Nat.le_refl _) (.string m)
  have hs2 : (W1.setCell ⟨W.heap.size, 0, none⟩ (.string m)).heap.size = W.heap.size + 1 := by simp [World.setCell, hsz]
  refine (c0 _).mono ?_
  rintro e W0 ⟨rfl, hw⟩
  rw [hw]
  clear hw W0
  go_wp2_with fail
  refine (c1 _).mono ?_
  rintro e W0 ⟨rfl, hw⟩
  rw [hw]
  clear hw W0
  go_wp2_with fail
  generalize W1.setCell ⟨W.heap.size, 0, none⟩ (.string m) = W2 at *
  clear a0 a2 a3 f0 t0 hB0 hsz c0 c1
  refine (cE W2).mono ?_
  rintro e W3 ⟨v3, rfl, hv3, hB3⟩
  have hs3 := hB3.size
  have t3 := t2.below hB3 (by omega)
  have hB3' := hB2.trans (hB3.mono (by omega))
  have a0 := t3.c0
  have a1 := t3.c1
  clear t2 hB2 hB3
  go_wp2_with fail
  clear a0 a1
  refine (cF W3 (HT.out.later hB3')).mono ?_
  rintro e W4 ⟨v4, rfl, hv4, hB4⟩
  replace hv3 := hv3.below hB4 (Nat.le_refl _)
  have hs4 := hB4.size
  have t4 := t3.below hB4 (by omega)
  have hB4' := hB3'.trans (hB4.mono (by omega))
  clear t3 hB3' hB4
  go_wp2_with fail
  refine (cD W4 (HB.out.below hB4' (Nat.le_refl _))).mono ?_
  rintro e W5 ⟨rfl, hB5⟩
  have hs5 := hB5.size
  replace hv3 := (hv3.below hB5 (Nat.le_refl _)).alloc (.cells #[.string D1, .int .u8 y1] 34)
  replace hv4 := (hv4.below hB5 (Nat.le_refl _)).alloc (.cells #[.string D1, .int .u8 y1] 34)
  have t5 := (t4.below hB5 (by omega)).alloc (.cells #[.string D1, .int .u8 y1] 34)
  have x5 := Two.new W5 34 (.string D1) (.int .u8 y1)
  have hB5' := (hB4'.trans (hB5.mono (by omega))).alloc (by omega) (.cells #[.string D1, .int .u8 y1] 34)
  have hs5' : (W5.alloc (.cells #[.string D1, .int .u8 y1] 34)).heap.size = W5.heap.size + 1 := by simp
  clear t4 hB4' hB5
  go_wp2_with fail
  generalize W5.alloc (.cells #[.string D1, .int .u8 y1] 34) = W6 at *
  refine (cC W6 (HB.out.below hB5' (Nat.le_refl _)) (HT.out.later hB5')).mono ?_
  rintro e W7 ⟨rfl, hB7⟩
  have hs7 := hB7.size
  replace hv3 := (hv3.below hB7 (Nat.le_refl _)).alloc (.cells #[.string D1, .int .u8 y1] 34)
  replace hv4 := (hv4.below hB7 (Nat.le_refl _)).alloc (.cells #[.string D1, .int .u8 y1] 34)
  have t7 := (t5.below hB7 (by omega)).alloc (.cells #[.string D1, .int .u8 y1] 34)
  have x7 := (x5.below hB7 (by omega)).alloc (.cells #[.string D1, .int .u8 y1] 34)
  have y7 := Two.new W7 34 (.string D1) (.int .u8 y1)
  have hB7' := (hB5'.trans (hB7.mono (by omega))).alloc (by omega) (.cells #[.string D1, .int .u8 y1] 34)
  have hs7' : (W7.alloc (.cells #[.string D1, .int .u8 y1] 34)).heap.size = W7.heap.size + 1 := by simp
  have a0 := t7.c0
  have a1 := t7.c1
  clear t5 x5 hB5' hB7 HB
  go_wp2_with fail
  generalize W7.alloc (.cells #[.string D1, .int .u8 y1] 34) = W8 at *
  clear a0 a1
  refine (cP W8).mono ?_
  rintro e W9 ⟨rfl, hB9⟩
  have hs9 := hB9.size
  replace hv3 := hv3.below hB9 (Nat.le_refl _)
  replace hv4 := hv4.below hB9 (Nat.le_refl _)
  have t9 := t7.below hB9 (by omega)
  have x9 := x7.below hB9 (by omega)
  have y9 := y7.below hB9 (by omega)
  have hB9' := hB7'.trans (hB9.mono (by omega))
  have a0 := t9.c0
  have a1 := t9.c1
  clear t7 x7 y7 hB7' hB9
  go_wp2_with fail
  clear a0 a1
  refine (cQ W9 (HT.out.later hB9')).mono ?_
  rintro e WA ⟨rfl, hBA⟩
  have hsA := hBA.size
  replace hv3 := hv3.below hBA (Nat.le_refl _)
  replace hv4 := hv4.below hBA (Nat.le_refl _)
  have xA := x9.below hBA (by omega)
  have yA := y9.below hBA (by omega)
  have hBA' := hB9'.trans (hBA.mono (by omega))
  clear t9 x9 y9 hB9' hBA
  go_wp2_with fail
  refine (cG WA).mono ?_
  rintro e WB ⟨rfl, hBB⟩
  have hsB := hBB.size
  replace hv3 := (hv3.below hBB (Nat.le_refl _)).alloc (.cells #[.string P1, .int .u8 y2] 34)
  replace hv4 := (hv4.below hBB (Nat.le_refl _)).alloc (.cells #[.string P1, .int .u8 y2] 34)
  have xB := (xA.below hBB (by omega)).alloc (.cells #[.string P1, .int .u8 y2] 34)
  have yB := (yA.below hBB (by omega)).alloc (.cells #[.string P1, .int .u8 y2] 34)
  have vB := Two.new WB 34 (.string P1) (.int .u8 y2)
  have hBB' := (hBA'.trans (hBB.mono (by omega))).alloc (by omega) (.cells #[.string P1, .int .u8 y2] 34)
  have hsB' : (WB.alloc (.cells #[.string P1, .int .u8 y2] 34)).heap.size = WB.heap.size + 1 := by simp
  clear xA yA hBA' hBB
  go_wp2_with fail
  generalize WB.alloc (.cells #[.string P1, .int .u8 y2] 34) = WC at *
  refine (cH WC (HT.out.later hBB')).mono ?_
  rintro e WD ⟨rfl, hBD⟩
  have hsD := hBD.size
  replace hv3 := (hv3.below hBD (Nat.le_refl _)).alloc (.cells #[.string P1, .int .u8 y2] 34)
  replace hv4 := (hv4.below hBD (Nat.le_refl _)).alloc (.cells #[.string P1, .int .u8 y2] 34)
  have xD := (xB.below hBD (by omega)).alloc (.cells #[.string P1, .int .u8 y2] 34)
  have yD := (yB.below hBD (by omega)).alloc (.cells #[.string P1, .int .u8 y2] 34)
  have vD := (vB.below hBD (by omega)).alloc (.cells #[.string P1, .int .u8 y2] 34)
  have wD := Two.new WD 34 (.string P1) (.int .u8 y2)
  have hBD' := (hBB'.trans (hBD.mono (by omega))).alloc (by omega) (.cells #[.string P1, .int .u8 y2] 34)
  have hsD' : (WD.alloc (.cells #[.string P1, .int .u8 y2] 34)).heap.size = WD.heap.size + 1 := by simp
  clear xB yB vB hBB' hBD
  go_wp2_with fail
  generalize WD.alloc (.cells #[.string P1, .int .u8 y2] 34) = WE at *
  refine (cV WE).mono ?_
  rintro e WF ⟨rfl, hBF⟩
  have hsF := hBF.size
  have k1 := (hv3.below hBF (Nat.le_refl _)).text hne.out
  have k2 := (hv4.below hBF (Nat.le_refl _)).text hne.out
  clear hv3 hv4
  have xF := xD.below hBF (by omega)
  have yF := yD.below hBF (by omega)
  have vF := vD.below hBF (by omega)
  have wF := wD.below hBF (by omega)
  have i0 := xF.c0
  have i1 := xF.c1
  have i2 := yF.c0
  have i3 := yF.c1
  have i4 := vF.c0
  have i5 := vF.c1
  have i6 := wF.c0
  have i7 := wF.c1
  have hBF' := hBD'.trans (hBF.mono (by omega))
  clear xD yD vD wD xF yF vF wF hBD' hBF
  go_wp2
  go_ret
  exact ⟨rfl, hBF'⟩

set_option maxHeartbeats 8000000 in
theorem codes_10 (n0 : ByteArray) (r0 : BitVec 8) (ao : Option Addr) (ln cap : Nat) (bs cs : List UInt8) (s : ByteArray) (W : World) (hT : NTabs W) (hb : Byt W (.slice ao ln cap) bs) (hlc : ln ≤ cap)
    (hln : ¬ 300 < ln) (hbc : Byt W (.slice ao ln cap) cs) (hcl : cs.length ≤ 300)
    (hR : rightB (shortS n0).data.toList r0.toNat = true) :
    Calls Tryd.prog 4 #[capV n0 r0.toNat, .slice ao ln cap, .string s] W fun e W' => e = .returned (.bool true) ∧ Below W.heap.size W W' := by
  have c0 := fun w => short_any n0 w
  have c1 := fun w => short_any s w
  have s0 := shortS_size n0
  have s1 := shortS_size s
  generalize shortS n0 = m at *
  generalize shortS s = t at *
  have cV := fun w => live2_any w
  have cE := fun w => encode_ok m r0 w hR
  have cF := fun w hT => rencode_ok m r0 w hT hR
  have hne : Hid (encL m.data.toList r0 ≠ []) := by unfold encL; exact List.cons_ne_nil _ _
  have cD := fun w h => decode_any (.slice ao ln cap) cs w h
  have cC := fun w h hT => rdecode_any (.slice ao ln cap) cs w h (by omega) hT
  have cP := fun w => print_any m r0 w (by omega)
  have cQ := fun w hT => rprint_any m r0 w (by omega) hT
  have cG := fun w => parse_any t w (by omega)
  have cH := fun w hT => rparse_any t w (by omega) hT
  obtain ⟨dn, dr, de, hD⟩ : ∃ dn dr de, decodeO cs = (dn, dr, de) := ⟨_, _, _, rfl⟩
  obtain ⟨pn, pr, pe, hP⟩ : ∃ pn pr pe, parseO t.data.toList = (pn, pr, pe) := ⟨_, _, _, rfl⟩
  obtain ⟨tn, te, hU⟩ : ∃ tn te, printO m.data.toList r0 = (tn, te) := ⟨_, _, rfl⟩
  rw [hD] at cD cC
  rw [hP] at cG cH
  rw [hU] at cP cQ
  unfold capsV at cD cC cG cH
  unfold textV at cP cQ
  unfold capV at *
  simp only at cD cC cG cH cP cQ
  clear hR hD hP hU s0 s1
  have eC := eqCap
  have eG := eqGuardC
  have HB : Hid (Byt W (.slice ao ln cap) cs) := hbc
  have HT : Hid (NTabs W) := hT
  have hln2 : ¬ (300 : Int) < (ln : Int) := by omega
  skip
  clear hb hbc hT hcl
  generalize encL m.data.toList r0 = E at *
  generalize ((r0.toNat : Nat) : Int) = y0 at *
  generalize ((dr.toNat : Nat) : Int) = y1 at *
  generalize ((pr.toNat : Nat) : Int) = y2 at *
  generalize (⟨dn.toArray⟩ : ByteArray) = D1 at *
  generalize (⟨pn.toArray⟩ : ByteArray) = P1 at *
  generalize (⟨tn.toArray⟩ : ByteArray) = T1 at *
  go_enter Tryd.func4, Tryd.ntmps4
  go_wp2_with fail
  have t0 := Two.new W 34 (.string n0) (.int .u8 y0)
  have hB0 : Below W.heap.size W (W.alloc (.cells #[.string n0, .int .u8 y0] 34)) := (Below.refl _ W).alloc (Nat.le_refl _) _
  have hsz : (W.alloc (.cells #[.string n0, .int .u8 y0] 34)).heap.size = W.heap.size + 1 := by simp
  generalize (W.alloc (.cells #[.string n0, .int .u8 y0] 34)) = W1 at *
  have f0 := t0.f 0
  have t2 := t0.set0 (.string m)
  have a2 := t2.c0
  have a3 := t2.c1
  have a0 := t0.c0
  have hB2 := hB0.setCell (p := ⟨W.heap.size, 0, none⟩) (Nat.le_refl _) (.string m)
  have hs2 : (W1.setCell ⟨W.heap.size, 0, none⟩ (.string m)).heap.size = W.heap.size + 1 := by simp [World.setCell, hsz]
  refine (c0 _).mono ?_
  rintro e W0 ⟨rfl, hw⟩
  rw [hw]
  clear hw W0
  go_wp2_with fail
  refine (c1 _).mono ?_
  rintro e W0 ⟨rfl, hw⟩
  rw [hw]
  clear hw W0
  go_wp2_with fail
  generalize W1.setCell ⟨W.heap.size, 0, none⟩ (.string m) = W2 at *
  clear a0 a2 a3 f0 t0 hB0 hsz c0 c1
  refine (cE W2).mono ?_
  rintro e W3 ⟨v3, rfl, hv3, hB3⟩
  have hs3 := hB3.size
  have t3 := t2.below hB3 (by omega)
  have hB3' := hB2.trans (hB3.mono (by omega))
  have a0 := t3.c0
  have a1 := t3.c1
  clear t2 hB2 hB3
  go_wp2_with fail
  clear a0 a1
  refine (cF W3 (HT.out.later hB3')).mono ?_
  rintro e W4 ⟨v4, rfl, hv4, hB4⟩
  replace hv3 := hv3.below hB4 (Nat.le_refl _)
  have hs4 := hB4.size
  have t4 := t3.below hB4 (by omega)
  have hB4' := hB3'.trans (hB4.mono (by omega))
  clear t3 hB3' hB4
  go_wp2_with fail
  refine (cD W4 (HB.out.below hB4' (Nat.le_refl _))).mono ?_
  rintro e W5 ⟨rfl, hB5⟩
  have hs5 := hB5.size
  replace hv3 := (hv3.below hB5 (Nat.le_refl _)).alloc (.cells #[.string D1, .int .u8 y1] 34)
  replace hv4 := (hv4.below hB5 (Nat.le_refl _)).alloc (.cells #[.string D1, .int .u8 y1] 34)
  have t5 := (t4.below hB5 (by omega)).alloc (.cells #[.string D1, .int .u8 y1] 34)
  have x5 := Two.new W5 34 (.string D1) (.int .u8 y1)
  have hB5' := (hB4'.trans (hB5.mono (by omega))).alloc (by omega) (.cells #[.string D1, .int .u8 y1] 34)
  have hs5' : (W5.alloc (.cells #[.string D1, .int .u8 y1] 34)).heap.size = W5.heap.size + 1 := by simp
  clear t4 hB4' hB5
  go_wp2_with fail
  generalize W5.alloc (.cells #[.string D1, .int .u8 y1] 34) = W6 at *
  refine (cC W6 (HB.out.below hB5' (Nat.le_refl _)) (HT.out.later hB5')).mono ?_
  rintro e W7 ⟨rfl, hB7⟩
  have hs7 := hB7.size
  replace hv3 := (hv3.below hB7 (Nat.le_refl _)).alloc (.cells #[.string D1, .int .u8 y1] 34)
  replace hv4 := (hv4.below hB7 (Nat.le_refl _)).alloc (.cells #[.string D1, .int .u8 y1] 34)
  have t7 := (t5.below hB7 (by omega)).alloc (.cells #[.string D1, .int .u8 y1] 34)
  have x7 := (x5.below hB7 (by omega)).alloc (.cells #[.string D1, .int .u8 y1] 34)
  have y7 := Two.new W7 34 (.string D1) (.int .u8 y1)
  have hB7' := (hB5'.trans (hB7.mono (by omega))).alloc (by omega) (.cells #[.string D1, .int .u8 y1] 34)
  have hs7' : (W7.alloc (.cells #[.string D1, .int .u8 y1] 34)).heap.size = W7.heap.size + 1 := by simp
  have a0 := t7.c0
  have a1 := t7.c1
  clear t5 x5 hB5' hB7 HB
  go_wp2_with fail
  generalize W7.alloc (.cells #[.string D1, .int .u8 y1] 34) = W8 at *
  clear a0 a1
  refine (cP W8).mono ?_
  rintro e W9 ⟨rfl, hB9⟩
  have hs9 := hB9.size
  replace hv3 := hv3.below hB9 (Nat.le_refl _)
  replace hv4 := hv4.below hB9 (Nat.le_refl _)
  have t9 := t7.below hB9 (by omega)
  have x9 := x7.below hB9 (by omega)
  have y9 := y7.below hB9 (by omega)
  have hB9' := hB7'.trans (hB9.mono (by omega))
  have a0 := t9.c0
  have a1 := t9.c1
  clear t7 x7 y7 hB7' hB9
  go_wp2_with fail
  clear a0 a1
  refine (cQ W9 (HT.out.later hB9')).mono ?_
  rintro e WA ⟨rfl, hBA⟩
  have hsA := hBA.size
  replace hv3 := hv3.below hBA (Nat.le_refl _)
  replace hv4 := hv4.below hBA (Nat.le_refl _)
  have xA := x9.below hBA (by omega)
  have yA := y9.below hBA (by omega)
  have hBA' := hB9'.trans (hBA.mono (by omega))
  clear t9 x9 y9 hB9' hBA
  go_wp2_with fail
  refine (cG WA).mono ?_
  rintro e WB ⟨rfl, hBB⟩
  have hsB := hBB.size
  replace hv3 := (hv3.below hBB (Nat.le_refl _)).alloc (.cells #[.string P1, .int .u8 y2] 34)
  replace hv4 := (hv4.below hBB (Nat.le_refl _)).alloc (.cells #[.string P1, .int .u8 y2] 34)
  have xB := (xA.below hBB (by omega)).alloc (.cells #[.string P1, .int .u8 y2] 34)
  have yB := (yA.below hBB (by omega)).alloc (.cells #[.string P1, .int .u8 y2] 34)
  have vB := Two.new WB 34 (.string P1) (.int .u8 y2)
  have hBB' := (hBA'.trans (hBB.mono (by omega))).alloc (by omega) (.cells #[.string P1, .int .u8 y2] 34)
  have hsB' : (WB.alloc (.cells #[.string P1, .int .u8 y2] 34)).heap.size = WB.heap.size + 1 := by simp
  clear xA yA hBA' hBB
  go_wp2_with fail
  generalize WB.alloc (.cells #[.string P1, .int .u8 y2] 34) = WC at *
  refine (cH WC (HT.out.later hBB')).mono ?_
  rintro e WD ⟨rfl, hBD⟩
  have hsD := hBD.size
  replace hv3 := (hv3.below hBD (Nat.le_refl _)).alloc (.cells #[.string P1, .int .u8 y2] 34)
  replace hv4 := (hv4.below hBD (Nat.le_refl _)).alloc (.cells #[.string P1, .int .u8 y2] 34)
  have xD := (xB.below hBD (by omega)).alloc (.cells #[.string P1, .int .u8 y2] 34)
  have yD := (yB.below hBD (by omega)).alloc (.cells #[.string P1, .int .u8 y2] 34)
  have vD := (vB.below hBD (by omega)).alloc (.cells #[.string P1, .int .u8 y2] 34)
  have wD := Two.new WD 34 (.string P1) (.int .u8 y2)
  have hBD' := (hBB'.trans (hBD.mono (by omega))).alloc (by omega) (.cells #[.string P1, .int .u8 y2] 34)
  have hsD' : (WD.alloc (.cells #[.string P1, .int .u8 y2] 34)).heap.size = WD.heap.size + 1 := by simp
  clear xB yB vB hBB' hBD
  go_wp2_with fail
  generalize WD.alloc (.cells #[.string P1, .int .u8 y2] 34) = WE at *
  refine (cV WE).mono ?_
  rintro e WF ⟨rfl, hBF⟩
  have hsF := hBF.size
  have k1 := (hv3.below hBF (Nat.le_refl _)).text hne.out
  have k2 := (hv4.below hBF (Nat.le_refl _)).text hne.out
  clear hv3 hv4
  have xF := xD.below hBF (by omega)
  have yF := yD.below hBF (by omega)
  have vF := vD.below hBF (by omega)
  have wF := wD.below hBF (by omega)
  have i0 := xF.c0
  have i1 := xF.c1
  have i2 := yF.c0
  have i3 := yF.c1
  have i4 := vF.c0
  have i5 := vF.c1
  have i6 := wF.c0
  have i7 := wF.c1
  have hBF' := hBD'.trans (hBF.mono (by omega))
  clear xD yD vD wD xF yF vF wF hBD' hBF
  go_wp2
  go_ret
  exact ⟨rfl, hBF'⟩

set_option maxHeartbeats 8000000 in
theorem codes_01 (n0 : ByteArray) (r0 : BitVec 8) (ao : Option Addr) (ln cap : Nat) (bs cs : List UInt8) (s : ByteArray) (W : World) (hT : NTabs W) (hb : Byt W (.slice ao ln cap) bs) (hlc : ln ≤ cap)
    (hln : 300 < ln) (hbc : Byt W (.slice ao 300 cap) cs) (hcl : cs.length ≤ 300)
    (hR : rightB (shortS n0).data.toList r0.toNat = false) :
    Calls Tryd.prog 4 #[capV n0 r0.toNat, .slice ao ln cap, .string s] W fun e W' => e = .returned (.bool true) ∧ Below W.heap.size W W' := by
  have c0 := fun w => short_any n0 w
  have c1 := fun w => short_any s w
  have s0 := shortS_size n0
  have s1 := shortS_size s
  generalize shortS n0 = m at *
  generalize shortS s = t at *
  have cV := fun w => live2_any w
  have cE := fun w => encode_no m r0 w (by omega) hR
  have cF := fun w hT => rencode_no m r0 w (by omega) hT hR
  have cD := fun w h => decode_any (.slice ao 300 cap) cs w h
  have cC := fun w h hT => rdecode_any (.slice ao 300 cap) cs w h (by omega) hT
  have cP := fun w => print_any m r0 w (by omega)
  have cQ := fun w hT => rprint_any m r0 w (by omega) hT
  have cG := fun w => parse_any t w (by omega)
  have cH := fun w hT => rparse_any t w (by omega) hT
  obtain ⟨dn, dr, de, hD⟩ : ∃ dn dr de, decodeO cs = (dn, dr, de) := ⟨_, _, _, rfl⟩
  obtain ⟨pn, pr, pe, hP⟩ : ∃ pn pr pe, parseO t.data.toList = (pn, pr, pe) := ⟨_, _, _, rfl⟩
  obtain ⟨tn, te, hU⟩ : ∃ tn te, printO m.data.toList r0 = (tn, te) := ⟨_, _, rfl⟩
  rw [hD] at cD cC
  rw [hP] at cG cH
  rw [hU] at cP cQ
  unfold capsV at cD cC cG cH
  unfold textV at cP cQ
  unfold capV at *
  simp only at cD cC cG cH cP cQ
  clear hR hD hP hU s0 s1
  have eC := eqCap
  have eG := eqGuardC
  have HB : Hid (Byt W (.slice ao 300 cap) cs) := hbc
  have HT : Hid (NTabs W) := hT
  have hln2 : (300 : Int) < (ln : Int) := by omega
  have hln3 : (300 : Int) ≤ (cap : Int) := by omega
  clear hb hbc hT hcl
  generalize ((r0.toNat : Nat) : Int) = y0 at *
  generalize ((dr.toNat : Nat) : Int) = y1 at *
  generalize ((pr.toNat : Nat) : Int) = y2 at *
  generalize (⟨dn.toArray⟩ : ByteArray) = D1 at *
  generalize (⟨pn.toArray⟩ : ByteArray) = P1 at *
  generalize (⟨tn.toArray⟩ : ByteArray) = T1 at *
  go_enter Tryd.func4, Tryd.ntmps4
  go_wp2_with fail
  have t0 := Two.new W 34 (.string n0) (.int .u8 y0)
  have hB0 : Below W.heap.size W (W.alloc (.cells #[.string n0, .int .u8 y0] 34)) := (Below.refl _ W).alloc (Nat.le_refl _) _
  have hsz : (W.alloc (.cells #[.string n0, .int .u8 y0] 34)).heap.size = W.heap.size + 1 := by simp
  generalize (W.alloc (.cells #[.string n0, .int .u8 y0] 34)) = W1 at *
  have f0 := t0.f 0
  have t2 := t0.set0 (.string m)
  have a2 := t2.c0
  have a3 := t2.c1
  have a0 := t0.c0
  have hB2 := hB0.setCell (p := ⟨W.heap.size, 0, none⟩) (Nat.le_refl _) (.string m)
  have hs2 : (W1.setCell ⟨W.heap.size, 0, none⟩ (.string m)).heap.size = W.heap.size + 1 := by simp [World.setCell, hsz]
  refine (c0 _).mono ?_
  rintro e W0 ⟨rfl, hw⟩
  rw [hw]
  clear hw W0
  go_wp2_with fail
  refine (c1 _).mono ?_
  rintro e W0 ⟨rfl, hw⟩
  rw [hw]
  clear hw W0
  go_wp2_with fail
  generalize W1.setCell ⟨W.heap.size, 0, none⟩ (.string m) = W2 at *
  clear a0 a2 a3 f0 t0 hB0 hsz c0 c1
  refine (cE W2).mono ?_
  rintro e W3 ⟨rfl, hB3⟩
  have hs3 := hB3.size
  have t3 := t2.below hB3 (by omega)
  have hB3' := hB2.trans (hB3.mono (by omega))
  have a0 := t3.c0
  have a1 := t3.c1
  clear t2 hB2 hB3
  go_wp2_with fail
  clear a0 a1
  refine (cF W3 (HT.out.later hB3')).mono ?_
  rintro e W4 ⟨rfl, hB4⟩
  have hs4 := hB4.size
  have t4 := t3.below hB4 (by omega)
  have hB4' := hB3'.trans (hB4.mono (by omega))
  clear t3 hB3' hB4
  go_wp2_with fail
  refine (cD W4 (HB.out.below hB4' (Nat.le_refl _))).mono ?_
  rintro e W5 ⟨rfl, hB5⟩
  have hs5 := hB5.size
  have t5 := (t4.below hB5 (by omega)).alloc (.cells #[.string D1, .int .u8 y1] 34)
  have x5 := Two.new W5 34 (.string D1) (.int .u8 y1)
  have hB5' := (hB4'.trans (hB5.mono (by omega))).alloc (by omega) (.cells #[.string D1, .int .u8 y1] 34)
  have hs5' : (W5.alloc (.cells #[.string D1, .int .u8 y1] 34)).heap.size = W5.heap.size + 1 := by simp
  clear t4 hB4' hB5
  go_wp2_with fail
  generalize W5.alloc (.cells #[.string D1, .int .u8 y1] 34) = W6 at *
  refine (cC W6 (HB.out.below hB5' (Nat.le_refl _)) (HT.out.later hB5')).mono ?_
  rintro e W7 ⟨rfl, hB7⟩
  have hs7 := hB7.size
  have t7 := (t5.below hB7 (by omega)).alloc (.cells #[.string D1, .int .u8 y1] 34)
  have x7 := (x5.below hB7 (by omega)).alloc (.cells #[.string D1, .int .u8 y1] 34)
  have y7 := Two.new W7 34 (.string D1) (.int .u8 y1)
  have hB7' := (hB5'.trans (hB7.mono (by omega))).alloc (by omega) (.cells #[.string D1, .int .u8 y1] 34)
  have hs7' : (W7.alloc (.cells #[.string D1, .int .u8 y1] 34)).heap.size = W7.heap.size + 1 := by simp
  have a0 := t7.c0
  have a1 := t7.c1
  clear t5 x5 hB5' hB7 HB
  go_wp2_with fail
  generalize W7.alloc (.cells #[.string D1, .int .u8 y1] 34) = W8 at *
  clear a0 a1
  refine (cP W8).mono ?_
  rintro e W9 ⟨rfl, hB9⟩
  have hs9 := hB9.size
  have t9 := t7.below hB9 (by omega)
  have x9 := x7.below hB9 (by omega)
  have y9 := y7.below hB9 (by omega)
  have hB9' := hB7'.trans (hB9.mono (by omega))
  have a0 := t9.c0
  have a1 := t9.c1
  clear t7 x7 y7 hB7' hB9
  go_wp2_with fail
  clear a0 a1
  refine (cQ W9 (HT.out.later hB9')).mono ?_
  rintro e WA ⟨rfl, hBA⟩
  have hsA := hBA.size
  have xA := x9.below hBA (by omega)
  have yA := y9.below hBA (by omega)
  have hBA' := hB9'.trans (hBA.mono (by omega))
  clear t9 x9 y9 hB9' hBA
  go_wp2_with fail
  refine (cG WA).mono ?_
  rintro e WB ⟨rfl, hBB⟩
  have hsB := hBB.size
  have xB := (xA.below hBB (by omega)).alloc (.cells #[.string P1, .int .u8 y2] 34)
  have yB := (yA.below hBB (by omega)).alloc (.cells #[.string P1, .int .u8 y2] 34)
  have vB := Two.new WB 34 (.string P1) (.int .u8 y2)
  have hBB' := (hBA'.trans (hBB.mono (by omega))).alloc (by omega) (.cells #[.string P1, .int .u8 y2] 34)
  have hsB' : (WB.alloc (.cells #[.string P1, .int .u8 y2] 34)).heap.size = WB.heap.size + 1 := by simp
  clear xA yA hBA' hBB
  go_wp2_with fail
  generalize WB.alloc (.cells #[.string P1, .int .u8 y2] 34) = WC at *
  refine (cH WC (HT.out.later hBB')).mono ?_
  rintro e WD ⟨rfl, hBD⟩
  have hsD := hBD.size
  have xD := (xB.below hBD (by omega)).alloc (.cells #[.string P1, .int .u8 y2] 34)
  have yD := (yB.below hBD (by omega)).alloc (.cells #[.string P1, .int .u8 y2] 34)
  have vD := (vB.below hBD (by omega)).alloc (.cells #[.string P1, .int .u8 y2] 34)
  have wD := Two.new WD 34 (.string P1) (.int .u8 y2)
  have hBD' := (hBB'.trans (hBD.mono (by omega))).alloc (by omega) (.cells #[.string P1, .int .u8 y2] 34)
  have hsD' : (WD.alloc (.cells #[.string P1, .int .u8 y2] 34)).heap.size = WD.heap.size + 1 := by simp
  clear xB yB vB hBB' hBD
  go_wp2_with fail
  generalize WD.alloc (.cells #[.string P1, .int .u8 y2] 34) = WE at *
  refine (cV WE).mono ?_
  rintro e WF ⟨rfl, hBF⟩
  have hsF := hBF.size
  have k1 := nil_text WF
  have xF := xD.below hBF (by omega)
  have yF := yD.below hBF (by omega)
  have vF := vD.below hBF (by omega)
  have wF := wD.below hBF (by omega)
  have i0 := xF.c0
  have i1 := xF.c1
  have i2 := yF.c0
  have i3 := yF.c1
  have i4 := vF.c0
  have i5 := vF.c1
  have i6 := wF.c0
  have i7 := wF.c1
  have hBF' := hBD'.trans (hBF.mono (by omega))
  clear xD yD vD wD xF yF vF wF hBD' hBF
  go_wp2
  go_ret
  exact ⟨rfl, hBF'⟩

set_option maxHeartbeats 8000000 in
theorem codes_00 (n0 : ByteArray) (r0 : BitVec 8) (ao : Option Addr) (ln cap : Nat) (bs cs : List UInt8) (s : ByteArray) (W : World) (hT : NTabs W) (hb : Byt W (.slice ao ln cap) bs) (hlc : ln ≤ cap)
    (hln : ¬ 300 < ln) (hbc : Byt W (.slice ao ln cap) cs) (hcl : cs.length ≤ 300)
    (hR : rightB (shortS n0).data.toList r0.toNat = false) :
    Calls Tryd.prog 4 #[capV n0 r0.toNat, .slice ao ln cap, .string s] W fun e W' => e = .returned (.bool true) ∧ Below W.heap.size W W' := by
  have c0 := fun w => short_any n0 w
  have c1 := fun w => short_any s w
  have s0 := shortS_size n0
  have s1 := shortS_size s
  generalize shortS n0 = m at *
  generalize shortS s = t at *
  have cV := fun w => live2_any w
  have cE := fun w => encode_no m r0 w (by omega) hR
  have cF := fun w hT => rencode_no m r0 w (by omega) hT hR
  have cD := fun w h => decode_any (.slice ao ln cap) cs w h
  have cC := fun w h hT => rdecode_any (.slice ao ln cap) cs w h (by omega) hT
  have cP := fun w => print_any m r0 w (by omega)
  have cQ := fun w hT => rprint_any m r0 w (by omega) hT
  have cG := fun w => parse_any t w (by omega)
  have cH := fun w hT => rparse_any t w (by omega) hT
  obtain ⟨dn, dr, de, hD⟩ : ∃ dn dr de, decodeO cs = (dn, dr, de) := ⟨_, _, _, rfl⟩
  obtain ⟨pn, pr, pe, hP⟩ : ∃ pn pr pe, parseO t.data.toList = (pn, pr, pe) := ⟨_, _, _, rfl⟩
  obtain ⟨tn, te, hU⟩ : ∃ tn te, printO m.data.toList r0 = (tn, te) := ⟨_, _, rfl⟩
  rw [hD] at cD cC
  rw [hP] at cG cH
  rw [hU] at cP cQ
  unfold capsV at cD cC cG cH
  unfold textV at cP cQ
  unfold capV at *
  simp only at cD cC cG cH cP cQ
  clear hR hD hP hU s0 s1
  have eC := eqCap
  have eG := eqGuardC
  have HB : Hid (Byt W (.slice ao ln cap) cs) := hbc
  have HT : Hid (NTabs W) := hT
  have hln2 : ¬ (300 : Int) < (ln : Int) := by omega
  skip
  clear hb hbc hT hcl
  generalize ((r0.toNat : Nat) : Int) = y0 at *
  generalize ((dr.toNat : Nat) : Int) = y1 at *
  generalize ((pr.toNat : Nat) : Int) = y2 at *
  generalize (⟨dn.toArray⟩ : ByteArray) = D1 at *
  generalize (⟨pn.toArray⟩ : ByteArray) = P1 at *
  generalize (⟨tn.toArray⟩ : ByteArray) = T1 at *
  go_enter Tryd.func4, Tryd.ntmps4
  go_wp2_with fail
  have t0 := Two.new W 34 (.string n0) (.int .u8 y0)
  have hB0 : Below W.heap.size W (W.alloc (.cells #[.string n0, .int .u8 y0] 34)) := (Below.refl _ W).alloc (Nat.le_refl _) _
  have hsz : (W.alloc (.cells #[.string n0, .int .u8 y0] 34)).heap.size = W.heap.size + 1 := by simp
  generalize (W.alloc (.cells #[.string n0, .int .u8 y0] 34)) = W1 at *
  have f0 := t0.f 0
  have t2 := t0.set0 (.string m)
  have a2 := t2.c0
  have a3 := t2.c1
  have a0 := t0.c0
  have hB2 := hB0.setCell (p := ⟨W.heap.size, 0, none⟩) (Nat.le_refl _) (.string m)
  have hs2 : (W1.setCell ⟨W.heap.size, 0, none⟩ (.string m)).heap.size = W.heap.size + 1 := by simp [World.setCell, hsz]
  refine (c0 _).mono ?_
  rintro e W0 ⟨rfl, hw⟩
  rw [hw]
  clear hw W0
  go_wp2_with fail
  refine (c1 _).mono ?_
  rintro e W0 ⟨rfl, hw⟩
  rw [hw]
  clear hw W0
  go_wp2_with fail
  generalize W1.setCell ⟨W.heap.size, 0, none⟩ (.string m) = W2 at *
  clear a0 a2 a3 f0 t0 hB0 hsz c0 c1
  refine (cE W2).mono ?_
  rintro e W3 ⟨rfl, hB3⟩
  have hs3 := hB3.size
  have t3 := t2.below hB3 (by omega)
  have hB3' := hB2.trans (hB3.mono (by omega))
  have a0 := t3.c0
  have a1 := t3.c1
  clear t2 hB2 hB3
  go_wp2_with fail
  clear a0 a1
  refine (cF W3 (HT.out.later hB3')).mono ?_
  rintro e W4 ⟨rfl, hB4⟩
  have hs4 := hB4.size
  have t4 := t3.below hB4 (by omega)
  have hB4' := hB3'.trans (hB4.mono (by omega))
  clear t3 hB3' hB4
  go_wp2_with fail
  refine (cD W4 (HB.out.below hB4' (Nat.le_refl _))).mono ?_
  rintro e W5 ⟨rfl, hB5⟩
  have hs5 := hB5.size
  have t5 := (t4.below hB5 (by omega)).alloc (.cells #[.string D1, .int .u8 y1] 34)
  have x5 := Two.new W5 34 (.string D1) (.int .u8 y1)
  have hB5' := (hB4'.trans (hB5.mono (by omega))).alloc (by omega) (.cells #[.string D1, .int .u8 y1] 34)
  have hs5' : (W5.alloc (.cells #[.string D1, .int .u8 y1] 34)).heap.size = W5.heap.size + 1 := by simp
  clear t4 hB4' hB5
  go_wp2_with fail
  generalize W5.alloc (.cells #[.string D1, .int .u8 y1] 34) = W6 at *
  refine (cC W6 (HB.out.below hB5' (Nat.le_refl _)) (HT.out.later hB5')).mono ?_
  rintro e W7 ⟨rfl, hB7⟩
  have hs7 := hB7.size
  have t7 := (t5.below hB7 (by omega)).alloc (.cells #[.string D1, .int .u8 y1] 34)
  have x7 := (x5.below hB7 (by omega)).alloc (.cells #[.string D1, .int .u8 y1] 34)
  have y7 := Two.new W7 34 (.string D1) (.int .u8 y1)
  have hB7' := (hB5'.trans (hB7.mono (by omega))).alloc (by omega) (.cells #[.string D1, .int .u8 y1] 34)
  have hs7' : (W7.alloc (.cells #[.string D1, .int .u8 y1] 34)).heap.size = W7.heap.size + 1 := by simp
  have a0 := t7.c0
  have a1 := t7.c1
  clear t5 x5 hB5' hB7 HB
  go_wp2_with fail
  generalize W7.alloc (.cells #[.string D1, .int .u8 y1] 34) = W8 at *
  clear a0 a1
  refine (cP W8).mono ?_
  rintro e W9 ⟨rfl, hB9⟩
  have hs9 := hB9.size
  have t9 := t7.below hB9 (by omega)
  have x9 := x7.below hB9 (by omega)
  have y9 := y7.below hB9 (by omega)
  have hB9' := hB7'.trans (hB9.mono (by omega))
  have a0 := t9.c0
  have a1 := t9.c1
  clear t7 x7 y7 hB7' hB9
  go_wp2_with fail
  clear a0 a1
  refine (cQ W9 (HT.out.later hB9')).mono ?_
  rintro e WA ⟨rfl, hBA⟩
  have hsA := hBA.size
  have xA := x9.below hBA (by omega)
  have yA := y9.below hBA (by omega)
  have hBA' := hB9'.trans (hBA.mono (by omega))
  clear t9 x9 y9 hB9' hBA
  go_wp2_with fail
  refine (cG WA).mono ?_
  rintro e WB ⟨rfl, hBB⟩
  have hsB := hBB.size
  have xB := (xA.below hBB (by omega)).alloc (.cells #[.string P1, .int .u8 y2] 34)
  have yB := (yA.below hBB (by omega)).alloc (.cells #[.string P1, .int .u8 y2] 34)
  have vB := Two.new WB 34 (.string P1) (.int .u8 y2)
  have hBB' := (hBA'.trans (hBB.mono (by omega))).alloc (by omega) (.cells #[.string P1, .int .u8 y2] 34)
  have hsB' : (WB.alloc (.cells #[.string P1, .int .u8 y2] 34)).heap.size = WB.heap.size + 1 := by simp
  clear xA yA hBA' hBB
  go_wp2_with fail
  generalize WB.alloc (.cells #[.string P1, .int .u8 y2] 34) = WC at *
  refine (cH WC (HT.out.later hBB')).mono ?_
  rintro e WD ⟨rfl, hBD⟩
  have hsD := hBD.size
  have xD := (xB.below hBD (by omega)).alloc (.cells #[.string P1, .int .u8 y2] 34)
  have yD := (yB.below hBD (by omega)).alloc (.cells #[.string P1, .int .u8 y2] 34)
  have vD := (vB.below hBD (by omega)).alloc (.cells #[.string P1, .int .u8 y2] 34)
  have wD := Two.new WD 34 (.string P1) (.int .u8 y2)
  have hBD' := (hBB'.trans (hBD.mono (by omega))).alloc (by omega) (.cells #[.string P1, .int .u8 y2] 34)
  have hsD' : (WD.alloc (.cells #[.string P1, .int .u8 y2] 34)).heap.size = WD.heap.size + 1 := by simp
  clear xB yB vB hBB' hBD
  go_wp2_with fail
  generalize WD.alloc (.cells #[.string P1, .int .u8 y2] 34) = WE at *
  refine (cV WE).mono ?_
  rintro e WF ⟨rfl, hBF⟩
  have hsF := hBF.size
  have k1 := nil_text WF
  have xF := xD.below hBF (by omega)
  have yF := yD.below hBF (by omega)
  have vF := vD.below hBF (by omega)
  have wF := wD.below hBF (by omega)
  have i0 := xF.c0
  have i1 := xF.c1
  have i2 := yF.c0
  have i3 := yF.c1
  have i4 := vF.c0
  have i5 := vF.c1
  have i6 := wF.c0
  have i7 := wF.c1
  have hBF' := hBD'.trans (hBF.mono (by omega))
  clear xD yD vD wD xF yF vF wF hBD' hBF
  go_wp2
  go_ret
  exact ⟨rfl, hBF'⟩

theorem codes_walk (n0 : ByteArray) (r0 : BitVec 8) (vb : Value) (bs : List UInt8) (s : ByteArray) (W : World) (hb : Byt W vb bs) (hT : NTabs W) :
    Calls Tryd.prog 4 #[capV n0 r0.toNat, vb, .string s] W fun e W' => e = .returned (.bool true) ∧ Below W.heap.size W W' := by
  have hb' := hb
  obtain ⟨a, cap, rfl, hcap, hm, hc⟩ := hb
  by_cases h : 300 < bs.length
  · have h2 := hb'.take 300 (by omega)
    have h3 : (bs.take 300).length ≤ 300 := by rw [List.length_take]; omega
    cases hR : rightB (shortS n0).data.toList r0.toNat with
    | true => exact codes_11 n0 r0 a bs.length cap bs _ s W hT hb' hcap h h2 h3 hR
    | false => exact codes_01 n0 r0 a bs.length cap bs _ s W hT hb' hcap h h2 h3 hR
  · cases hR : rightB (shortS n0).data.toList r0.toNat with
    | true => exact codes_10 n0 r0 a bs.length cap bs bs s W hT hb' hcap h hb' (by omega) hR
    | false => exact codes_00 n0 r0 a bs.length cap bs bs s W hT hb' hcap h hb' (by omega) hR
end Go.Proofs.YtjocjjclgebfnaaDoor
