/- The document's Merge. -/
import Derived.Test.YtmepnnlmhlndmaaDoorEzH
import Derived.Test.YtmepnnlmhlndmaaDoorEzJ
import Derived.Deep.DeepCutAuto
namespace Go.Proofs.YtmepnnlmhlndmaaDoor
open Go.RowKit Go.Maps
set_option linter.unusedVariables false
set_option maxRecDepth 100000
theorem mergeR_no {B : Nat} {w : World} {b : Nat} {s : Xt} (h : Rt B w b s) (ow id : Nat) (ib : Nat) (c : Int) (k : NoX s ow id c) :
    Calls Tryd.prog 54 #[.pointer (some ⟨b, 0, none⟩), .int .u8 ow, .int .u32 id, .int .u32 ib] w fun e w' => e = .returned (.int .i64 c) ∧ RStp B w w' b s := by
  have cF := rfind_no h ow id c k
  have hc := k.ne
  have HR := Hid3.mk (RStp.same h (Below.refl _ w))
  clear h k
  go_enter Tryd.func54, Tryd.ntmps54
  go_wp2_with fail
  refine cF.mono ?_
  rintro e W1 ⟨rfl, hW⟩
  rw [hW]
  clear cF hW
  go_wp2
  go_ret
  exact ⟨rfl, HR.out⟩
theorem mergeR_no2 {B : Nat} {w : World} {b : Nat} {s : Xt} (h : Rt B w b s) (ow ia ib : Nat) (c : Int) (pre post : List Ex) (x : Ex) (ka : AtX s ow ia pre x post) (k : NoX s ow ib c) :
    Calls Tryd.prog 54 #[.pointer (some ⟨b, 0, none⟩), .int .u8 ow, .int .u32 ia, .int .u32 ib] w fun e w' => e = .returned (.int .i64 c) ∧ RStp B w w' b s := by
  have cF := rfind_ok h ow ia pre post x ka
  have cG := rfind_no h ow ib c k
  have hc := k.ne
  have HR := Hid3.mk (RStp.same h (Below.refl _ w))
  clear h k ka
  generalize ((pre.length : Nat) : Int) = K at *
  go_enter Tryd.func54, Tryd.ntmps54
  go_wp2_with fail
  refine cF.mono ?_
  rintro e W1 ⟨rfl, hW⟩
  rw [hW]
  clear cF hW
  go_wp2_with fail
  refine cG.mono ?_
  rintro e W1 ⟨rfl, hW⟩
  rw [hW]
  clear cG hW
  go_wp2
  go_ret
  exact ⟨rfl, HR.out⟩
set_option maxHeartbeats 4000000 in
theorem mergeR_far {B : Nat} {w : World} {b : Nat} {s : Xt} (h : Rt B w b s) (ow ia ib : Nat) (pre post pre' post' : List Ex) (x z : Ex) (ka : AtX s ow ia pre x post) (kb : AtX s ow ib pre' z post') (hne : x.st + x.ln ≠ z.st) :
    Calls Tryd.prog 54 #[.pointer (some ⟨b, 0, none⟩), .int .u8 ow, .int .u32 ia, .int .u32 ib] w fun e w' => e = .returned (.int .i64 9) ∧ RStp B w w' b s := by
  have cF := rfind_ok h ow ia pre post x ka
  have cG := rfind_ok h ow ib pre' post' z kb
  obtain ⟨g, n, cap, c1, hKn, hbl, hE, hnl, c0⟩ := ka.el h
  have hE' : ExM w g pre'.length z := by
    obtain ⟨g', n', cap', c1', _, _, hE', _, _⟩ := kb.el h
    rw [c1] at c1'
    cases c1'
    exact hE'
  have hKn' : (pre'.length : Int) < (n : Int) := by rw [hnl, kb.l]; simp; omega
  have hKl : pre.length < s.l.length := by rw [ka.l]; simp
  have e0 := hE.e0
  have e1 := hE.e1
  have e2 := hE.e2
  have e3 := hE.e3
  have e4 := hE.e4
  have e5 := hE.e5
  have hg := hE.l
  have d0 := hE'.e0
  have d1 := hE'.e1
  have d2 := hE'.e2
  have d3 := hE'.e3
  have d4 := hE'.e4
  have d5 := hE'.e5
  have hxb := x.b
  have hzb := z.b
  obtain ⟨K, hK⟩ : ∃ K, pre.length = K := ⟨_, rfl⟩
  obtain ⟨K', hK'⟩ : ∃ K', pre'.length = K' := ⟨_, rfl⟩
  have HK := Hid3.mk hK
  have HK' := Hid3.mk hK'
  have HH := Hid3.mk h
  have HKL := Hid3.mk hKl
  rw [hK] at cF e0 e1 e2 e3 e4 e5 hKn
  rw [hK'] at cG d0 d1 d2 d3 d4 d5 hKn'
  obtain ⟨E, hEE⟩ : ∃ E : Int, (x.st : Int) + (x.ln : Int) = E := ⟨_, rfl⟩
  have hw3 : IntKind.i64.wrap ((x.st : Int) + (x.ln : Int)) = E := by rw [IntKind.wrap_i64]; omega
  have eG := eqGuardC
  have eM := fun W => eqC W x.nm z.nm (x.rt.toNat : Int) (z.rt.toNat : Int)
  clear eM eG
  have F1 := Hid3.mk (Bx.one w x z)
  have F2 := Hid3.mk (Bx.two w x z)
  rw [exs_agg, exs_agg] at F1 F2
  have HR : Hid3 (∀ W, Below w.heap.size w W → RStp B w W b s) := ⟨fun W hW => RStp.same h hW⟩
  have hd : ((z.st : Int) != E) = true := by rw [bne_iff_ne]; omega
  clear hE hE' h ka kb hnl hKl hK hK' hEE hne
  go_enter Tryd.func54, Tryd.ntmps54
  go_wp2_with fail
  refine cF.mono ?_
  rintro e W1 ⟨rfl, hW⟩
  rw [hW]
  clear cF hW
  go_wp2_with fail
  refine cG.mono ?_
  rintro e W1 ⟨rfl, hW⟩
  rw [hW]
  clear cG hW
  go_wp2_with fail
  go_cut [12, 13] (fun p q wx => ∃ i j W', W' = wx ∧ p = .pointer (some ⟨i, 0, none⟩) ∧ q = .pointer (some ⟨j, 0, none⟩) ∧ Hid3 (Bx w W' i j x z))
  case first =>
    go_region
    all_goals
      go_wp2_with fail
      go_meet
      case rel => first | exact ⟨_, _, _, rfl, rfl, rfl, F1⟩ | exact ⟨_, _, _, rfl, rfl, rfl, F2⟩
  case rest =>
    obtain ⟨i, j, W3, rfl, rfl, rfl, HX⟩ := hcut
    clear e0 e1 e2 e3 e4 e5 d0 d1 d2 d3 d4 d5 F1 F2 c1 c0 hg hbl
    have hxi := HX.out.xi
    have hyj := HX.out.yj
    have u0 := hxi.cell 0
    have u1 := hxi.cell 1
    have u2 := hxi.cell 2
    have u3 := hxi.cell 3
    have u4 := hxi.cell 4
    have u5 := hxi.cell 5
    have v1 := hyj.cell 1
    have v2 := hyj.cell 2
    have v4 := hyj.cell 4
    have v5 := hyj.cell 5
    have f2 := hxi.thaw 2
    have hil := hxi.lt
    have hjl := hyj.lt
    simp only [List.getElem?_cons_zero, List.getElem?_cons_succ, exCs] at u0 u1 u2 u3 u4 u5 v1 v2 v4 v5
    clear hxi hyj
    go_wp2
    go_ret
    exact ⟨rfl, HR.out _ HX.out.bl⟩
set_option maxHeartbeats 4000000 in
theorem mergeR_grd {B : Nat} {w : World} {b : Nat} {s : Xt} (h : Rt B w b s) (ow ia ib : Nat) (pre post pre' post' : List Ex) (x z : Ex) (ka : AtX s ow ia pre x post) (kb : AtX s ow ib pre' z post') (hne : x.st + x.ln = z.st) (hgd : sameG x z = false) :
    Calls Tryd.prog 54 #[.pointer (some ⟨b, 0, none⟩), .int .u8 ow, .int .u32 ia, .int .u32 ib] w fun e w' => e = .returned (.int .i64 9) ∧ RStp B w w' b s := by
  have cF := rfind_ok h ow ia pre post x ka
  have cG := rfind_ok h ow ib pre' post' z kb
  obtain ⟨g, n, cap, c1, hKn, hbl, hE, hnl, c0⟩ := ka.el h
  have hE' : ExM w g pre'.length z := by
    obtain ⟨g', n', cap', c1', _, _, hE', _, _⟩ := kb.el h
    rw [c1] at c1'
    cases c1'
    exact hE'
  have hKn' : (pre'.length : Int) < (n : Int) := by rw [hnl, kb.l]; simp; omega
  have hKl : pre.length < s.l.length := by rw [ka.l]; simp
  have e0 := hE.e0
  have e1 := hE.e1
  have e2 := hE.e2
  have e3 := hE.e3
  have e4 := hE.e4
  have e5 := hE.e5
  have hg := hE.l
  have d0 := hE'.e0
  have d1 := hE'.e1
  have d2 := hE'.e2
  have d3 := hE'.e3
  have d4 := hE'.e4
  have d5 := hE'.e5
  have hxb := x.b
  have hzb := z.b
  obtain ⟨K, hK⟩ : ∃ K, pre.length = K := ⟨_, rfl⟩
  obtain ⟨K', hK'⟩ : ∃ K', pre'.length = K' := ⟨_, rfl⟩
  have HK := Hid3.mk hK
  have HK' := Hid3.mk hK'
  have HH := Hid3.mk h
  have HKL := Hid3.mk hKl
  rw [hK] at cF e0 e1 e2 e3 e4 e5 hKn
  rw [hK'] at cG d0 d1 d2 d3 d4 d5 hKn'
  obtain ⟨E, hEE⟩ : ∃ E : Int, (x.st : Int) + (x.ln : Int) = E := ⟨_, rfl⟩
  have hw3 : IntKind.i64.wrap ((x.st : Int) + (x.ln : Int)) = E := by rw [IntKind.wrap_i64]; omega
  have eG := eqGuardC
  have eM := fun W => eqC W x.nm z.nm (x.rt.toNat : Int) (z.rt.toNat : Int)
  unfold sameG at hgd
  rw [hgd] at eM
  have F1 := Hid3.mk (Bx.one w x z)
  have F2 := Hid3.mk (Bx.two w x z)
  rw [exs_agg, exs_agg] at F1 F2
  have HR : Hid3 (∀ W, Below w.heap.size w W → RStp B w W b s) := ⟨fun W hW => RStp.same h hW⟩
  have hd : ((z.st : Int) != E) = false := by rw [bne_eq_false_iff_eq]; omega
  clear hE hE' h ka kb hnl hKl hK hK' hEE hne hgd
  go_enter Tryd.func54, Tryd.ntmps54
  go_wp2_with fail
  refine cF.mono ?_
  rintro e W1 ⟨rfl, hW⟩
  rw [hW]
  clear cF hW
  go_wp2_with fail
  refine cG.mono ?_
  rintro e W1 ⟨rfl, hW⟩
  rw [hW]
  clear cG hW
  go_wp2_with fail
  go_cut [12, 13] (fun p q wx => ∃ i j W', W' = wx ∧ p = .pointer (some ⟨i, 0, none⟩) ∧ q = .pointer (some ⟨j, 0, none⟩) ∧ Hid3 (Bx w W' i j x z))
  case first =>
    go_region
    all_goals
      go_wp2_with fail
      go_meet
      case rel => first | exact ⟨_, _, _, rfl, rfl, rfl, F1⟩ | exact ⟨_, _, _, rfl, rfl, rfl, F2⟩
  case rest =>
    obtain ⟨i, j, W3, rfl, rfl, rfl, HX⟩ := hcut
    clear e0 e1 e2 e3 e4 e5 d0 d1 d2 d3 d4 d5 F1 F2 c1 c0 hg hbl
    have hxi := HX.out.xi
    have hyj := HX.out.yj
    have u0 := hxi.cell 0
    have u1 := hxi.cell 1
    have u2 := hxi.cell 2
    have u3 := hxi.cell 3
    have u4 := hxi.cell 4
    have u5 := hxi.cell 5
    have v1 := hyj.cell 1
    have v2 := hyj.cell 2
    have v4 := hyj.cell 4
    have v5 := hyj.cell 5
    have f2 := hxi.thaw 2
    have hil := hxi.lt
    have hjl := hyj.lt
    simp only [List.getElem?_cons_zero, List.getElem?_cons_succ, exCs] at u0 u1 u2 u3 u4 u5 v1 v2 v4 v5
    clear hxi hyj
    go_wp2
    go_ret
    exact ⟨rfl, HR.out _ HX.out.bl⟩
set_option maxHeartbeats 4000000 in
theorem mergeR_ok {B : Nat} {w : World} {b : Nat} {s : Xt} (h : Rt B w b s) (ow ia ib : Nat) (pre post pre' post' : List Ex) (x z : Ex) (ka : AtX s ow ia pre x post) (kb : AtX s ow ib pre' z post') (post2 : List Ex) (hpost : post = z :: post2) (hpre' : pre' = pre ++ [x]) (hne : x.st + x.ln = z.st) (hgd : sameG x z = true) (hxz : x.st + (x.ln + z.ln) ≤ 1000) :
    Calls Tryd.prog 54 #[.pointer (some ⟨b, 0, none⟩), .int .u8 ow, .int .u32 ia, .int .u32 ib] w fun e w' => e = .returned (.int .i64 0) ∧ RStp B w w' b { s with l := pre ++ x.len (x.ln + z.ln) hxz :: post2 } := by
  have cF := rfind_ok h ow ia pre post x ka
  have cG := rfind_ok h ow ib pre' post' z kb
  obtain ⟨g, n, cap, c1, hKn, hbl, hE, hnl, c0⟩ := ka.el h
  have hE' : ExM w g pre'.length z := by
    obtain ⟨g', n', cap', c1', _, _, hE', _, _⟩ := kb.el h
    rw [c1] at c1'
    cases c1'
    exact hE'
  have hKn' : (pre'.length : Int) < (n : Int) := by rw [hnl, kb.l]; simp; omega
  have hKl : pre.length < s.l.length := by rw [ka.l]; simp
  have e0 := hE.e0
  have e1 := hE.e1
  have e2 := hE.e2
  have e3 := hE.e3
  have e4 := hE.e4
  have e5 := hE.e5
  have hg := hE.l
  have d0 := hE'.e0
  have d1 := hE'.e1
  have d2 := hE'.e2
  have d3 := hE'.e3
  have d4 := hE'.e4
  have d5 := hE'.e5
  have hxb := x.b
  have hzb := z.b
  obtain ⟨K, hK⟩ : ∃ K, pre.length = K := ⟨_, rfl⟩
  obtain ⟨K', hK'⟩ : ∃ K', pre'.length = K' := ⟨_, rfl⟩
  have HK := Hid3.mk hK
  have HK' := Hid3.mk hK'
  have HH := Hid3.mk h
  have HKL := Hid3.mk hKl
  rw [hK] at cF e0 e1 e2 e3 e4 e5 hKn
  rw [hK'] at cG d0 d1 d2 d3 d4 d5 hKn'
  obtain ⟨E, hEE⟩ : ∃ E : Int, (x.st : Int) + (x.ln : Int) = E := ⟨_, rfl⟩
  have hw3 : IntKind.i64.wrap ((x.st : Int) + (x.ln : Int)) = E := by rw [IntKind.wrap_i64]; omega
  have eG := eqGuardC
  have eM := fun W => eqC W x.nm z.nm (x.rt.toNat : Int) (z.rt.toNat : Int)
  unfold sameG at hgd
  rw [hgd] at eM
  have F1 := Hid3.mk (Bx.one w x z)
  have F2 := Hid3.mk (Bx.two w x z)
  rw [exs_agg, exs_agg] at F1 F2
  have HR : Hid3 (∀ W, Below w.heap.size w W → RStp B w W b s) := ⟨fun W hW => RStp.same h hW⟩
  have hd : ((z.st : Int) != E) = false := by rw [bne_eq_false_iff_eq]; omega
  have hw4 : IntKind.i64.wrap ((x.ln : Int) + (z.ln : Int)) = (x.ln : Int) + (z.ln : Int) := by rw [IntKind.wrap_i64]; omega
  have hl2 : s.l.set pre.length (x.len (x.ln + z.ln) hxz) = pre ++ x.len (x.ln + z.ln) hxz :: z :: post2 := by rw [ka.l, hpost]; exact set_at
  have HOK := Hid3.mk (ok_merge h.ok (by rw [← hpost]; exact ka) hne hxz)
  have HL2 := Hid3.mk hl2
  have HLE : Hid3 ((s.l.set pre.length (x.len (x.ln + z.ln) hxz)).length ≤ 24) := ⟨by rw [List.length_set]; exact h.ok.len⟩
  have hK2 : (pre ++ [x.len (x.ln + z.ln) hxz]).length = K' := by rw [← hK', hpre']; simp
  have HK2 := Hid3.mk hK2
  clear hE hE' h ka kb hnl hKl hK hK' hEE hne hgd hl2 hK2 hpost hpre'
  go_enter Tryd.func54, Tryd.ntmps54
  go_wp2_with fail
  refine cF.mono ?_
  rintro e W1 ⟨rfl, hW⟩
  rw [hW]
  clear cF hW
  go_wp2_with fail
  refine cG.mono ?_
  rintro e W1 ⟨rfl, hW⟩
  rw [hW]
  clear cG hW
  go_wp2_with fail
  go_cut [12, 13] (fun p q wx => ∃ i j W', W' = wx ∧ p = .pointer (some ⟨i, 0, none⟩) ∧ q = .pointer (some ⟨j, 0, none⟩) ∧ Hid3 (Bx w W' i j x z))
  case first =>
    go_region
    all_goals
      go_wp2_with fail
      go_meet
      case rel => first | exact ⟨_, _, _, rfl, rfl, rfl, F1⟩ | exact ⟨_, _, _, rfl, rfl, rfl, F2⟩
  case rest =>
    obtain ⟨i, j, W3, rfl, rfl, rfl, HX⟩ := hcut
    clear e0 e1 e2 e3 e4 e5 d0 d1 d2 d3 d4 d5 F1 F2 c1 c0 hg hbl
    have hxi := HX.out.xi
    have hyj := HX.out.yj
    have u0 := hxi.cell 0
    have u1 := hxi.cell 1
    have u2 := hxi.cell 2
    have u3 := hxi.cell 3
    have u4 := hxi.cell 4
    have u5 := hxi.cell 5
    have v1 := hyj.cell 1
    have v2 := hyj.cell 2
    have v4 := hyj.cell 4
    have v5 := hyj.cell 5
    have f2 := hxi.thaw 2
    have hil := hxi.lt
    have hjl := hyj.lt
    simp only [List.getElem?_cons_zero, List.getElem?_cons_succ, exCs] at u0 u1 u2 u3 u4 u5 v1 v2 v4 v5
    have hB3 : Below w.heap.size w (W3.setCell ⟨i, 2, none⟩ (.int .i64 ((x.ln : Int) + (z.ln : Int)))) := HX.out.bl.trans (Apart.at (X := fun q => q = i) _ i 2 _ rfl |>.below _ (fun q e => by rw [e]; exact HX.out.gi) HX.out.bl.size)
    have HB3 := Hid3.mk hB3
    have cS := vset_any B b s pre.length (x.len (x.ln + z.ln) hxz) _ (HH.out.below hB3).v HKL.out HLE.out
    rw [HL2.out, HK.out] at cS
    rw [show exV (x.len (x.ln + z.ln) hxz) = .agg #[.int .u32 x.id, .int .i64 x.st, .int .i64 ((x.ln : Int) + (z.ln : Int)), .int .u8 x.ow, .string x.nm, .int .u8 x.rt.toNat] by simp [exV, Ex.len]] at cS
    clear hB3 hxi hyj
    go_wp2_with fail
    refine cS.mono ?_
    rintro e W4 ⟨⟨v, rfl⟩, hR4⟩
    have cD := vdrop_any B b _ (pre ++ [x.len (x.ln + z.ln) hxz]) post2 z W4 hR4.r (by simp)
    rw [HK2.out] at cD
    have HR4 := Hid3.mk hR4
    clear cS hR4 u0 u1 u2 u3 u4 u5 v1 v2 v4 v5 f2 hil hjl
    go_wp2_with fail
    refine cD.mono ?_
    rintro e W5 ⟨⟨v5, rfl⟩, hR5⟩
    have HR5 := Hid3.mk hR5
    clear cD hR5
    go_wp2
    go_ret
    refine ⟨rfl, ?_, ((Apart.of_below HB3.out).trans HR4.out.ap).trans HR5.out.ap⟩
    have := HR5.out.r
    rw [show (pre ++ [x.len (x.ln + z.ln) hxz]) ++ post2 = pre ++ x.len (x.ln + z.ln) hxz :: post2 by simp] at this
    exact this.rt HOK.out
end Go.Proofs.YtmepnnlmhlndmaaDoor
