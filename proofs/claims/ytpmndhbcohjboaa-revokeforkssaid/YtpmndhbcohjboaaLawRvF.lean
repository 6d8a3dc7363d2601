/- RevokeForks: the walk. -/
import Derived.Test.YtpmndhbcohjboaaRvZ2
namespace Go.Proofs.Ytpmndhbcohjboaa
open Go.RowKit Go.Maps
set_option linter.unusedVariables false
set_option maxRecDepth 100000
theorem Two.fork {w V W3 W4 : World} {B0 b m rb fb fm : Nat} {av lv fav : Value} {vs ls fvs : Fin 6 → Value} {q : Rs} (h : Two B0 B0 V b m rb av lv vs ls q) (h0 : B0 ≤ V.heap.size) (hf : Bk V.heap.size W3 fb fm fav fvs q) (h3 : Below V.heap.size V W3) (hg : Rk B0 W4 W3.heap.size lv ls q) (h4 : Below W3.heap.size W3 W4) : Mv V.heap.size B0 V W4 fb fm W3.heap.size q := by
  refine ⟨⟨fav, lv, fvs, ls, ⟨hf.below h4, hg, h3.size, h0, fun k e f => ?_⟩⟩, h3.trans (h4.mono h3.size)⟩
  have e1 := hf.lt k e
  rcases f with f | f | ⟨i, f⟩
  · omega
  · have := (h.r.l.lt k f).2
    omega
  · have := ((h.r.v i).lt k f).2
    omega
set_option maxHeartbeats 16000000 in
theorem forks_law (v v2 : Value) (l l2 : List Dd) (w : World) (hd : Dds w v l) (hok : ∀ d ∈ l, d.Ok) (hd2 : Dds w v2 l2) (hok2 : ∀ d ∈ l2, d.Ok) : Calls Try.prog 8 #[v, v2] w fun e w' => e = .returned (.bool true) ∧ Below w.heap.size w w' := by
  have cP := play_any v l w hd hok
  obtain ⟨ad2, cap2, rfl, hcell2⟩ := id hd2
  have HD := Hid3.mk hd2
  have HK : Hid3 (∀ d ∈ l2, d.Ok) := ⟨hok2⟩
  clear hd hok hd2 hok2 hcell2
  go_enter Try.func8, Try.ntmps8
  go_wp2_with fail
  refine cP.mono ?_
  rintro r W1 ⟨b, m, rb, rfl, hM, hO⟩
  generalize playQ (l.take 50) q0 = q at *
  obtain ⟨av, lv, vs, ls, ht⟩ := hM.two
  have HO := Hid3.mk hO
  have HO2 : Hid3 (∀ i, i ≤ 16 → (playQ (l2.take i) q).Ok 66) := ⟨fun i hi => (playQ_ok (l2.take i) q 50 (fun d hd => HK.out d (List.mem_of_mem_take hd)) hO).wide (by rw [List.length_take]; omega)⟩
  have HT := Hid3.mk ht
  have HB1 := Hid3.mk hM.below
  clear cP hM hO ht
  go_wp2_with fail
  refine (live_any _).mono ?_
  rintro r W2 ⟨rfl, hB⟩
  have HT2 : Hid3 (Two w.heap.size w.heap.size W2 b m rb av lv vs ls q) := ⟨HT.out.below hB⟩
  have HB2 : Hid3 (Below w.heap.size w W2) := ⟨(HB1.out.trans (hB.mono HB1.out.size))⟩
  clear hB HT HB1
  have cF := fork_any w.heap.size b m av vs q 50 W2 HT2.out.t HO.out (by omega)
  have cG := fun W (hW : Rk w.heap.size W rb lv ls q) => rfork_any w.heap.size rb lv ls q W hW
  have HF : Hid3 (∀ W3 W4 fb fm fav fvs, Bk W2.heap.size W3 fb fm fav fvs q → Below W2.heap.size W2 W3 → Rk w.heap.size W4 W3.heap.size lv ls q → Below W3.heap.size W3 W4 → Mv W2.heap.size w.heap.size W2 W4 fb fm W3.heap.size q) := ⟨fun W3 W4 fb fm fav fvs h1 h2 h3 h4 => Two.fork (w := w) HT2.out HB2.out.size h1 h2 h3 h4⟩
  go_wp2_with fail
  refine cF.mono ?_
  rintro e W3 ⟨fb, fm, fav, fvs, rfl, hf, hB3⟩
  have HR3 := Hid3.mk (HT2.out.r.below hB3)
  have HF3 := Hid3.mk (And.intro hf hB3)
  clear hf hB3
  go_wp2_with fail
  refine (cG W3 HR3.out).mono ?_
  rintro e W4 ⟨rfl, hg, hB4⟩
  have HM := Hid3.mk (HF.out W3 W4 fb fm fav fvs HF3.out.1 HF3.out.2 hg hB4)
  clear hg hB4
  all_goals
    clear cF cG HF HR3 HF3
    generalize W3.heap.size = gb at *
    generalize W2 = V at *
    go_wp2_with fail
    go_loopw [10] (fun sx wr => ∃ (i : Nat), i ≤ l2.length ∧ i ≤ 16 ∧ sx = .int .i64 i ∧ Hid3 (Mv V.heap.size w.heap.size V wr fb fm gb (playQ (l2.take i) q))) (fun sx _ => 16 - (intOf sx).toNat)
    case atStart => exact ⟨0, Nat.zero_le _, by omega, rfl, HM⟩
    case round =>
      obtain ⟨i, hil, hi6, rfl, HT1⟩ := hrel
      clear HM
      by_cases hlt : i < l2.length
      · have hltz : (i : Int) < (l2.length : Int) := by omega
        by_cases h60 : i < 16
        · have h60z : (i : Int) < 16 := by omega
          obtain ⟨_, _, e0, hc⟩ := HD.out.below (HB2.out.trans (HT1.out.below.mono HB2.out.size))
          injection e0 with e1 e2 e3
          obtain ⟨g, off, e4, c0⟩ := hc i l2[i] (List.getElem?_eq_getElem hlt)
          rw [← e1] at e4
          subst e4
          obtain ⟨av2, lv2, vs2, ls2, ht⟩ := HT1.out.two
          have hcall := do_any V.heap.size w.heap.size fb fm gb av2 lv2 vs2 ls2 _ 66 l2[i] wr ht (HO2.out i hi6) (by omega) (HK.out _ (List.getElem_mem hlt))
          have hld := load_deed c0
          have hpl : playQ (l2.take (i + 1)) q = doQ l2[i] (playQ (l2.take i) q) := by rw [List.take_succ_eq_append_getElem hlt, playQ_snoc]
          rw [← hpl] at hcall
          unfold Dd.V at hcall
          clear hc e1 e2 e3 hpl c0 ht
          generalize l2[i].vs.toArray = DV at *
          go_wp2_with (refine wpList_loads rfl 31 _ rfl _ (.agg DV) rfl hld ?_)
          refine hcall.mono ?_
          rintro e W7 ⟨rfl, hM⟩
          have HT3 : Hid3 (Mv V.heap.size w.heap.size V W7 fb fm gb (playQ (l2.take (i + 1)) q)) := ⟨⟨hM.two, HT1.out.below.trans hM.below⟩⟩
          clear hM hcall hld HT1
          go_wp2
          go_roundw
          case rel => exact ⟨i + 1, by omega, by omega, by go_num, HT3⟩
          case measure => simp [intOf]; omega
        · have h60z : ¬ (i : Int) < 16 := by omega
          have HTa := HT2.out.below HT1.out.below
          have cS := lsame_any w.heap.size w.heap.size b m rb av lv vs ls q 50 wr HTa HO.out (by omega)
          have HO3 := Hid3.mk (HO2.out i hi6)
          clear HTa HO2
          go_wp2_with fail
          refine cS.mono ?_
          rintro r W5 ⟨rfl, hB5⟩
          obtain ⟨av2, lv2, vs2, ls2, ht2⟩ := HT1.out.two
          have cS2 := lsame_any _ _ fb fm gb av2 lv2 vs2 ls2 _ 66 W5 (ht2.below hB5) HO3.out (by omega)
          have HB5 : Hid3 (Below w.heap.size w W5) := ⟨(HB2.out.trans (HT1.out.below.mono HB2.out.size)).trans (hB5.mono (HB2.out.trans (HT1.out.below.mono HB2.out.size)).size)⟩
          clear cS hB5 ht2
          go_wp2_with fail
          refine cS2.mono ?_
          rintro r W6 ⟨rfl, hB6⟩
          have HB6 := Hid3.mk (HB5.out.trans (hB6.mono HB5.out.size))
          clear cS2 hB6
          go_wp2
          go_ret
          exact ⟨rfl, HB6.out⟩
      · have hltz : ¬ (i : Int) < (l2.length : Int) := by omega
        have HTa := HT2.out.below HT1.out.below
        have cS := lsame_any w.heap.size w.heap.size b m rb av lv vs ls q 50 wr HTa HO.out (by omega)
        have HO3 := Hid3.mk (HO2.out i hi6)
        clear HTa HO2
        go_wp2_with fail
        refine cS.mono ?_
        rintro r W5 ⟨rfl, hB5⟩
        obtain ⟨av2, lv2, vs2, ls2, ht2⟩ := HT1.out.two
        have cS2 := lsame_any _ _ fb fm gb av2 lv2 vs2 ls2 _ 66 W5 (ht2.below hB5) HO3.out (by omega)
        have HB5 : Hid3 (Below w.heap.size w W5) := ⟨(HB2.out.trans (HT1.out.below.mono HB2.out.size)).trans (hB5.mono (HB2.out.trans (HT1.out.below.mono HB2.out.size)).size)⟩
        clear cS hB5 ht2
        go_wp2_with fail
        refine cS2.mono ?_
        rintro r W6 ⟨rfl, hB6⟩
        have HB6 := Hid3.mk (HB5.out.trans (hB6.mono HB5.out.size))
        clear cS2 hB6
        go_wp2
        go_ret
        exact ⟨rfl, HB6.out⟩
end Go.Proofs.Ytpmndhbcohjboaa
