/- RegForks: the walk. -/
import Derived.Test.YtboelnkeejmjnaaRgFk
namespace Go.Proofs.Ytboelnkeejmjnaa
open Go.RowKit Go.Maps
set_option linter.unusedVariables false
set_option maxRecDepth 100000
set_option maxHeartbeats 16000000 in
theorem forks_law (v v2 : Value) (l l2 : List Dd) (w : World) (hd : Dds w v l) (hok : ∀ d ∈ l, d.Ok) (hd2 : Dds w v2 l2) (hok2 : ∀ d ∈ l2, d.Ok) : Calls Try.prog 6 #[v, v2] w fun e w' => e = .returned (.bool true) ∧ Below w.heap.size w w' := by
  have cP := play_any v l w hd hok
  obtain ⟨ad2, cap2, rfl, hcell2⟩ := id hd2
  have HD := Hid3.mk hd2
  have HK : Hid3 (∀ d ∈ l2, d.Ok) := ⟨hok2⟩
  clear hd hok hd2 hok2 hcell2
  go_enter Try.func6, Try.ntmps6
  go_wp2_with fail
  refine cP.mono ?_
  rintro r W1 ⟨b, rc, rf, rb, rfl, hT, hB⟩
  generalize playQ (l.take 50) q0 = q at *
  have HT := Hid3.mk hT
  have HB1 := Hid3.mk hB
  clear cP hT hB
  go_wp2_with fail
  refine (live_any _).mono ?_
  rintro r W2 ⟨rfl, hB⟩
  have HT2 : Hid3 (Two w.heap.size W2 b rc rf rb q) := ⟨HT.out.below hB⟩
  have HB2 : Hid3 (Below w.heap.size w W2) := ⟨(HB1.out.trans (hB.mono HB1.out.size))⟩
  clear hB HT HB1
  have cF := fork_any w.heap.size b rc rf q W2 HT2.out.t
  go_wp2_with fail
  refine cF.mono ?_
  rintro e W3 ⟨fb, fc, ff, rfl, hf, hB3⟩
  have HR3 := Hid3.mk (And.intro hf hB3)
  have cG := rfork_any w.heap.size rb q W3 (HT2.out.r.below hB3) W2.heap.size hB3.size
  clear hf hB3 cF
  go_wp2_with fail
  refine cG.mono ?_
  rintro e W4 ⟨rfl, hg, hB4⟩
  have HM : Hid3 (Two W2.heap.size W4 fb fc ff W3.heap.size q ∧ Below W2.heap.size W2 W4) := ⟨⟨HR3.out.1.below hB4, hg, HT2.out.ok⟩, HR3.out.2.trans (hB4.mono HR3.out.2.size)⟩
  clear hg hB4 cG HR3
  generalize W3.heap.size = gb at *
  generalize W2 = V at *
  go_wp2_with fail
  go_loopw [10] (fun sx wr => ∃ (i : Nat), i ≤ l2.length ∧ i ≤ 16 ∧ sx = .int .i64 i ∧ Hid3 (Two V.heap.size wr fb fc ff gb (playQ (l2.take i) q) ∧ Below V.heap.size V wr)) (fun sx _ => 16 - (intOf sx).toNat)
  case atStart => exact ⟨0, Nat.zero_le _, by omega, rfl, HM⟩
  case round =>
    obtain ⟨i, hil, hi6, rfl, HT1⟩ := hrel
    clear HM
    by_cases hlt : i < l2.length
    · have hltz : (i : Int) < (l2.length : Int) := by omega
      by_cases h60 : i < 16
      · have h60z : (i : Int) < 16 := by omega
        obtain ⟨_, _, e0, hc⟩ := HD.out.below (HB2.out.trans (HT1.out.2.mono HB2.out.size))
        injection e0 with e1 e2 e3
        obtain ⟨g, off, e4, c0⟩ := hc i l2[i] (List.getElem?_eq_getElem hlt)
        rw [← e1] at e4
        subst e4
        have hcall := do_any V.heap.size fb fc ff gb _ l2[i] wr HT1.out.1 (HK.out _ (List.getElem_mem hlt))
        have hld := load_deed c0
        have hpl : playQ (l2.take (i + 1)) q = doQ l2[i] (playQ (l2.take i) q) := by rw [List.take_succ_eq_append_getElem hlt, playQ_snoc]
        rw [← hpl] at hcall
        unfold Dd.V at hcall
        clear hc e1 e2 e3 hpl c0
        generalize l2[i].vs.toArray = DV at *
        go_wp2_with (refine wpList_loads rfl 44 _ rfl _ (.agg DV) rfl hld ?_)
        refine hcall.mono ?_
        rintro e W7 ⟨rfl, hM⟩
        have HT3 : Hid3 (Two V.heap.size W7 fb fc ff gb (playQ (l2.take (i + 1)) q) ∧ Below V.heap.size V W7) := ⟨hM.two, HT1.out.2.trans (hM.below HT1.out.1 HT1.out.2.size)⟩
        clear hM hcall hld HT1
        go_wp2
        go_roundw
        case rel => exact ⟨i + 1, by omega, by omega, by go_num, HT3⟩
        case measure => simp [intOf]; omega
      · have h60z : ¬ (i : Int) < 16 := by omega
        have cS := same_any w.heap.size b rc rf rb q wr (HT2.out.below HT1.out.2)
        go_wp2_with fail
        refine cS.mono ?_
        rintro r W5 ⟨rfl, hB5⟩
        have cS2 := same_any _ fb fc ff gb _ W5 (HT1.out.1.below hB5)
        have HB5 : Hid3 (Below w.heap.size w W5) := ⟨(HB2.out.trans (HT1.out.2.mono HB2.out.size)).trans (hB5.mono (HB2.out.trans (HT1.out.2.mono HB2.out.size)).size)⟩
        clear cS hB5
        go_wp2_with fail
        refine cS2.mono ?_
        rintro r W6 ⟨rfl, hB6⟩
        have HB6 := Hid3.mk (HB5.out.trans (hB6.mono HB5.out.size))
        clear cS2 hB6
        go_wp2
        go_ret
        exact ⟨rfl, HB6.out⟩
    · have hltz : ¬ (i : Int) < (l2.length : Int) := by omega
      have cS := same_any w.heap.size b rc rf rb q wr (HT2.out.below HT1.out.2)
      go_wp2_with fail
      refine cS.mono ?_
      rintro r W5 ⟨rfl, hB5⟩
      have cS2 := same_any _ fb fc ff gb _ W5 (HT1.out.1.below hB5)
      have HB5 : Hid3 (Below w.heap.size w W5) := ⟨(HB2.out.trans (HT1.out.2.mono HB2.out.size)).trans (hB5.mono (HB2.out.trans (HT1.out.2.mono HB2.out.size)).size)⟩
      clear cS hB5
      go_wp2_with fail
      refine cS2.mono ?_
      rintro r W6 ⟨rfl, hB6⟩
      have HB6 := Hid3.mk (HB5.out.trans (hB6.mono HB5.out.size))
      clear cS2 hB6
      go_wp2
      go_ret
      exact ⟨rfl, HB6.out⟩
end Go.Proofs.Ytboelnkeejmjnaa
