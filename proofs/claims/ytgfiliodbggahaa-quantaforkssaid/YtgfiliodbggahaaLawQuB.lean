/- QuantaForks: the walk. -/
import Derived.Test.YtgfiliodbggahaaLawQuA
namespace Go.Proofs.Ytgfiliodbggahaa
open Go.RowKit Go.Maps
set_option linter.unusedVariables false
set_option maxRecDepth 100000
theorem Mv.others {B B2 : Nat} {w w' : World} {fb gb sb vb pb rb : Nat} {q q' : Qs} (h : Mv B w w' fb gb sb q') (o : Two B2 w vb pb rb q) (h1 : ¬ XT fb gb sb vb) (h2 : ¬ XT fb gb sb pb) (h3 : ¬ XT fb gb sb rb) : Two B2 w' vb pb rb q := ⟨o.t.stay h.ap h1 h2, o.r.stay h.ap h3⟩
set_option maxHeartbeats 1000000 in
theorem forks_law (v u : Value) (l m : List Dd) (w : World) (hd : Dds w v l) (hok : ∀ d ∈ l, DdOk d) (hd2 : Dds w u m) (hok2 : ∀ d ∈ m, DdOk d) : Calls Try.prog 8 #[v, u] w fun e w' => e = .returned (.bool true) ∧ Below w.heap.size w w' := by
  have cP := play_any v l w hd hok
  have hq := ok_play (l.take 60) ok_q0
  generalize playQ (l.take 60) q0 = q at *
  obtain ⟨ad, cap, rfl, _⟩ := id hd2
  have HD : Hid (Dds w (.slice ad m.length cap) m) := hd2
  have HK : Hid (∀ d ∈ m, DdOk d) := hok2
  clear hd hok hd2 hok2
  go_enter Try.func8, Try.ntmps8
  go_wp2_with fail
  refine cP.mono ?_
  rintro e W1 ⟨vb, pb, rb, rfl, hT, hB1⟩
  have cL := live_any W1
  have HT1 : Hid (Two w.heap.size W1 vb pb rb q) := hT
  clear cP hT
  go_wp2_with fail
  refine cL.mono ?_
  rintro e W2 ⟨rfl, hB2⟩
  have HT2 : Hid (Two w.heap.size W2 vb pb rb q) := HT1.out.below hB2
  have HB2 : Hid (Below w.heap.size w W2) := hB1.trans (hB2.mono hB1.size)
  have cF := fork_any _ vb pb q W2 HT2.out.t
  clear cL hB2 hB1 HT1
  go_wp2_with fail
  refine cF.mono ?_
  rintro e W3 ⟨fb, gb, rfl, hV3, hB3⟩
  have HT3 : Hid (Two w.heap.size W3 vb pb rb q) := HT2.out.below hB3
  have HB3 : Hid (Below w.heap.size w W3) := HB2.out.trans (hB3.mono HB2.out.size)
  have cG := rfork_any _ rb q W3 HT3.out.r
  have hfv : W2.heap.size ≤ fb ∧ W2.heap.size ≤ gb := ⟨hV3.gv, hV3.gp⟩
  have hs23 := hB3.size
  have HV3 : Hid (Vec W2.heap.size W3 fb gb q) := hV3
  have hl : vb < W2.heap.size ∧ pb < W2.heap.size ∧ rb < W2.heap.size := ⟨HT2.out.t.v.lt, HT2.out.t.p.lt, HT2.out.r.r.lt⟩
  clear cF hB3 hV3
  go_wp2_with fail
  refine cG.mono ?_
  rintro e W4 ⟨rfl, hR4, hB4⟩
  have HT4 : Hid (Two w.heap.size W4 vb pb rb q) := HT3.out.below hB4
  have HB4 : Hid (Below w.heap.size w W4) := HB3.out.trans (hB4.mono HB3.out.size)
  have hz2 := HB2.out.size
  have HF4 : Hid (Two w.heap.size W4 fb gb W3.heap.size (playQ (m.take 0) q)) := ⟨⟨by omega, by omega, (HV3.out.below hB4).v, (HV3.out.below hB4).p⟩, ⟨by omega, hR4.r⟩⟩
  generalize W3.heap.size = sb at *
  have HN : Hid (¬ XT fb gb sb vb ∧ ¬ XT fb gb sb pb ∧ ¬ XT fb gb sb rb) := by
    refine ⟨?_, ?_, ?_⟩ <;> (rintro ((e | e) | e)) <;> first | omega | (have e' : _ = sb := e; omega)
  clear cG hB4 hR4 HV3 HT3 HT2 hfv hs23 hl hz2 HB2 HB3
  go_wp2_with fail
  go_loopw [10] (fun s wr => ∃ (i : Nat), i ≤ m.length ∧ i ≤ 20 ∧ s = .int .i64 i ∧ Hid (Two w.heap.size wr fb gb sb (playQ (m.take i) q)) ∧ Hid (Two w.heap.size wr vb pb rb q) ∧ Hid (Below w.heap.size w wr)) (fun s _ => 20 - (intOf s).toNat)
  case atStart => exact ⟨0, Nat.zero_le _, by omega, rfl, HF4.out, HT4.out, HB4.out⟩
  case round =>
    obtain ⟨i, hil, hi6, rfl, HF, HT, HB⟩ := hrel
    by_cases hgo : i < m.length ∧ i < 20
    · obtain ⟨hlt, h20⟩ := hgo
      have hltz : (i : Int) < (m.length : Int) := by omega
      have h20z : (i : Int) < 20 := by omega
      have hsz := HB.out.size
      obtain ⟨_, _, e0, hc⟩ := HD.out.below HB.out
      injection e0 with e1 e2 e3
      obtain ⟨g, off, e4, c0, c1, c2, c3⟩ := hc i m[i] (List.getElem?_eq_getElem hlt)
      rw [← e1] at e4
      subst e4
      have hcall := do_any w.heap.size fb gb sb _ m[i] wr HF.out (ok_play _ hq) (HK.out _ (List.getElem_mem hlt))
      have hpl : playQ (m.take (i + 1)) q = doQ m[i] (playQ (m.take i) q) := by rw [List.take_succ_eq_append_getElem hlt, playQ_snoc]
      rw [← hpl] at hcall
      unfold ddV at hcall
      clear hc e1 e2 e3 hpl
      generalize m[i] = d at *
      obtain ⟨d0, d1, d2, d3⟩ := d
      simp only at c0 c1 c2 c3 hcall
      go_wp2_with fail
      refine hcall.mono ?_
      rintro e W5 ⟨rfl, hM⟩
      have HF5 : Hid (Two w.heap.size W5 fb gb sb (playQ (m.take (i + 1)) q)) := hM.two
      have HT5 : Hid (Two w.heap.size W5 vb pb rb q) := hM.others HT.out HN.out.1 HN.out.2.1 HN.out.2.2
      have HB5 : Hid (Below w.heap.size w W5) := HB.out.trans (hM.below HF.out hsz)
      clear hM hcall c0 c1 c2 c3
      go_wp2
      go_roundw
      case rel => exact ⟨i + 1, by omega, by omega, by go_num, HF5.out, HT5.out, HB5.out⟩
      case measure => simp [intOf]; omega
    · have cS := same_any _ vb pb rb q _ HT.out
      have cS2 := fun W h => same_any w.heap.size fb gb sb (playQ (m.take i) q) W h
      generalize playQ (m.take i) q = q2 at *
      by_cases hlt : (i : Int) < (m.length : Int)
      · have h20z : ¬ (i : Int) < 20 := by omega
        go_wp2_with fail
        refine cS.mono ?_
        rintro e W5 ⟨rfl, hB5⟩
        have cS3 := cS2 _ (HF.out.below hB5)
        have HB5 : Hid (Below w.heap.size w W5) := HB.out.trans (hB5.mono HB.out.size)
        clear cS cS2 hB5
        go_wp2_with fail
        refine cS3.mono ?_
        rintro e W6 ⟨rfl, hB6⟩
        clear cS3
        go_wp2
        go_ret
        exact ⟨rfl, HB5.out.trans (hB6.mono HB5.out.size)⟩
      · go_wp2_with fail
        refine cS.mono ?_
        rintro e W5 ⟨rfl, hB5⟩
        have cS3 := cS2 _ (HF.out.below hB5)
        have HB5 : Hid (Below w.heap.size w W5) := HB.out.trans (hB5.mono HB.out.size)
        clear cS cS2 hB5
        go_wp2_with fail
        refine cS3.mono ?_
        rintro e W6 ⟨rfl, hB6⟩
        clear cS3
        go_wp2
        go_ret
        exact ⟨rfl, HB5.out.trans (hB6.mono HB5.out.size)⟩
end Go.Proofs.Ytgfiliodbggahaa
