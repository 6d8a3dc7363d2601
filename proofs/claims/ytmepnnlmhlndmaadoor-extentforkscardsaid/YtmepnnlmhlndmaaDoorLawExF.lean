/- ExtentForks: the walk. -/
import Derived.Test.YtmepnnlmhlndmaaDoorEzP
import Derived.Test.YtmepnnlmhlndmaaDoorEzQ
namespace Go.Proofs.YtmepnnlmhlndmaaDoor
open Go.RowKit Go.Maps
set_option linter.unusedVariables false
set_option maxRecDepth 100000
/-- The forks, above a world in which the first two lie. -/
structure Fk (w Wf W : World) (T b T2 b2 : Nat) (L : Lo) (s s2 : Xt) (k : Nat) (L2 : Lo) : Prop where
  one : Pl w Wf T b L s 40
  t : L2.t = T2
  m : Mx Wf.heap.size W L2 b2 s2 s2
  bl : Below Wf.heap.size Wf W
  la : s2.last ≤ k
set_option maxHeartbeats 4000000 in
theorem forks_law (v v2 : Value) (l l2 : List Dd) (w : World) (hd : Dds w v l) (hd2 : Dds w v2 l2) (hn : NTabs w) : Calls Tryd.prog 8 #[v, v2] w fun r w' => r = .returned (.bool true) ∧ Below w.heap.size w w' := by
  have cP := play_any v l w hd hn
  obtain ⟨ad, cap, rfl, _⟩ := id hd
  obtain ⟨ad2, cap2, rfl, _⟩ := id hd2
  have HD2 := Hid3.mk hd2
  clear hd hd2 hn
  go_enter Tryd.func8, Tryd.ntmps8
  go_wp2_with fail
  refine cP.mono ?_
  rintro r W1 ⟨T, b, L, s, rfl, hP⟩
  have HP := Hid3.mk hP
  have cL := live_any W1
  clear cP hP
  go_wp2_with fail
  refine cL.mono ?_
  rintro r W2 ⟨rfl, hb⟩
  have HP2 := Hid3.mk (HP.out.low hb)
  have cF := fork_any _ W2 L s HP2.out.m.t
  rw [HP2.out.t] at cF
  clear cL hb HP
  go_wp2_with fail
  refine cF.mono ?_
  rintro r W3 ⟨L2, rfl, hF, hb⟩
  obtain ⟨T2, hT2⟩ : ∃ T2, L2.t = T2 := ⟨_, rfl⟩
  rw [hT2]
  have HF := Hid3.mk (And.intro hT2 (And.intro hF hb))
  have cG := rfork_any _ b s W3 ((HP2.out.low hb).m.r)
  clear cF hF hb hT2
  go_wp2_with fail
  refine cG.mono ?_
  rintro r W4 ⟨rfl, hG, hb⟩
  have HK : Hid3 (∃ s2 L2, Fk w W2 W4 T b T2 W3.heap.size L s s2 40 L2) := ⟨s, L2, HP2.out, HF.out.1, ⟨HF.out.2.1.below hb, ⟨Nat.le_trans HF.out.2.2.size hG.g, hG.ex, hG.ok⟩, (Nt.new HP2.out.m.n.tabs).to (HF.out.2.2.trans (hb.mono HF.out.2.2.size))⟩, HF.out.2.2.trans (hb.mono HF.out.2.2.size), HP2.out.la⟩
  clear cG hG hb HF
  generalize W3.heap.size = b2 at *
  go_wp2
  go_loopw [10] (fun sx wr => ∃ (i : Nat), i ≤ l2.length ∧ i ≤ 14 ∧ sx = .int .i64 i ∧ Hid3 (∃ s2 L2, Fk w W2 wr T b T2 b2 L s s2 (40 + i) L2)) (fun sx _ => 14 - (intOf sx).toNat)
  case atStart => exact ⟨0, Nat.zero_le _, by omega, rfl, HK⟩
  case round =>
    obtain ⟨i, hil, hi6, rfl, HT1⟩ := hrel
    clear HK
    obtain ⟨s2, L2, hK⟩ := HT1.out
    have HK := Hid3.mk hK
    clear HT1 hK
    by_cases hgo : i < l2.length ∧ i < 14
    · obtain ⟨hlt, h60⟩ := hgo
      have hltz : (i : Int) < (l2.length : Int) := by omega
      have h60z : (i : Int) < 14 := by omega
      obtain ⟨_, _, e0, hc⟩ := HD2.out.below (HK.out.one.bl.trans (HK.out.bl.mono HK.out.one.bl.size))
      injection e0 with e1 e2 e3
      obtain ⟨g, off, e4, c0⟩ := hc i l2[i] (List.getElem?_eq_getElem hlt)
      rw [← e1] at e4
      subst e4
      have hcall := do_any W2.heap.size b2 L2 s2 l2[i] wr HK.out.m (by have := HK.out.la; omega)
      rw [HK.out.t] at hcall
      have hld := load_deed c0
      unfold Dd.V at hcall
      clear hc e1 e2 e3 c0
      generalize l2[i].vs.toArray = DV at *
      go_wp2_with (refine wpList_loads rfl 58 _ rfl _ (.agg DV) rfl hld ?_)
      refine hcall.mono ?_
      rintro e W5 ⟨rfl, s', hM, hN⟩
      have HT2 : Hid3 (∃ s2 L2, Fk w W2 W5 T b T2 b2 L s s2 (40 + (i + 1)) L2) := ⟨by
        obtain ⟨L', e, hm, _⟩ := hM.out
        exact ⟨s', L', HK.out.one, e.trans HK.out.t, hm, HK.out.bl.trans (hM.low HK.out.m), by have := hN.la; have := HK.out.la; omega⟩⟩
      clear hM hN hcall hld HK
      go_wp2
      go_roundw
      case rel => exact ⟨i + 1, by omega, by omega, by go_num, HT2⟩
      case measure => simp [intOf]; omega
    · have hend : ¬ ((i : Int) < (l2.length : Int)) ∨ ((i : Int) < (l2.length : Int) ∧ ¬ (i : Int) < 14) := by omega
      have cS := same_both _ T b L s wr (HK.out.one.m.low HK.out.bl) HK.out.one.t
      rcases hend with hz | ⟨hz, hz4⟩
      all_goals
        go_wp2_with fail
        refine cS.mono ?_
        rintro r W5 ⟨rfl, hb⟩
        have cS2 := same_both _ T2 b2 L2 s2 W5 (HK.out.m.low hb) HK.out.t
        have HB5 := Hid3.mk (HK.out.one.bl.trans ((HK.out.bl.trans (hb.mono HK.out.bl.size)).mono HK.out.one.bl.size))
        clear cS hb
        go_wp2_with fail
        refine cS2.mono ?_
        rintro r W6 ⟨rfl, hb⟩
        have HB6 := Hid3.mk (HB5.out.trans (hb.mono HB5.out.size))
        clear cS2 hb
        go_wp2
        go_ret
        exact ⟨rfl, HB6.out⟩
end Go.Proofs.YtmepnnlmhlndmaaDoor
