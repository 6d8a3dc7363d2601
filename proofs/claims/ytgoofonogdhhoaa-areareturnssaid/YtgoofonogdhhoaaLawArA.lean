/- AreaPlays, AreaForks, AreaDeep: the walks. -/
import Derived.Test.YtgoofonogdhhoaaArZ
namespace Go.Proofs.Ytgoofonogdhhoaa
open Go.RowKit Go.Maps
set_option linter.unusedVariables false
set_option maxRecDepth 100000
theorem AStp.belowB {B : Nat} {w w' : World} {b : Nat} {q : Ar} (h : AStp B w w' b q) (hB : B ≤ w.heap.size) : Below B w w' := h.ap.below B (fun k e => by have e' : k = b := e; rw [e']; exact h.a.g) hB
set_option maxHeartbeats 1000000 in
theorem plays_law (s : Rg) (v : Value) (l : List Dd) (w : World) (hd : Dds w v l) (hok : ∀ d ∈ l, d.Ok) : Calls Try.prog 3 #[s.V, v] w fun e w' => e = .returned (.bool true) ∧ Below w.heap.size w w' := by
  have hX := below_new w (.cells s.vs.toArray 26)
  have HX := Hid3.mk hX
  have cP := play_any s v l _ (hd.below hX) hok
  have hl := load_box (Cl.new w 26 s.vs)
  generalize playQ (l.take 40) (ar0 s) = q at *
  unfold Rg.V at *
  clear hd hok hX
  generalize s.vs.toArray = SA at *
  go_enter Try.func3, Try.ntmps3
  go_wp2_with (refine wpList_loads rfl 26 _ rfl _ (.agg SA) rfl hl ?_)
  refine cP.mono ?_
  rintro e W1 ⟨ab, rb, rfl, hT, hB1⟩
  have cL := live_any W1
  have HT1 := Hid3.mk hT
  have HB1 : Hid3 (Below w.heap.size w W1) := ⟨HX.out.trans (hB1.mono HX.out.size)⟩
  clear cP hT hB1
  go_wp2_with fail
  refine cL.mono ?_
  rintro e W2 ⟨rfl, hB2⟩
  have cS := same_any _ ab rb q W2 (HT1.out.below hB2)
  have HB2 : Hid3 (Below w.heap.size w W2) := ⟨HB1.out.trans (hB2.mono HB1.out.size)⟩
  clear cL hB2
  go_wp2_with fail
  refine cS.mono ?_
  rintro e W3 ⟨rfl, hB3⟩
  clear cS
  go_wp2
  go_ret
  exact ⟨rfl, HB2.out.trans (hB3.mono HB2.out.size)⟩
set_option maxHeartbeats 1000000 in
theorem deep_law (v : Value) (l : List Dd) (w : World) (hd : Dds w v l) (hok : ∀ d ∈ l, d.Ok) : Calls Try.prog 5 #[v] w fun e w' => e = .returned (.bool true) ∧ Below w.heap.size w w' := by
  have cP := play_any rg0 v l w hd hok
  change Calls _ _ #[.agg #[.int .u16 0, .int .u16 0, .int .u16 0, .int .u16 0, .int .u16 0, .int .u16 0, .int .u16 0, .int .u16 0, .int .u16 0], _] _ _ at cP
  generalize playQ (l.take 40) (ar0 rg0) = q at *
  clear hd hok
  go_enter Try.func5, Try.ntmps5
  go_wp2_with fail
  refine cP.mono ?_
  rintro e W1 ⟨ab, rb, rfl, hT, hB1⟩
  have cL := live_any W1
  have HT1 : Hid (Two w.heap.size W1 ab rb q) := hT
  clear cP hT
  go_wp2_with fail
  refine cL.mono ?_
  rintro e W2 ⟨rfl, hB2⟩
  have HT2 : Hid3 (Two w.heap.size W2 ab rb q) := ⟨HT1.out.below hB2⟩
  have HB2 : Hid (Below w.heap.size w W2) := hB1.trans (hB2.mono hB1.size)
  clear cL hB2 hB1 HT1
  have hq4 := HT2.out.t.ok.1
  have cD := depth_any _ ab q W2 HT2.out.t
  generalize hn : q.kp.length = n at *
  have Hn := Hid3.mk hn
  clear hn
  have hn4 : (n : Int) ≤ 4 := by omega
  go_wp2_with fail
  refine cD.mono ?_
  rintro e W3 ⟨rfl, hW⟩
  rw [hW]
  clear cD hW
  go_wp2_with fail
  go_loopw [7] (fun sx wr => ∃ (i : Nat) (q' : Ar), i ≤ n ∧ sx = .int .i64 i ∧ Hid3 (q'.kp.length = i) ∧ Hid3 (Ac w.heap.size wr ab q') ∧ Hid3 (Below w.heap.size w wr)) (fun sx _ => (intOf sx).toNat)
  case atStart => exact ⟨n, q, Nat.le_refl _, rfl, Hn, ⟨HT2.out.t⟩, ⟨HB2.out⟩⟩
  case round =>
    obtain ⟨i, q', hin, rfl, Hi, HA, HB⟩ := hrel
    have hsz := HB.out.size
    have cD := depth_any _ ab q' wr HA.out
    rw [Hi.out] at cD
    have cR := dret_any _ ab q' wr HA.out
    by_cases hi0 : i = 0
    · subst hi0
      rcases ret_cases q' with ⟨hk, e1, e2⟩ | ⟨r, t, hk, e1, e2⟩
      · rw [e1] at cR
        clear e1
        go_wp2_with fail
        refine cD.mono ?_
        rintro e W4 ⟨rfl, hW⟩
        rw [hW]
        clear cD hW
        go_wp2_with fail
        refine cR.mono ?_
        rintro e W5 ⟨rfl, hS⟩
        have HB5 := Hid3.mk (HB.out.trans (hS.belowB hsz))
        clear cR hS
        go_wp2
        go_ret
        exact ⟨rfl, HB5.out⟩
      · have := Hi.out
        rw [hk] at this
        simp at this
    · have hiz : (i : Int) > 0 := by omega
      rcases ret_cases q' with ⟨hk, e1, e2⟩ | ⟨r, t, hk, e1, e2⟩
      · have := Hi.out
        rw [hk] at this
        simp at this
        omega
      · rw [e1] at cR
        have Hr : Hid3 ((retQ q').kp.length = i - 1) := ⟨by
          rw [e2]
          show r.length = _
          have := Hi.out
          rw [hk] at this
          simp at this
          omega⟩
        have hii : ((i : Int) != (i : Int)) = false := by simp
        clear e1 e2 hk
        generalize retQ q' = q2 at *
        go_wp2_with fail
        refine cD.mono ?_
        rintro e W4 ⟨rfl, hW⟩
        rw [hW]
        clear cD hW
        go_wp2_with fail
        refine cR.mono ?_
        rintro e W5 ⟨rfl, hS⟩
        have HB5 := Hid3.mk (HB.out.trans (hS.belowB hsz))
        have HA5 := Hid3.mk hS.a
        clear cR hS
        go_wp2
        go_roundw
        case rel => exact ⟨i - 1, q2, by omega, by go_num, Hr, HA5, HB5⟩
        case measure => simp [intOf]; omega
theorem Two.far {B B2 : Nat} {w w' : World} {ab rb fb gb : Nat} {q q2 : Ar} (h : Two B w ab rb q) (k : Two B2 w fb gb q2) (ap : Apart (XT fb gb) w w') (h1 : ab ≠ fb) (h2 : rb ≠ gb) : Two B w' ab rb q := by
  have hg := k.r.c
  obtain ⟨v, hv⟩ := hg
  have e1 : ab ≠ gb := h.t.c.ne hv.1 (by decide)
  have e2 : rb ≠ fb := h.r.c.elim fun _ hr => hr.1.ne k.t.c (by decide)
  refine ⟨h.t.stay ap (fun e => e.elim h1 e1), ⟨h.r.g, h.r.c.elim fun u hu => ⟨u, hu.1.stay ap (fun e => e.elim e2 h2), own_stay hu.2 ap (fun g' hg' e => ?_)⟩, h.r.ok⟩⟩
  obtain ⟨cur', hg'⟩ := hg'
  rcases e with e | e
  · have e : g' = fb := e
    subst e
    have := k.t.c.typ hg'
    revert this
    decide
  · have e : g' = gb := e
    subst e
    have := hv.1.typ hg'
    revert this
    decide
def s4 : Rg := ⟨4, 0, 0, 0, 0, 0, 0, 0, 0⟩
set_option maxHeartbeats 2000000 in
theorem forks_law (v v2 : Value) (l l2 : List Dd) (w : World) (hd : Dds w v l) (hok : ∀ d ∈ l, d.Ok) (hd2 : Dds w v2 l2) (hok2 : ∀ d ∈ l2, d.Ok) : Calls Try.prog 7 #[v, v2] w fun e w' => e = .returned (.bool true) ∧ Below w.heap.size w w' := by
  have cP := play_any s4 v l w hd hok
  change Calls _ _ #[.agg #[.int .u16 4, .int .u16 0, .int .u16 0, .int .u16 0, .int .u16 0, .int .u16 0, .int .u16 0, .int .u16 0, .int .u16 0], _] _ _ at cP
  generalize playQ (l.take 40) (ar0 s4) = q at *
  obtain ⟨ad, cap, rfl, hcell⟩ := id hd2
  have HD : Hid (Dds w (.slice ad l2.length cap) l2) := hd2
  have HK : Hid (∀ d ∈ l2, d.Ok) := hok2
  clear hd hok hd2 hcell hok2
  go_enter Try.func7, Try.ntmps7
  go_wp2_with fail
  refine cP.mono ?_
  rintro e W1 ⟨ab, rb, rfl, hT, hB1⟩
  have cL := live_any W1
  have HT1 : Hid (Two w.heap.size W1 ab rb q) := hT
  clear cP hT
  go_wp2_with fail
  refine cL.mono ?_
  rintro e W2 ⟨rfl, hB2⟩
  have HT2 : Hid3 (Two w.heap.size W2 ab rb q) := ⟨HT1.out.below hB2⟩
  have HB2 : Hid (Below w.heap.size w W2) := hB1.trans (hB2.mono hB1.size)
  clear cL hB2 hB1 HT1
  have cF := fork_any _ ab q W2 HT2.out.t
  have hab := HT2.out.t.lt
  have hrb := HT2.out.r.lt
  have hw2 := HB2.out.size
  go_wp2_with fail
  refine cF.mono ?_
  rintro e W3 ⟨rfl, hA3, hB3⟩
  have HT3 : Hid3 (Two w.heap.size W3 ab rb q) := ⟨HT2.out.below hB3⟩
  have HB3 : Hid3 (Below w.heap.size w W3) := ⟨HB2.out.trans (hB3.mono HB2.out.size)⟩
  have HA3 : Hid3 (Ac w.heap.size W3 W2.heap.size q) := ⟨⟨hw2, hA3.c, hA3.ok⟩⟩
  have cG := rfork_any _ rb q W3 HT3.out.r
  have hrb3 := HT3.out.r.lt
  have hab3 : W2.heap.size < W3.heap.size := HA3.out.lt
  clear cF hA3 hB3
  go_wp2_with fail
  refine cG.mono ?_
  rintro e W4 ⟨rfl, hR4, hB4⟩
  have HF4 : Hid3 (Two w.heap.size W4 W2.heap.size W3.heap.size q) := ⟨⟨HA3.out.below hB4, hR4 _ (Nat.le_refl _) (by omega)⟩⟩
  have HT4 : Hid3 (Two w.heap.size W4 ab rb q) := ⟨HT3.out.below hB4⟩
  have HB4 : Hid3 (Below w.heap.size w W4) := ⟨HB3.out.trans (hB4.mono HB3.out.size)⟩
  have ne1 : ab ≠ W2.heap.size := by omega
  have ne2 : rb ≠ W3.heap.size := by omega
  clear cG hR4 hB4 HA3 HT3 HB3 HT2 HB2
  generalize W2.heap.size = fb at *
  generalize W3.heap.size = gb at *
  clear hab hrb hrb3 hab3 hw2
  go_wp2_with fail
  go_loopw [10] (fun sx wr => ∃ (i : Nat), i ≤ l2.length ∧ i ≤ 14 ∧ sx = .int .i64 i ∧ Hid3 (Two w.heap.size wr fb gb (playQ (l2.take i) q)) ∧ Hid3 (Two w.heap.size wr ab rb q) ∧ Hid3 (Below w.heap.size w wr)) (fun sx _ => 14 - (intOf sx).toNat)
  case atStart => exact ⟨0, Nat.zero_le _, by omega, rfl, HF4, HT4, HB4⟩
  case round =>
    obtain ⟨i, hil, hi6, rfl, HF, HT, HB⟩ := hrel
    by_cases hgo : i < l2.length ∧ i < 14
    · obtain ⟨hlt, h60⟩ := hgo
      have hltz : (i : Int) < (l2.length : Int) := by omega
      have h60z : (i : Int) < 14 := by omega
      have hsz := HB.out.size
      obtain ⟨_, _, e0, hc⟩ := HD.out.below HB.out
      injection e0 with e1 e2 e3
      obtain ⟨g, off, e4, c0⟩ := hc i l2[i] (List.getElem?_eq_getElem hlt)
      rw [← e1] at e4
      subst e4
      have hcall := do_any w.heap.size fb gb _ l2[i] wr HF.out (HK.out _ (List.getElem_mem hlt))
      have hld := load_deed c0
      have hpl : playQ (l2.take (i + 1)) q = doQ l2[i] (playQ (l2.take i) q) := by rw [List.take_succ_eq_append_getElem hlt, playQ_snoc]
      rw [← hpl] at hcall
      unfold Dd.V at hcall
      clear hc e1 e2 e3 hpl c0
      generalize l2[i].vs.toArray = DV at *
      go_wp2_with (refine wpList_loads rfl 37 _ rfl _ (.agg DV) rfl hld ?_)
      refine hcall.mono ?_
      rintro e W5 ⟨rfl, hM⟩
      have HF5 : Hid3 (Two w.heap.size W5 fb gb (playQ (l2.take (i + 1)) q)) := ⟨hM.two⟩
      have HT5 : Hid3 (Two w.heap.size W5 ab rb q) := ⟨HT.out.far HF.out hM.ap ne1 ne2⟩
      have HB5 : Hid3 (Below w.heap.size w W5) := ⟨HB.out.trans (hM.below HF.out hsz)⟩
      clear hM hcall hld
      go_wp2
      go_roundw
      case rel => exact ⟨i + 1, by omega, by omega, by go_num, HF5, HT5, HB5⟩
      case measure => simp [intOf]; omega
    · have cS := same_any _ ab rb q wr HT.out
      have HFx : Hid3 (∃ q2, Two w.heap.size wr fb gb q2) := ⟨_, HF.out⟩
      have Hend : Hid3 (∀ W, Below wr.heap.size wr W → Calls Try.prog 11 #[.pointer (some ⟨fb, 0, none⟩), .pointer (some ⟨gb, 0, none⟩)] W fun e w' => e = .returned (.bool true) ∧ Below W.heap.size W w') := ⟨fun W hW => same_any _ fb gb _ W (HF.out.below hW)⟩
      by_cases hlt : i < l2.length
      · have hltz : (i : Int) < (l2.length : Int) := by omega
        have h60z : ¬ (i : Int) < 14 := by omega
        go_wp2_with fail
        refine cS.mono ?_
        rintro e W5 ⟨rfl, hB5⟩
        have HB5 : Hid3 (Below w.heap.size w W5) := ⟨HB.out.trans (hB5.mono HB.out.size)⟩
        have cS2 := Hend.out W5 hB5
        clear cS hB5 Hend
        go_wp2_with fail
        refine cS2.mono ?_
        rintro e W6 ⟨rfl, hB6⟩
        have HB6 : Hid3 (Below w.heap.size w W6) := ⟨HB5.out.trans (hB6.mono HB5.out.size)⟩
        clear cS2 hB6
        go_wp2
        go_ret
        exact ⟨rfl, HB6.out⟩
      · have hltz : ¬ (i : Int) < (l2.length : Int) := by omega
        go_wp2_with fail
        refine cS.mono ?_
        rintro e W5 ⟨rfl, hB5⟩
        have HB5 : Hid3 (Below w.heap.size w W5) := ⟨HB.out.trans (hB5.mono HB.out.size)⟩
        have cS2 := Hend.out W5 hB5
        clear cS hB5 Hend
        go_wp2_with fail
        refine cS2.mono ?_
        rintro e W6 ⟨rfl, hB6⟩
        have HB6 : Hid3 (Below w.heap.size w W6) := ⟨HB5.out.trans (hB6.mono HB5.out.size)⟩
        clear cS2 hB6
        go_wp2
        go_ret
        exact ⟨rfl, HB6.out⟩
end Go.Proofs.Ytgoofonogdhhoaa
