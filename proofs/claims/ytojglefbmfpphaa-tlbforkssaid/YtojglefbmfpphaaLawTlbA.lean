/- TlbPlays, TlbTells, TlbForks: the walks. -/
import Derived.Test.YtojglefbmfpphaaTlbT
namespace Go.Proofs.Ytojglefbmfpphaa
open Go.RowKit Go.Maps
set_option linter.unusedVariables false
set_option maxRecDepth 100000
/-- START -/
theorem nx {w W : World} (h : Below w.heap.size w W) (o : Obj) : Below w.heap.size w (W.alloc o) := h.alloc h.size _
theorem pl_few (l : List Dd) (h : ∀ d ∈ l, DdOk d) : Good (playL (l.take 60) []) := good_play _ _ (fun d hd => h d (List.mem_of_mem_take hd)) Good.nil
set_option maxHeartbeats 4000000 in
theorem plays_law (v : Value) (l : List Dd) (w : World) (hd : Dds w v l) (hok : ∀ d ∈ l, DdOk d) : Calls Try.prog 3 #[v] w fun e w' => e = .returned (.bool true) ∧ Below w.heap.size w w' := by
  have hG := pl_few l hok
  have hL := hG.few
  have cP := play_any v l w hd hok
  generalize playL (l.take 60) [] = L at *
  clear hd hok hG
  go_enter Try.func3, Try.ntmps3
  go_wp2_with fail
  refine cP.mono ?_
  rintro e W1 ⟨tb, rb, x, y, rfl, hT, hB1⟩
  have cL := live_any W1
  go_wp2_with fail
  refine cL.mono ?_
  rintro e W2 ⟨rfl, hB2⟩
  have hT2 := hT.below hB2
  have c1 := list_any _ tb x L W2 hT2.t (by omega)
  have HT2 : Hid (Two w.heap.size W2 tb rb x y L) := hT2
  have hb2 := hB1.trans (hB2.mono hB1.size)
  clear hT hT2 cP cL
  go_wp2_with fail
  refine c1.mono ?_
  rintro e W3 ⟨v1, rfl, hr1, hB3⟩
  have c2 := rlist_any _ rb y L W3 (HT2.out.r.below hB3) (by omega)
  have HR1 : Hid (Mps W3 v1 L) := Mps.of_own hr1
  have hb3 := hb2.trans (hB3.mono hb2.size)
  clear hr1 c1
  go_wp2_with fail
  refine c2.mono ?_
  rintro e W4 ⟨v2, rfl, hr2, hB4⟩
  have c3 := same_any v1 v2 L L W4 (HR1.out.below hB4) (Mps.of_own hr2) (by omega) (by omega) rfl
  have hb4 := hb3.trans (hB4.mono hb3.size)
  clear hr2 c2
  go_wp2_with fail
  refine c3.mono ?_
  rintro e W5 ⟨rfl, hB5⟩
  clear c3
  go_wp2
  go_ret
  exact ⟨rfl, hb4.trans (hB5.mono hb4.size)⟩
set_option maxHeartbeats 4000000 in
theorem tells_law (v : Value) (l : List Dd) (m : Mp) (ad : Int) (w : World) (hd : Dds w v l) (hok : ∀ d ∈ l, DdOk d) (hm : MpOk m) (h0 : 0 ≤ ad) (h1 : ad ≤ 65535) : Calls Try.prog 4 #[v, mpV m, .int .u16 ad] w fun e w' => e = .returned (.bool true) ∧ Below w.heap.size w w' := by
  have hG := pl_few l hok
  have hL := hG.few
  have hmo : ∀ x ∈ playL (l.take 60) [], MpOk x := fun x hx => (hG.ok x hx).1
  obtain ⟨m0, m1, m2, m3⟩ := m
  have hw0 : Below w.heap.size w (w.alloc (.cells #[.int .u8 m0, .int .u8 m1, .int .u8 m2, .bool m3] 33)) := nx (Below.refl _ w) _
  have hbx := heap_alloc_new w (.cells #[.int .u8 m0, .int .u8 m1, .int .u8 m2, .bool m3] 33)
  have cP := play_any v l _ (hd.below hw0) hok
  generalize playL (l.take 60) [] = L at *
  have eG := eqGuardM
  clear hd hok hG
  unfold mpV
  go_enter Try.func4, Try.ntmps4
  go_wp2_with fail
  refine cP.mono ?_
  rintro e W1 ⟨tb, rb, x, y, rfl, hT, hB1⟩
  have cL := live_any W1
  have hb1 := hw0.trans (hB1.mono hw0.size)
  replace hbx := (hB1.block w.heap.size (by simp)).trans hbx
  go_wp2_with fail
  refine cL.mono ?_
  rintro e W2 ⟨rfl, hB2⟩
  have hs1 := (Array.getElem?_eq_some_iff.1 hbx).1
  replace hbx := (hB2.block w.heap.size hs1).trans hbx
  obtain ⟨B, hT⟩ : ∃ B, Two B W2 tb rb x y L := ⟨_, hT.below hB2⟩
  have hb2 := hb1.trans (hB2.mono hb1.size)
  have c1 := find_any B tb x L m0 m1 W2 hT.t (by omega)
  have c2 := fun W (hO : Ob B 57 W rb y L) => rfind_any B rb y L m0 m1 W hO (by omega)
  have c3 := fun W (hO : Ob B 55 W tb x L) => trans_any B tb x L m0 ad m3 W hO (by omega) hmo h0 h1
  have c4 := fun W (hO : Ob B 57 W rb y L) => rtrans_any B rb y L m0 ad m3 W hO (by omega) hmo h0 h1
  generalize fdM m0 m1 L = q at *
  generalize fdB m0 m1 L = qb at *
  generalize trL m0 ad m3 L = z at *
  obtain ⟨q0, q1, q2, q3⟩ := q
  obtain ⟨z0, z1, z2⟩ := z
  unfold mpV trV at *
  simp only at c1 c2 c3 c4
  have eM := fun w => eqM w q0 q1 q2 q0 q1 q2 q3 q3
  simp only [decide_true] at eM
  have HX : Hid (W2.heap[w.heap.size]? = some (.cells #[.int .u8 m0, .int .u8 m1, .int .u8 m2, .bool m3] 33)) := hbx
  obtain ⟨⟨x0, x1, x2, x3⟩, _⟩ := b4 hbx
  have HT : Hid (Two B W2 tb rb x y L) := hT
  clear hT hbx cP cL hmo hB1 hB2 hb1 hw0
  go_wp2_with fail
  refine c1.mono ?_
  rintro e W3 ⟨rfl, hB3⟩
  have hB3a : Below W2.heap.size W2 (W3.alloc (.cells #[.int .u8 q0, .int .u8 q1, .int .u8 q2, .bool q3] 33)) := hB3.alloc hB3.size _
  have hx3 := (hB3a.block w.heap.size (Array.getElem?_eq_some_iff.1 HX.out).1).trans HX.out
  have HQ : Hid ((W3.alloc (.cells #[.int .u8 q0, .int .u8 q1, .int .u8 q2, .bool q3] 33)).heap[W3.heap.size]? = some (.cells #[.int .u8 q0, .int .u8 q1, .int .u8 q2, .bool q3] 33)) := heap_alloc_new W3 _
  have HX3 : Hid ((W3.alloc (.cells #[.int .u8 q0, .int .u8 q1, .int .u8 q2, .bool q3] 33)).heap[w.heap.size]? = some (.cells #[.int .u8 m0, .int .u8 m1, .int .u8 m2, .bool m3] 33)) := hx3
  have c2' := c2 _ (HT.out.r.below hB3a)
  clear x0 x1 x2 x3 c1 c2
  obtain ⟨⟨x0, x1, x2, x3⟩, _⟩ := b4 hx3
  clear hx3
  go_wp2_with fail
  refine c2'.mono ?_
  rintro e W4 ⟨rfl, hB4⟩
  have hB4a : Below (W3.alloc (.cells #[.int .u8 q0, .int .u8 q1, .int .u8 q2, .bool q3] 33)).heap.size (W3.alloc (.cells #[.int .u8 q0, .int .u8 q1, .int .u8 q2, .bool q3] 33)) (W4.alloc (.cells #[.int .u8 q0, .int .u8 q1, .int .u8 q2, .bool q3] 33)) := hB4.alloc hB4.size _
  have hB24 := hB3a.trans (hB4a.mono hB3a.size)
  have hx4 := (hB4a.block w.heap.size (Array.getElem?_eq_some_iff.1 HX3.out).1).trans HX3.out
  have hq4 := (hB4a.block W3.heap.size (by simp)).trans HQ.out
  have HZ : Hid ((W4.alloc (.cells #[.int .u8 q0, .int .u8 q1, .int .u8 q2, .bool q3] 33)).heap[W4.heap.size]? = some (.cells #[.int .u8 q0, .int .u8 q1, .int .u8 q2, .bool q3] 33)) := heap_alloc_new W4 _
  have c3' := c3 _ (HT.out.t.below hB24)
  have HX4 := hx4
  clear x0 x1 x2 x3 c2' c3
  obtain ⟨⟨x0, x1, x2, x3⟩, _⟩ := b4 hx4
  clear hx4
  have HX5 : Hid ((W4.alloc (.cells #[.int .u8 q0, .int .u8 q1, .int .u8 q2, .bool q3] 33)).heap[w.heap.size]? = some (.cells #[.int .u8 m0, .int .u8 m1, .int .u8 m2, .bool m3] 33)) := HX4
  have HQ5 : Hid ((W4.alloc (.cells #[.int .u8 q0, .int .u8 q1, .int .u8 q2, .bool q3] 33)).heap[W3.heap.size]? = some (.cells #[.int .u8 q0, .int .u8 q1, .int .u8 q2, .bool q3] 33)) := hq4
  clear HX4 hq4
  go_wp2_with fail
  refine c3'.mono ?_
  rintro e W6 ⟨rfl, hB6⟩
  have hB26 := hB24.trans (hB6.mono hB24.size)
  have hx6 := (hB6.block w.heap.size (Array.getElem?_eq_some_iff.1 HX5.out).1).trans HX5.out
  have HQ6 : Hid (W6.heap[W3.heap.size]? = some (.cells #[.int .u8 q0, .int .u8 q1, .int .u8 q2, .bool q3] 33)) := (hB6.block W3.heap.size (Array.getElem?_eq_some_iff.1 HQ5.out).1).trans HQ5.out
  have HZ6 : Hid (W6.heap[W4.heap.size]? = some (.cells #[.int .u8 q0, .int .u8 q1, .int .u8 q2, .bool q3] 33)) := (hB6.block W4.heap.size (Array.getElem?_eq_some_iff.1 HZ.out).1).trans HZ.out
  have c4' := c4 _ (HT.out.r.below hB26)
  clear x0 x1 x2 x3 c3' c4
  obtain ⟨⟨x0, x1, x2, x3⟩, _⟩ := b4 hx6
  clear hx6
  go_wp2_with fail
  refine c4'.mono ?_
  rintro e W7 ⟨rfl, hB7⟩
  have hb7 := hb2.trans ((hB26.trans (hB7.mono hB26.size)).mono hb2.size)
  obtain ⟨⟨s0, s1, s2, s3⟩, _⟩ := b4 ((hB7.block W3.heap.size (Array.getElem?_eq_some_iff.1 HQ6.out).1).trans HQ6.out)
  obtain ⟨⟨t0, t1, t2, t3⟩, _⟩ := b4 ((hB7.block W4.heap.size (Array.getElem?_eq_some_iff.1 HZ6.out).1).trans HZ6.out)
  clear c4' x0 x1 x2 x3
  go_wp2
  go_ret
  exact ⟨rfl, hb7⟩
set_option maxHeartbeats 8000000 in
theorem forks_law (v : Value) (l : List Dd) (v2 : Value) (l2 : List Dd) (w : World) (hd : Dds w v l) (hok : ∀ d ∈ l, DdOk d) (hd2 : Dds w v2 l2) (hok2 : ∀ d ∈ l2, DdOk d) : Calls Try.prog 8 #[v, v2] w fun e w' => e = .returned (.bool true) ∧ Below w.heap.size w w' := by
  have hG := pl_few l hok
  have hL := hG.few
  have cP := play_any v l w hd hok
  have hGp : ∀ i, Good (playL (l2.take i) (playL (l.take 60) [])) := fun i => good_play _ _ (fun d hd => hok2 d (List.mem_of_mem_take hd)) hG
  generalize playL (l.take 60) [] = L at *
  obtain ⟨ad, cap, rfl, hcell⟩ := id hd2
  have HD : Hid (Dds w (.slice ad l2.length cap) l2) := hd2
  have HK : Hid (∀ d ∈ l2, DdOk d) := hok2
  have HG : Hid (∀ i, Good (playL (l2.take i) L)) := hGp
  clear hd hok hG hd2 hok2 hcell hGp
  go_enter Try.func8, Try.ntmps8
  go_wp2_with fail
  refine cP.mono ?_
  rintro e W1 ⟨tb, rb, x, y, rfl, hT, hB1⟩
  have cL := live_any W1
  go_wp2_with fail
  refine cL.mono ?_
  rintro e W2 ⟨rfl, hB2⟩
  have hb2 := hB1.trans (hB2.mono hB1.size)
  have HT2 : Hid (Two w.heap.size W2 tb rb x y L) := hT.below hB2
  have c1 := fork_any _ tb x L W2 HT2.out.t (by omega)
  clear hT cP cL hB1 hB2
  go_wp2_with fail
  refine c1.mono ?_
  rintro e W3 ⟨fb, f, rfl, hF, hB3⟩
  have c2 := rfork_any _ rb y L W3 (HT2.out.r.below hB3) (by omega)
  have hb3 := hb2.trans (hB3.mono hb2.size)
  clear c1
  go_wp2_with fail
  refine c2.mono ?_
  rintro e W4 ⟨gb, g, rfl, hF2, hB4⟩
  have hb4 := hb3.trans (hB4.mono hb3.size)
  have hT4 : Two w.heap.size W4 tb rb x y L := (HT2.out.below hB3).below hB4
  have hs2 := hb2.size
  have hs3 := hb3.size
  have hfF : Ob w.heap.size 55 W4 fb f L := (hF.base hs2).below hB4
  have hfG : Ob w.heap.size 57 W4 gb g L := hF2.base hs3
  have vx : ∀ q, f.ownBlock = some q → W2.heap.size ≤ q ∧ q < W3.heap.size := fun q e => hF.row.lt q e
  have vy : ∀ q, g.ownBlock = some q → W3.heap.size ≤ q := fun q e => (hF2.row.lt q e).1
  have tx : ∀ q, x.ownBlock = some q → q < W2.heap.size := fun q e => (HT2.out.t.row.lt q e).2
  have ty : ∀ q, y.ownBlock = some q → q < W2.heap.size := fun q e => (HT2.out.r.row.lt q e).2
  have hs23 := hB3.size
  have HF : Hid (Two w.heap.size W4 fb gb f g (playL (l2.take 0) L) ∧ Two w.heap.size W4 tb rb x y L ∧ fb ≠ tb ∧ gb ≠ rb ∧ Ap f x ∧ Ap f y ∧ Ap g x ∧ Ap g y) := by
    refine ⟨⟨hfF, hfG, fun q a b => ?_⟩, hT4, ?_, ?_, fun q a b => ?_, fun q a b => ?_, fun q a b => ?_, fun q a b => ?_⟩
    · have := vx q a
      have := vy q b
      omega
    · have := hF.ge
      have := HT2.out.t.lt
      omega
    · have := hF2.ge
      have := HT2.out.r.lt
      omega
    · have := vx q a
      have := tx q b
      omega
    · have := vx q a
      have := ty q b
      omega
    · have := vy q a
      have := tx q b
      omega
    · have := vy q a
      have := ty q b
      omega
  have HB : Hid (Below w.heap.size w W4) := hb4
  clear c2 hF hF2 hfF hfG vx vy tx ty hT4 hB3 hB4 hb2 hb3 hb4 HT2 hs2 hs3 hs23
  go_wp2_with fail
  go_loopw [10] (fun s10 wr => ∃ (i : Nat) (f g : Value), i ≤ l2.length ∧ i ≤ 20 ∧ s10 = .int .i64 i ∧ Hid (Two w.heap.size wr fb gb f g (playL (l2.take i) L) ∧ Two w.heap.size wr tb rb x y L ∧ fb ≠ tb ∧ gb ≠ rb ∧ Ap f x ∧ Ap f y ∧ Ap g x ∧ Ap g y) ∧ Hid (Below w.heap.size w wr)) (fun s10 _ => 20 - (intOf s10).toNat)
  case atStart => exact ⟨0, _, _, Nat.zero_le _, by omega, rfl, HF.out, HB.out⟩
  case round =>
    obtain ⟨i, f, g, hil, hi2, rfl, HT1, HB1⟩ := hrel
    have hend : Hid (∀ (W5 : World), wr = W5 → True) := fun _ _ => trivial
    by_cases hgo : i < l2.length ∧ i < 20
    · obtain ⟨hlt, h20⟩ := hgo
      have hltz : (i : Int) < (l2.length : Int) := by omega
      have h20z : (i : Int) < 20 := by omega
      have hsz := HB1.out.size
      obtain ⟨_, _, e0, hc⟩ := HD.out.below HB1.out
      injection e0 with e1 e2 e3
      obtain ⟨g', off, e4, c0, c1, c2, c3, c4⟩ := hc i l2[i] (List.getElem?_eq_getElem hlt)
      rw [← e1] at e4
      subst e4
      obtain ⟨hTF, hTT, n1, n2, a1, a2, a3, a4⟩ := HT1.out
      have hcall := do_any w.heap.size fb gb f g _ l2[i] wr hTF (HG.out i) (HK.out _ (List.getElem_mem hlt)) hsz
      have hpl : playL (l2.take (i + 1)) L = doL l2[i] (playL (l2.take i) L) := by rw [List.take_succ_eq_append_getElem hlt, playL_snoc]
      rw [← hpl] at hcall
      have HO : Hid (∀ W2 f' g', Mv w.heap.size wr W2 fb gb f g f' g' (playL (l2.take (i + 1)) L) → (Two w.heap.size W2 fb gb f' g' (playL (l2.take (i + 1)) L) ∧ Two w.heap.size W2 tb rb x y L ∧ fb ≠ tb ∧ gb ≠ rb ∧ Ap f' x ∧ Ap f' y ∧ Ap g' x ∧ Ap g' y) ∧ Below w.heap.size w W2) := fun W2 f' g' hM => by
        obtain ⟨k1, k2, k3, k4, k5⟩ := hM.others hTF hTT n1 n2 a1 a2 a3 a4
        exact ⟨⟨hM.two, k1, n1, n2, k2, k3, k4, k5⟩, HB1.out.trans (hM.below hTF hsz)⟩
      unfold ddV at hcall
      clear hc e1 e3 hpl hTF hTT n1 n2 a1 a2 a3 a4
      generalize l2[i] = d at *
      obtain ⟨d0, d1, d2, d3, d4⟩ := d
      simp only at c0 c1 c2 c3 c4 hcall
      go_wp2_with fail
      refine hcall.mono ?_
      rintro e W2 ⟨rfl, f', g2, hM⟩
      obtain ⟨k1, k2⟩ := HO.out W2 f' g2 hM
      have HT2 : Hid (Two w.heap.size W2 fb gb f' g2 (playL (l2.take (i + 1)) L) ∧ Two w.heap.size W2 tb rb x y L ∧ fb ≠ tb ∧ gb ≠ rb ∧ Ap f' x ∧ Ap f' y ∧ Ap g2 x ∧ Ap g2 y) := k1
      have HB2 : Hid (Below w.heap.size w W2) := k2
      clear k1 k2 hM hcall HO c0 c1 c2 c3 c4
      go_wp2
      go_roundw
      case rel => exact ⟨i + 1, f', g2, by omega, by omega, by go_num, HT2.out, HB2.out⟩
      case measure => simp [intOf]; omega
    · have HTT : Hid (Two w.heap.size wr tb rb x y L) := HT1.out.2.1
      have HTF : Hid (Two w.heap.size wr fb gb f g (playL (l2.take i) L)) := HT1.out.1
      have hM := (HG.out i).few
      generalize playL (l2.take i) L = M at *
      have c1 := list_any _ tb x L wr HTT.out.t (by omega)
      have fin : Hid (∀ (P : Prop), P → P) := fun _ h => h
      by_cases hlt : i < l2.length
      all_goals
        first
        | (have hltz : (i : Int) < (l2.length : Int) := by omega
           have h20z : ¬ (i : Int) < 20 := by omega)
        | have hltz : ¬ (i : Int) < (l2.length : Int) := by omega
        go_wp2_with fail
        refine c1.mono ?_
        rintro e W3 ⟨v1, rfl, hr1, hB3⟩
        have c2 := rlist_any _ rb y L W3 (HTT.out.r.below hB3) (by omega)
        have HR1 : Hid (Mps W3 v1 L) := Mps.of_own hr1
        have hb3 := HB1.out.trans (hB3.mono HB1.out.size)
        clear hr1 c1
        go_wp2_with fail
        refine c2.mono ?_
        rintro e W4 ⟨v3, rfl, hr2, hB4⟩
        have c3 := same_any v1 v3 L L W4 (HR1.out.below hB4) (Mps.of_own hr2) (by omega) (by omega) rfl
        have hb4 := hb3.trans (hB4.mono hb3.size)
        have HF4 : Hid (Two w.heap.size W4 fb gb f g M) := (HTF.out.below hB3).below hB4
        clear hr2 c2
        go_wp2_with fail
        refine c3.mono ?_
        rintro e W5 ⟨rfl, hB5⟩
        have hb5 := hb4.trans (hB5.mono hb4.size)
        have c4 := list_any _ fb f M W5 (HF4.out.below hB5).t (by omega)
        clear c3
        go_wp2_with fail
        refine c4.mono ?_
        rintro e W6 ⟨v4, rfl, hr4, hB6⟩
        have c5 := rlist_any _ gb g M W6 ((HF4.out.below hB5).r.below hB6) (by omega)
        have HR4 : Hid (Mps W6 v4 M) := Mps.of_own hr4
        have hb6 := hb5.trans (hB6.mono hb5.size)
        clear hr4 c4
        go_wp2_with fail
        refine c5.mono ?_
        rintro e W7 ⟨v5, rfl, hr5, hB7⟩
        have c6 := same_any v4 v5 M M W7 (HR4.out.below hB7) (Mps.of_own hr5) (by omega) (by omega) rfl
        have hb7 := hb6.trans (hB7.mono hb6.size)
        clear hr5 c5
        go_wp2_with fail
        refine c6.mono ?_
        rintro e W8 ⟨rfl, hB8⟩
        have hb8 := hb7.trans (hB8.mono hb7.size)
        clear c6
        go_wp2
        go_ret
        exact ⟨rfl, hb8⟩
end Go.Proofs.Ytojglefbmfpphaa
