/- CapsPlays, CapsFinds, CapsForks: the walks. -/
import Derived.Test.YtioinppclejbhaaDoorCaN
import Derived.Test.YtioinppclejbhaaDoorCaW
namespace Go.Proofs.YtioinppclejbhaaDoor
open Go.RowKit Go.Maps
set_option linter.unusedVariables false
set_option maxRecDepth 100000
set_option maxHeartbeats 4000000 in
theorem plays_law (v : Value) (l : List Dd) (w : World) (hd : Dds w v l) (hn : NTabs w) : Calls Tryd.prog 3 #[v] w fun e w' => e = .returned (.bool true) ∧ Below w.heap.size w w' := by
  have cP := play_any v l w hd hn
  clear hd hn
  go_enter Tryd.func3, Tryd.ntmps3
  go_wp2_with fail
  refine cP.mono ?_
  rintro r W1 ⟨b, rb, s, rfl, hT, hB⟩
  have HT1 := Hid3.mk hT
  have HB1 := Hid3.mk hB
  clear cP hT hB
  go_wp2_with fail
  refine (live_any _).mono ?_
  rintro r W2 ⟨rfl, hB⟩
  have HT2 := Hid3.mk (HT1.out.low hB)
  have HB2 := Hid3.mk (HB1.out.trans (hB.mono HB1.out.size))
  clear hB HT1 HB1
  go_wp2_with fail
  refine (same_any _ _ _ _ _ HT2.out).mono ?_
  rintro r W3 ⟨rfl, hB⟩
  have HB3 := Hid3.mk (HB2.out.trans (hB.mono HB2.out.size))
  clear hB HT2 HB2
  go_wp2
  go_ret
  exact ⟨rfl, HB3.out⟩
/-- Both tables, and a capability's box that was laid ahead of them. -/
structure Kc (w W : World) (B b rb x : Nat) (s : Sl) (n : ByteArray) (r : Int) : Prop where
  two : Tw B W b rb s
  box : Two W x 31 (.string n) (.int .u8 r)
  bl : Below w.heap.size w W
  lt : x < B
theorem Kc.low {w W W' : World} {B b rb x : Nat} {s : Sl} {n : ByteArray} {r : Int} (h : Kc w W B b rb x s n r) (k : Below W.heap.size W W') : Kc w W' B b rb x s n r := ⟨h.two.low k, h.box.below k (Nat.lt_of_lt_of_le h.lt h.two.n.size), h.bl.trans (k.mono h.bl.size), h.lt⟩
set_option maxHeartbeats 8000000 in
theorem finds_law (v : Value) (l : List Dd) (n : ByteArray) (r : BitVec 8) (w : World) (hd : Dds w v l) (hn : NTabs w) : Calls Tryd.prog 4 #[v, .agg #[.string n, .int .u8 r.toNat]] w fun e w' => e = .returned (.bool true) ∧ Below w.heap.size w w' := by
  have hX := below_new w (.cells #[.string n, .int .u8 r.toNat] 31)
  have cP := play_any v l _ (hd.below hX) (hn.later hX)
  have HN : Hid3 (∀ W1 b rb s, Tw (w.heap.size + 1) W1 b rb s → Below (w.heap.size + 1) (w.alloc (.cells #[.string n, .int .u8 r.toNat] 31)) W1 → Kc w W1 (w.heap.size + 1) b rb w.heap.size s n r.toNat) := ⟨fun W1 b rb s hT hB => ⟨hT, (Two.new w 31 (.string n) (.int .u8 r.toNat)).below hB (by omega), hX.trans (hB.mono (by omega)), by omega⟩⟩
  simp only [World.size_alloc] at cP
  clear hd hn hX
  go_enter Tryd.func4, Tryd.ntmps4
  go_wp2_with fail
  refine cP.mono ?_
  rintro o W1 ⟨b, rb, s, rfl, hT, hB⟩
  have HK1 := Hid3.mk (HN.out W1 b rb s hT hB)
  clear cP hT hB HN
  generalize w.heap.size + 1 = B at *
  obtain ⟨x, hx⟩ : ∃ x, x = w.heap.size := ⟨_, rfl⟩
  rw [← hx] at HK1 ⊢
  have HX := Hid3.mk hx
  clear hx
  have cS := fun W => cshort_any n r.toNat W
  have hm := shortS_size n
  have cF := fun W (hW : Kc w W B b rb x s n r.toNat) => find_any B b s (shortS n, r) (Nat.le_trans hm (by omega)) W hW.two.t
  have cO := fun W (hW : Kc w W B b rb x s n r.toNat) => topens_any B b s (shortS n, r) (Nat.le_trans hm (by omega)) W hW.two.t
  have cR := fun W (hW : Kc w W B b rb x s n r.toNat) => rfind_any B rb s (shortS n, r) (fun k => opensB (slF s k).1.data.toList (slF s k).2 (shortS n).data.toList r) W hW.two.r (fun k W' hB => ropens_any (slotC (s k)).1 (shortS n) (slotC (s k)).2 r W' (slotC_len _) (Nat.le_trans hm (by omega)) (hW.two.n.low hB).tabs)
  have hfo : firstO (fun k => opensB (slF s k).1.data.toList (slF s k).2 (shortS n).data.toList r) 7 = findO s (shortS n, r) := rfl
  simp only [hfo] at cR
  generalize findO s (shortS n, r) = FO at *
  obtain ⟨f1, f2⟩ := FO
  simp only at cF cO cR
  clear hfo
  generalize shortS n = m at *
  have hf2 : ((f2 == 0) == (f2 == 0)) = true := by simp
  go_wp2_with fail
  refine (live_any _).mono ?_
  rintro o W2 ⟨rfl, hB⟩
  have HK2 := Hid3.mk (HK1.out.low hB)
  have b0 := HK2.out.box.c0
  have b1 := HK2.out.box.c1
  clear hB HK1
  go_wp2_with fail
  refine (cS _).mono ?_
  rintro o W3 ⟨rfl, hB⟩
  have HK3 := Hid3.mk (HK2.out.low hB)
  clear hB HK2 b0 b1
  go_wp2_with fail
  refine (cF _ HK3.out).mono ?_
  rintro o W4 ⟨rfl, hB⟩
  have HK4 := Hid3.mk (HK3.out.low hB)
  have b0 := HK4.out.box.c0
  have b1 := HK4.out.box.c1
  clear hB HK3
  go_wp2_with fail
  refine (cS _).mono ?_
  rintro o W5 ⟨rfl, hB⟩
  have HK5 := Hid3.mk (HK4.out.low hB)
  clear hB HK4 b0 b1
  go_wp2_with fail
  refine (cR _ HK5.out).mono ?_
  rintro o W6 ⟨rfl, hB⟩
  have HK6 := Hid3.mk (HK5.out.low hB)
  have b0 := HK6.out.box.c0
  have b1 := HK6.out.box.c1
  clear hB HK5
  go_wp2_with fail
  refine (cS _).mono ?_
  rintro o W7 ⟨rfl, hB⟩
  have HK7 := Hid3.mk (HK6.out.low hB)
  clear hB HK6 b0 b1
  go_wp2_with fail
  refine (cO _ HK7.out).mono ?_
  rintro o W8 ⟨rfl, hB⟩
  have HK8 := Hid3.mk (HK7.out.low hB)
  clear hB HK7 cS cF cR cO
  go_wp2
  go_ret
  exact ⟨rfl, HK8.out.bl⟩
set_option maxHeartbeats 16000000 in
theorem forks_law (v v2 : Value) (l l2 : List Dd) (w : World) (hd : Dds w v l) (hd2 : Dds w v2 l2) (hn : NTabs w) : Calls Tryd.prog 8 #[v, v2] w fun e w' => e = .returned (.bool true) ∧ Below w.heap.size w w' := by
  have cP := play_any v l w hd hn
  obtain ⟨ad2, cap2, rfl, hcell2⟩ := id hd2
  have HD := Hid3.mk hd2
  clear hd hd2 hcell2 hn
  go_enter Tryd.func8, Tryd.ntmps8
  go_wp2_with fail
  refine cP.mono ?_
  rintro r W1 ⟨b, rb, s, rfl, hT, hB⟩
  have HT := Hid3.mk hT
  have HB1 := Hid3.mk hB
  clear cP hT hB
  go_wp2_with fail
  refine (live_any _).mono ?_
  rintro r W2 ⟨rfl, hB⟩
  have HT2 : Hid3 (Tw w.heap.size W2 b rb s) := ⟨HT.out.low hB⟩
  have HB2 : Hid3 (Below w.heap.size w W2) := ⟨(HB1.out.trans (hB.mono HB1.out.size))⟩
  clear hB HT HB1
  have cF := fork_any w.heap.size b s W2 HT2.out.t W2.heap.size (Nat.le_refl _)
  go_wp2_with fail
  refine cF.mono ?_
  rintro e W3 ⟨rfl, hf, hB3⟩
  have HR3 := Hid3.mk (And.intro hf hB3)
  have cG := rfork_any w.heap.size rb s W3 (HT2.out.low hB3).r W2.heap.size hB3.size
  clear hf hB3 cF
  go_wp2_with fail
  refine cG.mono ?_
  rintro e W4 ⟨rfl, hg, hB4⟩
  have HM : Hid3 (∃ s', Tw W2.heap.size W4 W2.heap.size W3.heap.size s' ∧ Below W2.heap.size W2 W4) := ⟨s, ⟨HR3.out.1.below hB4, hg, (Nt.new HT2.out.n.tabs).to (HR3.out.2.trans (hB4.mono HR3.out.2.size))⟩, HR3.out.2.trans (hB4.mono HR3.out.2.size)⟩
  clear hg hB4 cG HR3
  generalize W3.heap.size = gb at *
  generalize W2 = V at *
  obtain ⟨fb, hfb⟩ : ∃ fb, fb = V.heap.size := ⟨_, rfl⟩
  have HM2 : Hid3 (∃ s', Tw V.heap.size W4 fb gb s' ∧ Below V.heap.size V W4) := ⟨by rw [hfb]; exact HM.out⟩
  rw [← hfb]
  clear hfb HM
  go_wp2_with fail
  go_loopw [10] (fun sx wr => ∃ (i : Nat), i ≤ l2.length ∧ i ≤ 14 ∧ sx = .int .i64 i ∧ Hid3 (∃ s', Tw V.heap.size wr fb gb s' ∧ Below V.heap.size V wr)) (fun sx _ => 14 - (intOf sx).toNat)
  case atStart => exact ⟨0, Nat.zero_le _, by omega, rfl, HM2⟩
  case round =>
    obtain ⟨i, hil, hi6, rfl, HT0⟩ := hrel
    obtain ⟨s2, hT, hB⟩ := HT0.out
    have HT1 := Hid3.mk (And.intro hT hB)
    clear HM2 HT0 hT hB
    by_cases hgo : i < l2.length ∧ i < 14
    · obtain ⟨hlt, h60⟩ := hgo
      have hltz : (i : Int) < (l2.length : Int) := by omega
      have h60z : (i : Int) < 14 := by omega
      obtain ⟨_, _, e0, hc⟩ := HD.out.below (HB2.out.trans (HT1.out.2.mono HB2.out.size))
      injection e0 with e1 e2 e3
      obtain ⟨g, off, e4, c0⟩ := hc i l2[i] (List.getElem?_eq_getElem hlt)
      rw [← e1] at e4
      subst e4
      have hcall := do_any V.heap.size fb gb s2 l2[i] wr HT1.out.1
      have hld := load_deed c0
      unfold Dd.V at hcall
      clear hc e1 e2 e3 c0
      generalize l2[i].vs.toArray = DV at *
      go_wp2_with (refine wpList_loads rfl 39 _ rfl _ (.agg DV) rfl hld ?_)
      refine hcall.mono ?_
      rintro e W7 ⟨rfl, s3, hT', hB'⟩
      have HT3 : Hid3 (∃ s', Tw V.heap.size W7 fb gb s' ∧ Below V.heap.size V W7) := ⟨_, hT', HT1.out.2.trans hB'⟩
      clear hT' hB' hcall hld HT1
      go_wp2
      go_roundw
      case rel => exact ⟨i + 1, by omega, by omega, by go_num, HT3⟩
      case measure => simp [intOf]; omega
    · have hend : ¬ ((i : Int) < (l2.length : Int)) ∨ ((i : Int) < (l2.length : Int) ∧ ¬ (i : Int) < 14) := by omega
      have cS := same_any w.heap.size b rb s wr (HT2.out.low HT1.out.2)
      have cS2 := fun W (hW : Tw V.heap.size W fb gb s2) => same_any _ fb gb s2 W hW
      rcases hend with hz | ⟨hz, hz4⟩
      all_goals
        go_wp2_with fail
        refine cS.mono ?_
        rintro r W5 ⟨rfl, hB5⟩
        have HT5 := Hid3.mk (HT1.out.1.low hB5)
        have HB5 : Hid3 (Below w.heap.size w W5) := ⟨(HB2.out.trans (HT1.out.2.mono HB2.out.size)).trans (hB5.mono (HB2.out.trans (HT1.out.2.mono HB2.out.size)).size)⟩
        clear cS hB5 HT1
        go_wp2_with fail
        refine (cS2 _ HT5.out).mono ?_
        rintro r W6 ⟨rfl, hB6⟩
        have HB6 := Hid3.mk (HB5.out.trans (hB6.mono HB5.out.size))
        clear cS2 hB6
        go_wp2
        go_ret
        exact ⟨rfl, HB6.out⟩
end Go.Proofs.YtioinppclejbhaaDoor
