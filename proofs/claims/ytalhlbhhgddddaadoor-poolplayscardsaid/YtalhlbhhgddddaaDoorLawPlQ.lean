/- Do both pools tell the same? PoolPlays: the walk. -/
import Derived.Test.YtalhlbhhgddddaaDoorPlPs
namespace Go.Proofs.YtalhlbhhgddddaaDoor
open Go.RowKit Go.Maps
set_option linter.unusedVariables false
set_option maxRecDepth 100000
set_option maxHeartbeats 8000000 in
theorem same_any (B b fb : Nat) (v : Value) (rb : Nat) (rv : Value) (q : Ps) (hl : q.E.length ≤ 1000) (w : World) (h : Tw B w b fb v rb rv q) (hT : TzTab w) : Calls Tryd.prog 11 #[.pointer (some ⟨b, 0, none⟩), .pointer (some ⟨rb, 0, none⟩)] w fun r w' => r = .returned (.bool true) ∧ Below w.heap.size w w' := by
  have HT := Hid3.mk h
  have HZ := Hid3.mk hT
  have HEL := Hid3.mk hl
  have eG := eqGuardC
  clear h hT hl
  go_enter Tryd.func11, Tryd.ntmps11
  go_wp2_with fail
  go_loopw [5] (fun s5 wr => ∃ i : Nat, i ≤ 9 ∧ s5 = .int .i64 i ∧ Hid3 (Below w.heap.size w wr)) (fun s _ => 10 - (intOf s).toNat)
  case atStart => exact ⟨0, Nat.zero_le _, rfl, ⟨Below.refl _ _⟩⟩
  case round =>
    obtain ⟨i, hi, rfl, HB⟩ := hrel
    have cS := rsize_any B rb rv q _ (HT.out.low HB.out).r
    by_cases hlt : i ≤ 8
    · have hltz : (i : Int) ≤ 8 := by omega
      have hi255 : (i : Int) < 255 := by omega
      have hw8 : IntKind.u8.wrap (i : Int) = (i : Int) := by rw [IntKind.wrap_u8]; omega
      go_wp2_with fail
      refine cS.mono ?_
      rintro r W0 ⟨rfl, hW⟩
      rw [hW]
      clear cS hW
      have c1 := guard_any B b fb 8 v q i (by omega) _ (HT.out.low HB.out).p
      have HG2 : Hid3 (∀ W, Below w.heap.size w W → Calls Tryd.prog 30 #[.pointer (some ⟨rb, 0, none⟩), .int .u8 i] W fun r w' => r = .returned (.tuple #[.agg #[.string (gdC 8 q i).1, .int .u8 (gdC 8 q i).2], .bool (decide (oF 8 q i ≠ 0))]) ∧ Below W.heap.size W w') := ⟨fun W hW => rguard_any B rb rv q i (by omega) W (HT.out.low hW).r⟩
      have HO1 : Hid3 (∀ W, Below w.heap.size w W → Calls Tryd.prog 21 #[.pointer (some ⟨b, 0, none⟩), .int .u8 i] W fun r w' => ∃ u, r = .returned u ∧ NR W w' u (bitsL (oF 8 q i))) := ⟨fun W hW => owners_nr B b fb v q i (by omega) W (HT.out.low hW).p (HZ.out.low hW)⟩
      have HO2 : Hid3 (∀ W, Below w.heap.size w W → Calls Tryd.prog 32 #[.pointer (some ⟨rb, 0, none⟩), .int .u8 i] W fun r w' => ∃ a cap, r = .returned (.slice a (bitsL (oF 8 q i)).length cap) ∧ Txt w' (.slice a (bitsL (oF 8 q i)).length cap) (strOfNums ((bitsL (oF 8 q i)).map fun n : Nat => (n : Int))) ∧ Below W.heap.size W w') := ⟨fun W hW => rowners_t B rb rv q i (by omega) W (HT.out.low hW).r⟩
      have eM := fun W => eqC W (gdC 8 q i).1 (gdC 8 q i).2
      generalize (gdC 8 q i).1 = g1 at *
      generalize (gdC 8 q i).2 = g2 at *
      generalize decide (oF 8 q i ≠ 0) = oz at *
      have hoo : (oz != oz) = false := by simp
      generalize bitsL (oF 8 q i) = BL at *
      go_wp2_with fail
      refine c1.mono ?_
      rintro r W1 ⟨rfl, hb1⟩
      have HB1 := Hid3.mk (HB.out.trans (hb1.mono HB.out.size))
      have hX1 := below_new W1 (.cells #[.string g1, .int .u8 g2] 43)
      have HB2 := Hid3.mk (HB1.out.trans (hX1.mono HB1.out.size))
      have HC1 := Hid3.mk (heap_alloc_new W1 (.cells #[.string g1, .int .u8 g2] 43))
      have hs2 : W1.heap.size < (W1.alloc (.cells #[.string g1, .int .u8 g2] 43)).heap.size := by simp
      have c2 := HG2.out _ HB2.out
      clear c1 hb1 HG2 hX1
      go_wp2_with fail
      generalize W1.alloc (.cells #[.string g1, .int .u8 g2] 43) = W2 at *
      generalize W1.heap.size = x1 at *
      refine c2.mono ?_
      rintro r W3 ⟨rfl, hb3⟩
      have HB3 := Hid3.mk (HB2.out.trans (hb3.mono HB2.out.size))
      have HC3 := Hid3.mk ((hb3.block x1 hs2).trans HC1.out)
      have hX3 := below_new W3 (.cells #[.string g1, .int .u8 g2] 43)
      have HB4 := Hid3.mk (HB3.out.trans (hX3.mono HB3.out.size))
      have hx13 : x1 < W3.heap.size := Nat.lt_of_lt_of_le hs2 hb3.size
      have HC4 := Hid3.mk ((hX3.block x1 hx13).trans HC3.out)
      have HC5 := Hid3.mk (heap_alloc_new W3 (.cells #[.string g1, .int .u8 g2] 43))
      have hs4 : W3.heap.size < (W3.alloc (.cells #[.string g1, .int .u8 g2] 43)).heap.size := by simp
      have y0 : (W3.alloc (.cells #[.string g1, .int .u8 g2] 43)).cell? ⟨x1, 0, none⟩ = some (.string g1) := by rw [Lib.cell_of_heap HC4.out]; rfl
      have y1 : (W3.alloc (.cells #[.string g1, .int .u8 g2] 43)).cell? ⟨x1, 1, none⟩ = some (.int .u8 g2) := by rw [Lib.cell_of_heap HC4.out]; rfl
      have c3 := HO1.out _ HB4.out
      clear c2 hb3 HO1 hX3 HC1 HC3
      go_wp2_with fail
      generalize W3.alloc (.cells #[.string g1, .int .u8 g2] 43) = W4 at *
      generalize W3.heap.size = x3 at *
      refine c3.mono ?_
      rintro r W5 ⟨u, rfl, hN⟩
      obtain ⟨ua, uc, hu, hTx, hb5⟩ := nr_t hN
      subst hu
      have HB5 := Hid3.mk (HB4.out.trans (hb5.mono HB4.out.size))
      have HTx := Hid3.mk hTx
      have c4 := HO2.out _ HB5.out
      clear c3 hN hTx hb5 HO2 y0 y1
      go_wp2_with fail
      refine c4.mono ?_
      rintro r W6 ⟨ra, rc, rfl, hTy, hb6⟩
      have HB6 := Hid3.mk (HB5.out.trans (hb6.mono HB5.out.size))
      have c5 := same8_any _ _ _ W6 (HTx.out.low hb6) hTy
      clear c4 hTy hb6
      go_wp2_with fail
      refine c5.mono ?_
      rintro r W7 ⟨rfl, hW⟩
      rw [hW]
      clear c5 hW
      go_wp2
      go_roundw
      case rel => exact ⟨i + 1, by omega, by go_num, HB6⟩
      case measure => simp [intOf]; omega
    · obtain rfl : i = 9 := by omega
      go_wp2_with fail
      refine cS.mono ?_
      rintro r W0 ⟨rfl, hW⟩
      rw [hW]
      clear cS hW
      go_wp2_with fail
      go_loopw [11] (fun s11 wq => ∃ e : Nat, e ≤ 7 ∧ s11 = .int .u8 e ∧ Hid3 (Below w.heap.size w wq)) (fun s _ => 8 - (intOf s).toNat)
      case atStart => exact ⟨0, Nat.zero_le _, rfl, HB⟩
      case round =>
        obtain ⟨e, he7, rfl, HE⟩ := hrel
        clear HB
        by_cases hle : e ≤ 6
        · have hlez : (e : Int) ≤ 6 := by omega
          have c1 := frames_nr B b fb v q e _ (HT.out.low HE.out).p (HZ.out.low HE.out)
          have HF2 : Hid3 (∀ W, Below w.heap.size w W → Calls Tryd.prog 33 #[.pointer (some ⟨rb, 0, none⟩), .int .u8 e] W fun r w' => ∃ a cap, r = .returned (.slice a (bitsL (heldN q.O e 8)).length cap) ∧ Txt w' (.slice a (bitsL (heldN q.O e 8)).length cap) (strOfNums ((bitsL (heldN q.O e 8)).map fun n : Nat => (n : Int))) ∧ Below W.heap.size W w') := ⟨fun W hW => rframes_t B rb rv q e W (HT.out.low hW).r⟩
          have HH1 : Hid3 (∀ W, Below w.heap.size w W → Calls Tryd.prog 13 #[.pointer (some ⟨b, 0, none⟩), .int .u8 e, .int .u8 1] W fun r w' => r = .returned (.bool ((oF 8 q 1).testBit e)) ∧ w' = W) := ⟨fun W hW => holds_any B b fb 8 v q e 1 (by omega) W (HT.out.low hW).p⟩
          have HH2 : Hid3 (∀ W, Below w.heap.size w W → Calls Tryd.prog 34 #[.pointer (some ⟨rb, 0, none⟩), .int .u8 e, .int .u8 1] W fun r w' => r = .returned (.bool ((oF 8 q 1).testBit e)) ∧ w' = W) := ⟨fun W hW => rholds_any B rb rv q e 1 (by omega) W (HT.out.low hW).r⟩
          generalize bitsL (heldN q.O e 8) = BL at *
          generalize (oF 8 q 1).testBit e = z at *
          have hzz : (z != z) = false := by simp
          go_wp2_with fail
          refine c1.mono ?_
          rintro r W5 ⟨u, rfl, hN⟩
          obtain ⟨ua, uc, hu, hTx, hb5⟩ := nr_t hN
          subst hu
          have HB5 := Hid3.mk (HE.out.trans (hb5.mono HE.out.size))
          have HTx := Hid3.mk hTx
          have c4 := HF2.out _ HB5.out
          clear c1 hN hTx hb5 HF2
          go_wp2_with fail
          refine c4.mono ?_
          rintro r W6 ⟨ra, rc, rfl, hTy, hb6⟩
          have HB6 := Hid3.mk (HB5.out.trans (hb6.mono HB5.out.size))
          have c5 := same8_any _ _ _ W6 (HTx.out.low hb6) hTy
          clear c4 hTy hb6
          go_wp2_with fail
          refine c5.mono ?_
          rintro r W7 ⟨rfl, hW⟩
          rw [hW]
          clear c5 hW
          have c6 := HH1.out W6 HB6.out
          have c7 := HH2.out W6 HB6.out
          clear HH1 HH2
          go_wp2_with fail
          refine c6.mono ?_
          rintro r W8 ⟨rfl, hW⟩
          rw [hW]
          clear c6 hW
          go_wp2_with fail
          refine c7.mono ?_
          rintro r W9 ⟨rfl, hW⟩
          rw [hW]
          clear c7 hW
          go_wp2
          go_roundw
          case rel => exact ⟨e + 1, by omega, by go_num, HB6⟩
          case measure => simp [intOf]; omega
        · obtain rfl : e = 7 := by omega
          have c1 := room_nr B b fb v q _ (HT.out.low HE.out).p (HZ.out.low HE.out)
          have HF2 : Hid3 (∀ W, Below w.heap.size w W → Calls Tryd.prog 35 #[.pointer (some ⟨rb, 0, none⟩)] W fun r w' => ∃ u, r = .returned u ∧ NR W w' u ((List.range 8).filter (fun i => decide (q.O i = 0)))) := ⟨fun W hW => rroom_in B rb rv q W (HT.out.low hW).r⟩
          rw [roomN_filter] at HF2
          generalize bitsL (roomN q.O 8) = BL at *
          go_wp2_with fail
          refine c1.mono ?_
          rintro r W5 ⟨u, rfl, hN⟩
          obtain ⟨ua, uc, hu, hTx, hb5⟩ := nr_t hN
          subst hu
          have HB5 := Hid3.mk (HE.out.trans (hb5.mono HE.out.size))
          have HTx := Hid3.mk hTx
          have c4 := HF2.out _ HB5.out
          clear c1 hN hTx hb5 HF2
          go_wp2_with fail
          refine c4.mono ?_
          rintro r W6 ⟨u6, rfl, hN⟩
          obtain ⟨ra, rc, hu, hTy, hb6⟩ := nr_t hN
          subst hu
          have HB6 := Hid3.mk (HB5.out.trans (hb6.mono HB5.out.size))
          have c5 := same8_any _ _ _ W6 (HTx.out.low hb6) hTy
          clear c4 hTy hb6 hN
          go_wp2_with fail
          refine c5.mono ?_
          rintro r W7 ⟨rfl, hW⟩
          rw [hW]
          clear c5 hW
          have c6 := events_any B b fb 8 v q W6 (HT.out.low HB6.out).p HEL.out
          go_wp2_with fail
          refine c6.mono ?_
          rintro r W8 ⟨ev, rfl, ho8, hb8⟩
          have HB8 := Hid3.mk (HB6.out.trans (hb8.mono HB6.out.size))
          have HO8 := Hid3.mk ho8
          obtain ⟨ea, ec, he8⟩ := slice_of ho8
          subst he8
          have c7 := revents_any B rb rv q W8 (HT.out.low HB8.out).r HEL.out
          clear c6 ho8 hb8
          go_wp2_with fail
          refine c7.mono ?_
          rintro r W9 ⟨ev2, rfl, ho9, hb9⟩
          have HB9 := Hid3.mk (HB8.out.trans (hb9.mono HB8.out.size))
          have c8 := sameev_any _ _ _ _ q.E HEL.out W9 (own_low HO8.out hb9) ho9
          obtain ⟨ea2, ec2, he9⟩ := slice_of ho9
          subst he9
          clear c7 ho9 hb9
          go_wp2_with fail
          refine c8.mono ?_
          rintro r W10 ⟨rfl, hb10⟩
          have HB10 := Hid3.mk (HB9.out.trans (hb10.mono HB9.out.size))
          have c9 := size_pool B b fb 8 v q W10 (HT.out.low HB10.out).p
          have c10 := rsize_any B rb rv q W10 (HT.out.low HB10.out).r
          clear c8 hb10
          go_wp2_with fail
          refine c9.mono ?_
          rintro r W11 ⟨rfl, hW⟩
          rw [hW]
          clear c9 hW
          go_wp2_with fail
          refine c10.mono ?_
          rintro r W12 ⟨rfl, hW⟩
          rw [hW]
          clear c10 hW
          go_wp2
          go_ret
          exact ⟨rfl, HB10.out⟩
set_option maxHeartbeats 4000000 in
theorem plays_law (v : Value) (l : List Dd) (w : World) (hd : Dds w v l) (hNT : NTabs w) (hT : TzTab w) : Calls Tryd.prog 3 #[v] w fun r w' => r = .returned (.bool true) ∧ Below w.heap.size w w' := by
  have cP := play_any v l w hd hNT
  obtain ⟨ad, cap, rfl, _⟩ := id hd
  have HT := Hid3.mk hT
  clear hd hNT hT
  go_enter Tryd.func3, Tryd.ntmps3
  go_wp2_with fail
  refine cP.mono ?_
  rintro r W1 ⟨b, fb, rb, i, rfl, hBo, hi⟩
  have cL := plive_any W1
  have HB := Hid3.mk hBo
  clear cP hBo
  go_wp2_with fail
  refine cL.mono ?_
  rintro r W2 ⟨rfl, hb⟩
  have HB2 := Hid3.mk (HB.out.low hb)
  obtain ⟨pv, rv, q, hTw, hRc⟩ := HB2.out.ex
  have cS := same_any _ b fb pv rb rv q (by have := hRc.len; omega) W2 hTw (HT.out.low HB2.out.bl)
  clear cL hb hTw hRc HB
  go_wp2_with fail
  refine cS.mono ?_
  rintro r W3 ⟨rfl, hb⟩
  have HB3 := Hid3.mk (HB2.out.bl.trans (hb.mono HB2.out.bl.size))
  clear cS hb
  go_wp2
  go_ret
  exact ⟨rfl, HB3.out⟩
end Go.Proofs.YtalhlbhhgddddaaDoor
