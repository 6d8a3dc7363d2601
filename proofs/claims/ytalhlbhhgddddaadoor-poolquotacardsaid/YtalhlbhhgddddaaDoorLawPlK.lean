/- PoolQuota: the walk. -/
import Derived.Test.YtalhlbhhgddddaaDoorPlQa
namespace Go.Proofs.YtalhlbhhgddddaaDoor
open Go.RowKit Go.Maps
set_option linter.unusedVariables false
set_option maxRecDepth 100000
set_option maxHeartbeats 8000000 in
theorem quota_law (v : Value) (l : List Dd) (en : Nat) (he : en ≤ 255) (v2 : Value) (l2 : List Dd) (w : World) (hd : Dds w v l) (hd2 : Dds w v2 l2 ∧ ∀ d ∈ l2, d.s.size ≤ 9223372036854775807) (hNT : NTabs w) (hT : TzTab w) : Calls Tryd.prog 5 #[v, .int .u8 en, v2] w fun r w' => r = .returned (.bool true) ∧ Below w.heap.size w w' := by
  obtain ⟨e, he0⟩ : ∃ e : Nat, e = en % 6 := ⟨_, rfl⟩
  have he1 : (en : Int) % 6 = (e : Int) := by omega
  have he6 : e < 6 := by omega
  clear he0
  have cP := play_any v l w hd hNT
  obtain ⟨ad, cap, rfl, _⟩ := id hd
  obtain ⟨ad2, cap2, rfl, h8, _⟩ := id hd2.1
  have HT := Hid3.mk hT
  have HD := Hid3.mk hd2.1
  have HS := Hid3.mk hd2.2
  have H8 := Hid3.mk h8
  clear hd hNT hT hd2 h8
  go_enter Tryd.func5, Tryd.ntmps5
  go_wp2_with fail
  refine cP.mono ?_
  rintro r W1 ⟨b, fb, rb, i, rfl, hBo, hi⟩
  have cL := plive_any W1
  have HB := Hid3.mk hBo
  clear cP hBo
  go_wp2_with fail
  refine cL.mono ?_
  rintro r W2 ⟨rfl, hb⟩
  obtain ⟨pv, rv, q, hTw, hRc⟩ := (HB.out.low hb).ex
  have hlen := hRc.len
  have HP : Hid3 (Lv w W2 b fb 8 pv q) := ⟨⟨hTw.p, (HB.out.low hb).bl⟩⟩
  clear cL hb hTw hRc HB
  have c1 := frames_nr _ b fb pv q e W2 HP.out.p (HT.out.low HP.out.bl)
  have h9 := own_few (heldN q.O e 8) (by have := heldN_256 q.O e; omega)
  go_wp2_with fail
  refine c1.mono ?_
  rintro r W3 ⟨u, rfl, hN⟩
  obtain ⟨ua, uc, hu, _⟩ := nr_cell hN
  have HP3 := Hid3.mk (HP.out.low hN.bl)
  subst hu
  clear c1 hN HP
  have cQ := quota_any _ b fb 8 pv q e (((bitsL (heldN q.O e 8)).length : Nat) : Int) W3 HP3.out.p
  obtain ⟨k0, k1, k2⟩ := quo_ok q e he6
  rw [k0] at cQ
  have HK1 := Hid3.mk k1
  clear k0 k1
  generalize qtQ q e (((bitsL (heldN q.O e 8)).length : Nat) : Int) = q2 at *
  generalize (bitsL (heldN q.O e 8)).length = N at *
  go_wp2_with fail
  refine cQ.mono ?_
  rintro r W4 ⟨rfl, hS⟩
  have HQ0 : Hid3 (Qk w W4 b fb e 0 N) := by
    obtain ⟨v4, h4⟩ := HP3.out.step hS
    exact ⟨⟨⟨v4, q2, h4, HK1.out, by rw [k2]; omega⟩⟩⟩
  clear cQ hS HP3 HK1 k2 hlen hi
  go_wp2_with fail
  go_loopw [11] (fun s11 wr => ∃ i : Nat, i ≤ l2.length ∧ i ≤ 20 ∧ s11 = .int .i64 i ∧ Hid3 (Qk w wr b fb e i N)) (fun s _ => 20 - (intOf s).toNat)
  case atStart => exact ⟨0, Nat.zero_le _, by omega, rfl, HQ0⟩
  case round =>
    obtain ⟨i, hil, hi6, rfl, HQ⟩ := hrel
    clear HQ0
    by_cases hlt : i < l2.length
    · have hltz : (i : Int) < (l2.length : Int) := by omega
      by_cases h60 : i < 20
      · have h60z : (i : Int) < 20 := by omega
        obtain ⟨_, _, e0, _, hc⟩ := HD.out.below HQ.out.bl
        injection e0 with e1 e2 e3
        obtain ⟨g, off, e4, c0, c1, c2, c3, c4, c5, c6⟩ := hc i l2[i] (List.getElem?_eq_getElem hlt)
        rw [← e1] at e4
        subst e4
        have hf5 := H8.out _ (List.getElem_mem hlt)
        have hs5 := HS.out _ (List.getElem_mem hlt)
        clear hc e1 e2 e3
        generalize l2[i] = d at *
        obtain ⟨d0, d1, d2, d3, d4, d5, d6⟩ := d
        simp only at c0 c1 c2 c3 c4 c5 c6 hf5 hs5
        have HS5 := Hid3.mk hs5
        clear hs5
        have HQ1 := Hid3.mk (HQ.out.low (below_new wr (.cells #[.int .i64 d0, .int .i64 d1, .int .u8 d2, .int .u8 d3, .int .u8 d4, .string d5, .int .u8 d6] 45)))
        by_cases z0 : d0 = 0
        · subst z0
          go_wp2
          go_roundw
          case rel => exact ⟨i + 1, by omega, by omega, by go_num, ⟨HQ1.out.up⟩⟩
          case measure => simp [intOf]; omega
        by_cases z1 : d0 = 1
        · subst z1
          have cC := HQ1.out.grant he6 (by omega) d2 d4 hf5 d5 d6 HS5.out
          go_wp2_with fail
          refine cC.mono ?_
          rintro r W5 ⟨⟨z, rfl⟩, hQ5⟩
          have HQ5 := Hid3.mk hQ5
          have cF := HQ5.out.frames (HT.out.low HQ5.out.bl)
          clear cC hQ5
          go_wp2_with fail
          refine cF.mono ?_
          rintro r W6 ⟨fa, fm, fc, rfl, hfm, hQ6⟩
          have HQ6 := Hid3.mk hQ6
          have hfz : ¬ (N : Int) < (fm : Int) := by omega
          clear cF hQ6 HQ5
          go_wp2
          go_roundw
          case rel => exact ⟨i + 1, by omega, by omega, by go_num, HQ6⟩
          case measure => simp [intOf]; omega
        by_cases z2 : d0 = 2
        · subst z2
          have cC := HQ1.out.share he6 (by omega) d2 d3 d4 hf5
          go_wp2_with fail
          refine cC.mono ?_
          rintro r W5 ⟨⟨z, rfl⟩, hQ5⟩
          have HQ5 := Hid3.mk hQ5
          have cF := HQ5.out.frames (HT.out.low HQ5.out.bl)
          clear cC hQ5
          go_wp2_with fail
          refine cF.mono ?_
          rintro r W6 ⟨fa, fm, fc, rfl, hfm, hQ6⟩
          have HQ6 := Hid3.mk hQ6
          have hfz : ¬ (N : Int) < (fm : Int) := by omega
          clear cF hQ6 HQ5
          go_wp2
          go_roundw
          case rel => exact ⟨i + 1, by omega, by omega, by go_num, HQ6⟩
          case measure => simp [intOf]; omega
        by_cases z3 : d0 = 3
        · subst z3
          have cC := HQ1.out.free he6 (by omega) d2 d4 hf5
          go_wp2_with fail
          refine cC.mono ?_
          rintro r W5 ⟨⟨y, z, rfl⟩, hQ5⟩
          have HQ5 := Hid3.mk hQ5
          have cF := HQ5.out.frames (HT.out.low HQ5.out.bl)
          clear cC hQ5
          go_wp2_with fail
          refine cF.mono ?_
          rintro r W6 ⟨fa, fm, fc, rfl, hfm, hQ6⟩
          have HQ6 := Hid3.mk hQ6
          have hfz : ¬ (N : Int) < (fm : Int) := by omega
          clear cF hQ6 HQ5
          go_wp2
          go_roundw
          case rel => exact ⟨i + 1, by omega, by omega, by go_num, HQ6⟩
          case measure => simp [intOf]; omega
        have cC := HQ1.out.repo he6 (by omega) d2 d4 hf5
        go_wp2_with fail
        refine cC.mono ?_
        rintro r W5 ⟨⟨y, z, rfl⟩, hQ5⟩
        have HQ5 := Hid3.mk hQ5
        have cF := HQ5.out.frames (HT.out.low HQ5.out.bl)
        clear cC hQ5
        go_wp2_with fail
        refine cF.mono ?_
        rintro r W6 ⟨fa, fm, fc, rfl, hfm, hQ6⟩
        have HQ6 := Hid3.mk hQ6
        have hfz : ¬ (N : Int) < (fm : Int) := by omega
        clear cF hQ6 HQ5
        go_wp2
        go_roundw
        case rel => exact ⟨i + 1, by omega, by omega, by go_num, HQ6⟩
        case measure => simp [intOf]; omega
      · have h60z : ¬ (i : Int) < 20 := by omega
        go_wp2
        go_ret
        exact ⟨rfl, HQ.out.bl⟩
    · have hltz : ¬ (i : Int) < (l2.length : Int) := by omega
      go_wp2
      go_ret
      exact ⟨rfl, HQ.out.bl⟩
end Go.Proofs.YtalhlbhhgddddaaDoor
