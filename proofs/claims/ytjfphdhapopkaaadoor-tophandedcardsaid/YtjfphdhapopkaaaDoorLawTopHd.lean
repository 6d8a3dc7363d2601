/- TopHanded: the walk. -/
import Derived.Test.YtjfphdhapopkaaaDoorPlS
namespace Go.Proofs.YtjfphdhapopkaaaDoor
open Go.RowKit Go.Maps
set_option linter.unusedVariables false
set_option maxRecDepth 100000
/-- Bytes as they come in. -/
def Bt (w : World) (v : Value) (bs : List Nat) : Prop := ∃ a cap, v = .slice a bs.length cap ∧ bs.length ≤ cap ∧ (∀ x ∈ bs, x ≤ 255) ∧ ∀ (j x : Nat), bs[j]? = some x → ∃ g off, a = some ⟨g, off, none⟩ ∧ w.cell? ⟨g, off + j, none⟩ = some (.int .u8 x)
theorem Bt.low {w w' : World} {v : Value} {bs : List Nat} (h : Bt w v bs) (hb : Below w.heap.size w w') : Bt w' v bs := by
  obtain ⟨a, cap, h1, h2, h3, h4⟩ := h
  refine ⟨a, cap, h1, h2, h3, fun j x hx => ?_⟩
  obtain ⟨g, off, e, hc⟩ := h4 j x hx
  exact ⟨g, off, e, (hb.cell (World.block_lt_of_cell? w _ hc)).trans hc⟩
theorem pop_ones : ∀ k : Nat, k < 7 → pop9 (2 ^ k - 1) = k := by decide +kernel
set_option maxHeartbeats 8000000 in
theorem handed_law (many : Nat) (hm : many ≤ 255) (v : Value) (bs : List Nat) (w : World) (hv : Bt w v bs) (hT : TzTab w) : Calls Tryd.prog 3 #[.int .u8 many, v] w fun r w' => r = .returned (.bool true) ∧ Below w.heap.size w w' := by
  have HV := Hid3.mk hv
  have HT := Hid3.mk hT
  obtain ⟨a, cap, rfl, hcap, hbs, _⟩ := id hv
  have HBS := Hid3.mk hbs
  clear hv hT hbs
  obtain ⟨n, hn, hn1, hn6⟩ : ∃ n : Nat, ((many : Int) % 6 + 1) = (n : Int) ∧ 1 ≤ n ∧ n ≤ 6 := ⟨many % 6 + 1, by omega, by omega, by omega⟩
  go_enter Tryd.func3, Tryd.ntmps3
  go_wp2_with fail
  refine (th_new _).mono ?_
  rintro r W1 ⟨b, fb, rfl, hN⟩
  have c1 := th_grant b fb w W1 hN
  clear hN
  go_wp2_with fail
  refine c1.mono ?_
  rintro r W2 ⟨rfl, hN⟩
  have H2 := Hid3.mk hN
  clear hN c1
  have hb2 : Hid3 (Th w W2 b fb (2 ^ 1 - 1) 1) := H2
  clear H2
  go_wp2_with fail
  go_loopw [7] (fun s wr => ∃ k : Nat, 1 ≤ k ∧ k ≤ n ∧ s = .int .i64 k ∧ Hid3 (Th w wr b fb (2 ^ k - 1) k)) (fun s _ => 7 - (intOf s).toNat)
  case atStart => exact ⟨1, Nat.le_refl _, hn1, rfl, hb2⟩
  case round =>
    obtain ⟨k, hk1, hkn, rfl, HK⟩ := hrel
    clear hb2
    by_cases hlt : k < n
    · have hltz : (k : Int) < (n : Int) := by omega
      have e1 : IntKind.i64.wrap ((k : Int) - 1) = ((k - 1 : Nat) : Int) := by rw [IntKind.wrap_i64]; omega
      have e2 : IntKind.u8.wrap ((k - 1 : Nat) : Int) = ((k - 1 : Nat) : Int) := by rw [IntKind.wrap_u8]; omega
      have e3 : IntKind.u8.wrap (k : Int) = (k : Int) := by rw [IntKind.wrap_u8]; omega
      have cS := th_share b fb k (by omega) (by omega) w _ HK.out
      go_wp2_with fail
      refine cS.mono ?_
      rintro r W3 ⟨rfl, hN⟩
      have H3 := Hid3.mk hN
      clear cS hN
      go_wp2
      go_roundw
      case rel => exact ⟨k + 1, by omega, by omega, by go_num, H3⟩
      case measure => simp [intOf]; omega
    · have hltz : ¬ (k : Int) < (n : Int) := by omega
      obtain rfl : k = n := by omega
      go_wp2_with fail
      have HK0 : Hid3 (Th w _ b fb (2 ^ k - 1) (k + (k - pop9 (2 ^ k - 1)))) := ⟨by rw [pop_ones k (by omega), Nat.sub_self, Nat.add_zero]; exact HK.out⟩
      have hp0 : pop9 (2 ^ k - 1) = k := pop_ones k (by omega)
      clear HK hltz hlt
      go_loopw [8, 9] (fun s8 s9 wr => ∃ i o : Nat, i ≤ 40 ∧ i ≤ bs.length ∧ s9 = .int .i64 i ∧ s8 = .int .i64 (pop9 o) ∧ pop9 o ≤ k ∧ Hid3 (Th w wr b fb o (k + (k - pop9 o)))) (fun _ s9 _ => 41 - (intOf s9).toNat)
      case atStart => exact ⟨0, 2 ^ k - 1, Nat.zero_le _, Nat.zero_le _, rfl, by rw [hp0], by rw [hp0]; exact Nat.le_refl _, HK0⟩
      case round =>
        obtain ⟨i, o, hi40, hil, rfl, rfl, hpk, HO⟩ := hrel
        clear HK0 hp0
        have ho64 := HO.out.lt
        by_cases hgo : i < bs.length ∧ i < 40
        · have hz1 : (i : Int) < (bs.length : Int) := by omega
          have hz2 : (i : Int) < 40 := by omega
          obtain ⟨x, hx⟩ : ∃ x, bs[i]? = some x := ⟨bs[i]'hgo.1, List.getElem?_eq_getElem hgo.1⟩
          have hx255 := HBS.out x (List.mem_of_getElem? hx)
          obtain ⟨a', cap', ea, _, _, hcell⟩ := HV.out.low HO.out.bl
          injection ea with ea1 ea2 ea3
          subst ea1
          subst ea3
          clear ea2
          obtain ⟨g, off, rfl, hc⟩ := hcell i x hx
          obtain ⟨e, he, he6⟩ : ∃ e : Nat, ((x : Int) % 6) = (e : Int) ∧ e < 6 := ⟨x % 6, by omega, by omega⟩
          have cH := th_holds b fb o _ e w _ HO.out
          clear hcell
          cases hb : o.testBit e with
          | true =>
            rw [hb] at cH
            have cF := th_free_ok b fb o _ e he6 hb (by omega) w _ HO.out
            have hpc := pop_clr o ho64 e he6 hb
            have hw : IntKind.i64.wrap ((pop9 o : Int) - 1) = ((pop9 (clr o e) : Nat) : Int) := by rw [IntKind.wrap_i64]; omega
            go_wp2_with fail
            refine cH.mono ?_
            rintro r w' ⟨rfl, rfl⟩
            clear cH
            go_wp2_with fail
            refine cF.mono ?_
            rintro r W4 ⟨rfl, hN⟩
            have H4 := Hid3.mk hN
            clear cF hN
            have hcl := H4.out.lt
            have hpz := pop_zero (clr o e) hcl
            have cW := th_owners b fb _ _ w W4 H4.out (HT.out.low H4.out.bl)
            have hmm : k + (k - pop9 o) + 1 = k + (k - pop9 (clr o e)) := by omega
            rw [hmm] at H4
            clear hmm HO
            generalize clr o e = c at *
            generalize pop9 o = po at *
            by_cases hcz : c = 0
            · have hpcz : pop9 c = 0 := hpz.2 hcz
              rw [decide_eq_true hcz]
              rw [hpcz] at hw cW
              go_wp2_with fail
              refine cW.mono ?_
              rintro r W5 ⟨⟨oa, oc, rfl⟩, hB⟩
              have H5 := Hid3.mk (H4.out.low hB)
              clear cW hB
              go_wp2
              go_roundw
              case rel => exact ⟨i + 1, c, by omega, by omega, by go_num, by rw [hpcz]; rfl, by omega, H5⟩
              case measure => simp [intOf]; omega
            · have hpcz : ¬ pop9 c = 0 := fun h => hcz (hpz.1 h)
              have hpci : (((pop9 c : Nat) : Int) == 0) = false := by simpa using hpcz
              rw [decide_eq_false hcz]
              go_wp2_with fail
              refine cW.mono ?_
              rintro r W5 ⟨⟨oa, oc, rfl⟩, hB⟩
              have H5 := Hid3.mk (H4.out.low hB)
              clear cW hB
              go_wp2
              go_roundw
              case rel => exact ⟨i + 1, c, by omega, by omega, by go_num, rfl, by omega, H5⟩
              case measure => simp [intOf]; omega
          | false =>
            rw [hb] at cH
            have cF := th_free_no b fb o _ e he6 hb (by omega) w _ HO.out
            go_wp2_with fail
            refine cH.mono ?_
            rintro r w' ⟨rfl, rfl⟩
            clear cH
            go_wp2_with fail
            refine cF.mono ?_
            rintro r W4 ⟨rfl, hN⟩
            have H4 := Hid3.mk hN
            clear cF hN
            have cW := th_owners b fb _ _ w W4 H4.out (HT.out.low H4.out.bl)
            go_wp2_with fail
            refine cW.mono ?_
            rintro r W5 ⟨⟨oa, oc, rfl⟩, hB⟩
            have H5 := Hid3.mk (H4.out.low hB)
            clear cW hB
            go_wp2
            go_roundw
            case rel => exact ⟨i + 1, o, by omega, by omega, by go_num, rfl, by omega, H5⟩
            case measure => simp [intOf]; omega
        · by_cases h1 : i < bs.length
          · have h2 : ¬ i < 40 := fun h => hgo ⟨h1, h⟩
            have hz1 : (i : Int) < (bs.length : Int) := by omega
            have hz2 : ¬ (i : Int) < 40 := by omega
            have cG := th_guard b fb o _ w _ HO.out
            have hpz := pop_zero o ho64
            have e1 : IntKind.i64.wrap ((k : Int) - ((pop9 o : Nat) : Int)) = ((k - pop9 o : Nat) : Int) := by rw [IntKind.wrap_i64]; omega
            have e2 : IntKind.i64.wrap ((k : Int) + ((k - pop9 o : Nat) : Int)) = ((k + (k - pop9 o) : Nat) : Int) := by rw [IntKind.wrap_i64]; omega
            have HM : Hid3 (k + (k - pop9 o) ≤ 1000) := ⟨by omega⟩
            by_cases hoz : o = 0
            · have hz3 : ¬ (0 : Int) < ((pop9 o : Nat) : Int) := by have := hpz.2 hoz; omega
              have HP0 := Hid3.mk (show k + (k - pop9 o) = k + k by have := hpz.2 hoz; omega)
              rw [show decide (o ≠ 0) = false by simpa using hoz] at cG
              clear hpz
              generalize hmm : k + (k - pop9 o) = mm at *
              go_wp2_with fail
              refine cG.mono ?_
              rintro r W6 ⟨⟨c, rfl⟩, hB⟩
              have H6 := Hid3.mk (HO.out.low hB)
              clear cG hB HO
              go_wp2_with fail
              refine (th_events b fb o mm HM.out w _ (H6.out.low (below_new W6 _))).mono ?_
              rintro r W7 ⟨⟨ca, cc, rfl⟩, hB⟩
              have H7 := Hid3.mk ((H6.out.low (below_new W6 _)).low hB).bl
              clear hB H6
              go_wp2
              go_ret
              have hmk : (mm : Int) = (k : Int) + (k : Int) := by have := HP0.out; omega
              exact ⟨by
                show Ending.returned (.bool ((mm : Int) == (k : Int) + (k : Int))) = _
                rw [hmk, beq_self_eq_true], H7.out⟩
            · have hne : pop9 o ≠ 0 := fun h => hoz (hpz.1 h)
              have hz3 : (0 : Int) < ((pop9 o : Nat) : Int) := by omega
              rw [show decide (o ≠ 0) = true by simpa using hoz] at cG
              clear hpz
              generalize hmm : k + (k - pop9 o) = mm at *
              go_wp2_with fail
              refine cG.mono ?_
              rintro r W6 ⟨⟨c, rfl⟩, hB⟩
              have H6 := Hid3.mk (HO.out.low hB)
              clear cG hB HO
              go_wp2_with fail
              refine (th_events b fb o mm HM.out w _ (H6.out.low (below_new W6 _))).mono ?_
              rintro r W7 ⟨⟨ca, cc, rfl⟩, hB⟩
              have H7 := Hid3.mk ((H6.out.low (below_new W6 _)).low hB).bl
              clear hB H6
              go_wp2
              go_ret
              exact ⟨rfl, H7.out⟩
          · have hz1 : ¬ (i : Int) < (bs.length : Int) := by omega
            have cG := th_guard b fb o _ w _ HO.out
            have hpz := pop_zero o ho64
            have e1 : IntKind.i64.wrap ((k : Int) - ((pop9 o : Nat) : Int)) = ((k - pop9 o : Nat) : Int) := by rw [IntKind.wrap_i64]; omega
            have e2 : IntKind.i64.wrap ((k : Int) + ((k - pop9 o : Nat) : Int)) = ((k + (k - pop9 o) : Nat) : Int) := by rw [IntKind.wrap_i64]; omega
            have HM : Hid3 (k + (k - pop9 o) ≤ 1000) := ⟨by omega⟩
            by_cases hoz : o = 0
            · have hz3 : ¬ (0 : Int) < ((pop9 o : Nat) : Int) := by have := hpz.2 hoz; omega
              have HP0 := Hid3.mk (show k + (k - pop9 o) = k + k by have := hpz.2 hoz; omega)
              rw [show decide (o ≠ 0) = false by simpa using hoz] at cG
              clear hpz
              generalize hmm : k + (k - pop9 o) = mm at *
              go_wp2_with fail
              refine cG.mono ?_
              rintro r W6 ⟨⟨c, rfl⟩, hB⟩
              have H6 := Hid3.mk (HO.out.low hB)
              clear cG hB HO
              go_wp2_with fail
              refine (th_events b fb o mm HM.out w _ (H6.out.low (below_new W6 _))).mono ?_
              rintro r W7 ⟨⟨ca, cc, rfl⟩, hB⟩
              have H7 := Hid3.mk ((H6.out.low (below_new W6 _)).low hB).bl
              clear hB H6
              go_wp2
              go_ret
              have hmk : (mm : Int) = (k : Int) + (k : Int) := by have := HP0.out; omega
              exact ⟨by
                show Ending.returned (.bool ((mm : Int) == (k : Int) + (k : Int))) = _
                rw [hmk, beq_self_eq_true], H7.out⟩
            · have hne : pop9 o ≠ 0 := fun h => hoz (hpz.1 h)
              have hz3 : (0 : Int) < ((pop9 o : Nat) : Int) := by omega
              rw [show decide (o ≠ 0) = true by simpa using hoz] at cG
              clear hpz
              generalize hmm : k + (k - pop9 o) = mm at *
              go_wp2_with fail
              refine cG.mono ?_
              rintro r W6 ⟨⟨c, rfl⟩, hB⟩
              have H6 := Hid3.mk (HO.out.low hB)
              clear cG hB HO
              go_wp2_with fail
              refine (th_events b fb o mm HM.out w _ (H6.out.low (below_new W6 _))).mono ?_
              rintro r W7 ⟨⟨ca, cc, rfl⟩, hB⟩
              have H7 := Hid3.mk ((H6.out.low (below_new W6 _)).low hB).bl
              clear hB H6
              go_wp2
              go_ret
              exact ⟨rfl, H7.out⟩
end Go.Proofs.YtjfphdhapopkaaaDoor
