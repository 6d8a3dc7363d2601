/- CapsRevokes: the walk. -/
import Derived.Test.YtioinppclejbhaaDoorCaN
namespace Go.Proofs.YtioinppclejbhaaDoor
open Go.RowKit Go.Maps
set_option linter.unusedVariables false
set_option maxRecDepth 100000
theorem thL_cnt {q q2 q3 : Fin 12 → Bool} (h : ∀ k, (q k = true → q2 k = false ∧ q3 k = true) ∧ (q k = false → q2 k = q3 k)) : ∀ n, n ≤ 12 → (thL q n).length + (thL q2 n).length = (thL q3 n).length
  | 0, _ => rfl
  | n + 1, hn => by
    have ih := thL_cnt h n (by omega)
    rw [thL_snoc q n (by omega), thL_snoc q2 n (by omega), thL_snoc q3 n (by omega), List.length_append, List.length_append, List.length_append]
    have hk := h ⟨n, by omega⟩
    cases hq : q ⟨n, by omega⟩ with
    | true =>
      obtain ⟨h2, h3⟩ := hk.1 hq
      rw [h2, h3]
      simp
      omega
    | false =>
      rw [hk.2 hq]
      simp
      omega
theorem gone_cnt (m : ByteArray) (s : Sl) : (thL (revQ m s) 12).length + (slotsL (goneS s (revQ m s) 12)).length = (slotsL s).length := by
  refine thL_cnt (fun k => ⟨fun hq => ?_, fun hq => ?_⟩) 12 (Nat.le_refl _)
  · have h1 := revQ_some m s k
    rw [hq] at h1
    have h2 : (s k).isSome = true := by
      cases h3 : (s k).isSome with
      | true => rfl
      | false => rw [h3] at h1; cases h1
    exact ⟨by show (goneS s (revQ m s) 12 k).isSome = false; unfold goneS; rw [if_pos ⟨k.2, hq⟩]; rfl, h2⟩
  · show (goneS s (revQ m s) 12 k).isSome = (s k).isSome
    unfold goneS
    rw [if_neg (fun e => by rw [hq] at e; cases e.2)]
/-- The table, its fork, and the world below as it was. -/
structure Kf (w W : World) (b fb : Nat) (s s' : Sl) : Prop where
  t : Tb 71 w.heap.size W b s'
  f : Tb 71 w.heap.size W fb s
  n : Nt w.heap.size W
  bl : Below w.heap.size w W
theorem Kf.low {w W W' : World} {b fb : Nat} {s s' : Sl} (h : Kf w W b fb s s') (k : Below W.heap.size W W') : Kf w W' b fb s s' := ⟨h.t.below k, h.f.below k, h.n.low k, h.bl.trans (k.mono h.bl.size)⟩
theorem field_cap (m : ByteArray) (r : Int) (w : World) : (Instr.field 31 (.agg #[.string m, .int .u8 r]) 0).run Tryd.prog w = .ok (.string m) w := by kernel_rfl
set_option maxHeartbeats 8000000 in
theorem revokes_law (v : Value) (l : List Dd) (nm : ByteArray) (w : World) (hd : Dds w v l) (hn : NTabs w) : Calls Tryd.prog 6 #[v, .string nm] w fun e w' => e = .returned (.bool true) ∧ Below w.heap.size w w' := by
  have cP := play_any v l w hd hn
  have cS := fun W => cshort_any nm 0 W
  have hm := shortS_size nm
  generalize shortS nm = m at *
  have hfld := fun w => field_cap m 0 w
  clear hd hn
  go_enter Tryd.func6, Tryd.ntmps6
  go_wp2_with fail
  refine cP.mono ?_
  rintro r W1 ⟨b, rb, s, rfl, hT, hB⟩
  have HK1 : Hid3 (Tb 71 w.heap.size W1 b s ∧ Nt w.heap.size W1 ∧ Below w.heap.size w W1) := ⟨hT.t, hT.n, hB⟩
  clear cP hT hB
  go_wp2_with fail
  refine (live_any _).mono ?_
  rintro r W2 ⟨rfl, hB⟩
  have HK2 : Hid3 (Tb 71 w.heap.size W2 b s ∧ Nt w.heap.size W2 ∧ Below w.heap.size w W2) := ⟨HK1.out.1.below hB, HK1.out.2.1.low hB, HK1.out.2.2.trans (hB.mono HK1.out.2.2.size)⟩
  clear hB HK1
  go_wp2_with fail
  refine (cS _).mono ?_
  rintro r W3 ⟨rfl, hB⟩
  have HK3 : Hid3 (Tb 71 w.heap.size W3 b s ∧ Nt w.heap.size W3 ∧ Below w.heap.size w W3) := ⟨HK2.out.1.below hB, HK2.out.2.1.low hB, HK2.out.2.2.trans (hB.mono HK2.out.2.2.size)⟩
  clear hB HK2 cS
  have cF := fork_any w.heap.size b s W3 HK3.out.1 w.heap.size HK3.out.2.2.size
  go_wp2_with fail
  refine cF.mono ?_
  rintro r W4 ⟨rfl, hf, hB⟩
  have hfb : b < W3.heap.size := HK3.out.1.c.lt
  have HK4 : Hid3 (Kf w W4 b W3.heap.size s s) := ⟨⟨HK3.out.1.below hB, hf, HK3.out.2.1.low hB, HK3.out.2.2.trans (hB.mono HK3.out.2.2.size)⟩⟩
  have hne : W3.heap.size ≠ b := by omega
  clear hf hB HK3 cF hfb
  generalize W3.heap.size = fb at *
  have cV := revoke_any w.heap.size b s m W4 HK4.out.t (Nat.le_trans hm (by omega))
  go_wp2_with fail
  refine cV.mono ?_
  rintro r W5 ⟨v1, rfl, hr1, hS⟩
  have HK5 : Hid3 (Kf w W5 b fb s (goneS s (revQ m s) 12)) := ⟨⟨hS.tb, HK4.out.f.stay hS.ap hne, HK4.out.n.apart hS.ap HK4.out.t.g, HK4.out.bl.trans (hS.belowB HK4.out.t HK4.out.n.size)⟩⟩
  obtain ⟨a1, cap1, hv1, _⟩ := (slots_ints hr1).1
  rw [List.length_map] at hv1
  have hcnt := gone_cnt m s
  have hl1 := thL_len (revQ m s) 12
  have hl2 : (slotsL (goneS s (revQ m s) 12)).length ≤ 12 := thL_len _ 12
  have HCN := Hid3.mk hcnt
  have HG : Hid3 (∀ k : Fin 12, goneS s (revQ m s) 12 k = if revQ m s k = true then none else s k) := ⟨fun k => by
    unfold goneS
    by_cases hq : revQ m s k = true
    · rw [if_pos ⟨k.2, hq⟩, if_pos hq]
    · rw [if_neg (fun e => hq e.2), if_neg hq]⟩
  have HQ : Hid3 (∀ k : Fin 12, revQ m s k = ((s k).isSome && aboveB m.data.toList (slotC (s k)).1.data.toList)) := ⟨revQ_some m s⟩
  generalize goneS s (revQ m s) 12 = s' at *
  generalize (thL (revQ m s) 12).length = N1 at *
  subst hv1
  have eG := eqGuardC
  clear hr1 hS HK4 cV hcnt
  go_wp2_with fail
  go_loopw [10] (fun sx wr => ∃ i : Nat, i ≤ 12 ∧ sx = .int .i64 i ∧ Hid3 (Kf w wr b fb s s')) (fun sx _ => 12 - (intOf sx).toNat)
  case atStart => exact ⟨0, by omega, rfl, HK5⟩
  case round =>
    obtain ⟨i, hi, rfl, HK⟩ := hrel
    clear HK5
    by_cases hlt : i < 12
    · have hltz : (i : Int) < 12 := by omega
      have hwi : IntKind.i64.wrap ((i : Int) + 1) = ((i + 1 : Nat) : Int) := by rw [IntKind.wrap_i64]; omega
      have c1 := get_ok w.heap.size fb s ⟨i, hlt⟩ wr HK.out.f
      have c2 := fun W (hW : Kf w W b fb s s') => get_ok w.heap.size b s' ⟨i, hlt⟩ W hW.t
      have cA := fun W (hW : Kf w W b fb s s') => rabove_any m (slotC (s ⟨i, hlt⟩)).1 W (Nat.le_trans hm (by omega)) (slotC_len _) hW.n.tabs
      have hg := HG.out ⟨i, hlt⟩
      have hq := HQ.out ⟨i, hlt⟩
      rw [hg] at c2
      rw [hq] at c2
      unfold cpV at c1 c2
      clear hg hq
      cases hs : s ⟨i, hlt⟩ with
      | none =>
        rw [hs] at c1 c2 cA
        simp only [Option.isSome_none, Bool.false_and, ite_false, Bool.false_eq_true] at c2
        have eM := fun w => eqC w (slotC none).1 (slotC none).1 (slotC none).2.toNat (slotC none).2.toNat
        rw [show ((slotC none).1.toList == (slotC none).1.toList && (((slotC none).2.toNat : Nat) : Int) == (((slotC none).2.toNat : Nat) : Int)) = true by simp] at eM
        have hge : getE none = 5 := rfl
        rw [hge] at c1 c2
        clear hge hs cA
        generalize (slotC none).1 = n at *
        generalize (((slotC none).2.toNat : Nat) : Int) = r at *
        go_wp2_with fail
        refine c1.mono ?_
        rintro o W1 ⟨rfl, hB1⟩
        have hX1 := hB1.alloc hB1.size (.cells #[.string n, .int .u8 r] 31)
        have hT1 := Two.new W1 31 (.string n) (.int .u8 r)
        have hs1 : W1.heap.size < (W1.alloc (.cells #[.string n, .int .u8 r] 31)).heap.size := by simp
        have HK1 := Hid3.mk (HK.out.low hX1)
        clear c1 hB1 hX1 HK
        go_wp2_with fail
        generalize (W1.alloc (.cells #[.string n, .int .u8 r] 31)) = V1 at *
        generalize W1.heap.size = z1 at *
        refine (c2 _ HK1.out).mono ?_
        rintro o W2 ⟨rfl, hB2⟩
        have hX2 := below_new W2 (.cells #[.string n, .int .u8 r] 31)
        have hz2 : z1 < W2.heap.size := Nat.lt_of_lt_of_le hs1 hB2.size
        have hT3 := (hT1.below hB2 hs1).below hX2 hz2
        have hU3 := Two.new W2 31 (.string n) (.int .u8 r)
        have d0 := hT3.c0
        have d1 := hT3.c1
        have u0 := hU3.c0
        have u1 := hU3.c1
        have HK3 := Hid3.mk (HK1.out.low (hB2.trans (hX2.mono hB2.size)))
        clear c2 hB2 hX2 hT1 hT3 hU3 HK1
        go_wp2_with fail
        go_wp2
        go_roundw
        case rel => exact ⟨i + 1, by omega, by go_num, HK3⟩
        case measure => simp [intOf]; omega
      | some c =>
        rw [hs] at c1 c2 cA
        have hge : getE (some c) = 0 := rfl
        have hsl : slotC (some c) = c.1 := rfl
        rw [hge, hsl] at c1
        rw [hsl] at cA
        simp only [Option.isSome_some, Bool.true_and, hsl] at c2
        cases hz : aboveB m.data.toList c.1.1.data.toList with
        | true =>
          rw [hz] at cA c2
          simp only [if_true] at c2
          have hg5 : getE none = 5 := rfl
          rw [hg5] at c2
          clear hge hsl hs hz hg5
          generalize c.1.1 = n at *
          generalize ((c.1.2.toNat : Nat) : Int) = r at *
          generalize (slotC none).1 = n2 at *
          generalize (((slotC none).2.toNat : Nat) : Int) = r2 at *
          go_wp2_with fail
          refine c1.mono ?_
          rintro o W1 ⟨rfl, hB1⟩
          have hX1 := hB1.alloc hB1.size (.cells #[.string n, .int .u8 r] 31)
          have hT1 := Two.new W1 31 (.string n) (.int .u8 r)
          have hs1 : W1.heap.size < (W1.alloc (.cells #[.string n, .int .u8 r] 31)).heap.size := by simp
          have HK1 := Hid3.mk (HK.out.low hX1)
          clear c1 hB1 hX1 HK
          go_wp2_with fail
          generalize (W1.alloc (.cells #[.string n, .int .u8 r] 31)) = V1 at *
          generalize W1.heap.size = z1 at *
          refine (c2 _ HK1.out).mono ?_
          rintro o W2 ⟨rfl, hB2⟩
          have hX2 := below_new W2 (.cells #[.string n2, .int .u8 r2] 31)
          have hz2 : z1 < W2.heap.size := Nat.lt_of_lt_of_le hs1 hB2.size
          have hT3 := (hT1.below hB2 hs1).below hX2 hz2
          have d0 := hT3.c0
          have d1 := hT3.c1
          have HK3 := Hid3.mk (HK1.out.low (hB2.trans (hX2.mono hB2.size)))
          clear c2 hB2 hX2 hT1 hT3 HK1
          go_wp2_with fail
          generalize (W2.alloc (.cells #[.string n2, .int .u8 r2] 31)) = V3 at *
          refine (cA _ HK3.out).mono ?_
          rintro o W4 ⟨rfl, hB4⟩
          have HK4 := Hid3.mk (HK3.out.low hB4)
          clear cA hB4 HK3 d0 d1
          go_wp2_with fail
          go_wp2
          go_roundw
          case rel => exact ⟨i + 1, by omega, by go_num, HK4⟩
          case measure => simp [intOf]; omega
        | false =>
          rw [hz] at cA c2
          simp only [Bool.false_eq_true, if_false] at c2
          rw [hge, hsl] at c2
          have eM := fun w => eqC w c.1.1 c.1.1 c.1.2.toNat c.1.2.toNat
          rw [show (c.1.1.toList == c.1.1.toList && ((c.1.2.toNat : Nat) : Int) == ((c.1.2.toNat : Nat) : Int)) = true by simp] at eM
          clear hge hsl hs hz
          generalize c.1.1 = n at *
          generalize ((c.1.2.toNat : Nat) : Int) = r at *
          go_wp2_with fail
          refine c1.mono ?_
          rintro o W1 ⟨rfl, hB1⟩
          have hX1 := hB1.alloc hB1.size (.cells #[.string n, .int .u8 r] 31)
          have hT1 := Two.new W1 31 (.string n) (.int .u8 r)
          have hs1 : W1.heap.size < (W1.alloc (.cells #[.string n, .int .u8 r] 31)).heap.size := by simp
          have HK1 := Hid3.mk (HK.out.low hX1)
          clear c1 hB1 hX1 HK
          go_wp2_with fail
          generalize (W1.alloc (.cells #[.string n, .int .u8 r] 31)) = V1 at *
          generalize W1.heap.size = z1 at *
          refine (c2 _ HK1.out).mono ?_
          rintro o W2 ⟨rfl, hB2⟩
          have hX2 := below_new W2 (.cells #[.string n, .int .u8 r] 31)
          have hz2 : z1 < W2.heap.size := Nat.lt_of_lt_of_le hs1 hB2.size
          have hT3 := (hT1.below hB2 hs1).below hX2 hz2
          have hU3 := Two.new W2 31 (.string n) (.int .u8 r)
          have hs3 : W2.heap.size < (W2.alloc (.cells #[.string n, .int .u8 r] 31)).heap.size := by simp
          have d0 := hT3.c0
          have d1 := hT3.c1
          have HK3 := Hid3.mk (HK1.out.low (hB2.trans (hX2.mono hB2.size)))
          clear c2 hB2 hX2 hT1 HK1
          go_wp2_with fail
          generalize (W2.alloc (.cells #[.string n, .int .u8 r] 31)) = V3 at *
          generalize W2.heap.size = z2 at *
          refine (cA _ HK3.out).mono ?_
          rintro o W4 ⟨rfl, hB4⟩
          have hT4 := hT3.below hB4 (by omega)
          have hU4 := hU3.below hB4 hs3
          have HK4 := Hid3.mk (HK3.out.low hB4)
          clear cA hB4 HK3 d0 d1
          have d0 := hT4.c0
          have d1 := hT4.c1
          have u0 := hU4.c0
          have u1 := hU4.c1
          clear hT3 hU3 hT4 hU4
          go_wp2_with fail
          go_wp2
          go_roundw
          case rel => exact ⟨i + 1, by omega, by go_num, HK4⟩
          case measure => simp [intOf]; omega
    · have hltz : ¬ (i : Int) < 12 := by omega
      have cA := slots_any w.heap.size b s' wr HK.out.t
      have cB := fun W (hW : Kf w W b fb s s') => slots_any w.heap.size fb s W hW.f
      clear HG HQ eG
      go_wp2_with fail
      refine cA.mono ?_
      rintro o W1 ⟨v2, rfl, hr2, hB1⟩
      obtain ⟨a2, cap2, hv2, _⟩ := (slots_ints hr2).1
      rw [List.length_map] at hv2
      subst hv2
      have HK1 := Hid3.mk (HK.out.low hB1)
      clear cA hr2 hB1 HK
      go_wp2_with fail
      refine (cB _ HK1.out).mono ?_
      rintro o W2 ⟨v3, rfl, hr3, hB2⟩
      obtain ⟨a3, cap3, hv3, _⟩ := (slots_ints hr3).1
      rw [List.length_map] at hv3
      subst hv3
      have HK2 := Hid3.mk (HK1.out.low hB2)
      clear cB hr3 hB2 HK1
      generalize (slotsL s).length = N3 at *
      generalize (slotsL s').length = N2 at *
      have hsum := HCN.out
      have hz : IntKind.i64.wrap ((N1 : Int) + (N2 : Int)) = (N3 : Int) := by rw [IntKind.wrap_i64]; omega
      have HSM := Hid3.mk (show (N1 : Int) + (N2 : Int) = (N3 : Int) by omega)
      clear hsum HCN
      go_wp2
      go_ret
      exact ⟨by have h := HSM.out; simp; exact h, HK2.out.bl⟩
end Go.Proofs.YtioinppclejbhaaDoor
