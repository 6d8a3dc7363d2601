/- DevRises: numbers rise; never more than eight wait. -/
import Derived.Test.YtlnjpgcaciemnaaDevInB
namespace Go.Proofs.Ytlnjpgcaciemnaa
open Go.RowKit Go.Maps
set_option linter.unusedVariables false
set_option maxRecDepth 100000
/-- The number ahead of the i-th. -/
def lastN (Q : List Rq) (i : Nat) : Int := if i = 0 then 0 else ((Q[i - 1]?).getD zR).1
theorem lastN_lt {n : Nat} {last : Int} {Q : List Rq} (h : Wq n last Q) (i : Nat) (hi : i < Q.length) : lastN Q i < Q[i].1 := by
  unfold lastN
  split
  · have := (h.i _ (List.getElem_mem hi)).1
    omega
  · rename_i h0
    rw [List.getElem?_eq_getElem (by omega)]
    exact List.pairwise_iff_getElem.1 h.p (i - 1) i (by omega) hi (by omega)
theorem lastN_le {n : Nat} {last : Int} {Q : List Rq} (h : Wq n last Q) (h0 : 0 ≤ last) (i : Nat) (hi : i ≤ Q.length) : 0 ≤ lastN Q i ∧ lastN Q i ≤ last := by
  unfold lastN
  split
  · exact ⟨Int.le_refl _, h0⟩
  · rename_i hn
    rw [List.getElem?_eq_getElem (by omega)]
    have := h.i _ (List.getElem_mem (show i - 1 < Q.length by omega))
    simp only [Option.getD_some]
    omega
set_option maxHeartbeats 8000000 in
theorem rises_law (v : Value) (l : List Dd) (r0 : Int) (r1 : Bool) (r2 r3 r4 : Int) (w : World) (hd : DdsR w.heap.size w v l) : Calls Try.prog 5 #[v, .agg #[.int .u32 r0, .bool r1, .int .i64 r2, .int .i64 r3, .int .u8 r4]] w fun e w' => e = .returned (.bool true) ∧ Below w.heap.size w w' := by
  have hbb : Below w.heap.size w (w.alloc (.cells #[.int .u32 r0, .bool r1, .int .i64 r2, .int .i64 r3, .int .u8 r4] 45)) := (Below.refl _ w).alloc (Nat.le_refl _) _
  have HBB := Hid3.mk hbb
  have HXB : Hid3 ((w.alloc (.cells #[.int .u32 r0, .bool r1, .int .i64 r2, .int .i64 r3, .int .u8 r4] 45)).heap[w.heap.size]? = some (.cells #[.int .u32 r0, .bool r1, .int .i64 r2, .int .i64 r3, .int .u8 r4] 45)) := ⟨heap_alloc_last w _⟩
  have hsb0 : (w.alloc (.cells #[.int .u32 r0, .bool r1, .int .i64 r2, .int .i64 r3, .int .u8 r4] 45)).heap.size = w.heap.size + 1 := by simp
  have c1 := dplay_any v l (w.alloc (.cells #[.int .u32 r0, .bool r1, .int .i64 r2, .int .i64 r3, .int .u8 r4] 45)) (by
    obtain ⟨a, cap, e, h1, h2⟩ := hd.below hbb
    exact ⟨a, cap, e, h1, fun j d hj => by
      obtain ⟨⟨ba, bc, q1, q2, q3, q4⟩, g, off, k1, k2, k3⟩ := h2 j d hj
      exact ⟨⟨ba, bc, q1, q2, q3, fun j x hx => by
        obtain ⟨g, off, r1, r2, r3⟩ := q4 j x hx
        exact ⟨g, off, r1, by omega, r3⟩⟩, g, off, k1, by omega, k3⟩⟩)
  clear hd hbb
  go_enter Try.func5, Try.ntmps5
  go_wp2_with fail
  refine c1.mono ?_
  rintro e W1 ⟨db, sb, mb, rb, og, rmb, rg, v1, u1, rfl, hT, hB⟩
  clear c1
  have hX : (W1.alloc (.cells #[.pointer (some ⟨db, 0, none⟩), .pointer (some ⟨mb, 0, none⟩), .pointer (some ⟨rb, 0, none⟩), .pointer (some ⟨rmb, 0, none⟩)] 28)).heap[W1.heap.size]? = some (.cells #[.pointer (some ⟨db, 0, none⟩), .pointer (some ⟨mb, 0, none⟩), .pointer (some ⟨rb, 0, none⟩), .pointer (some ⟨rmb, 0, none⟩)] 28) := heap_alloc_last W1 _
  have hb : Below W1.heap.size W1 (W1.alloc (.cells #[.pointer (some ⟨db, 0, none⟩), .pointer (some ⟨mb, 0, none⟩), .pointer (some ⟨rb, 0, none⟩), .pointer (some ⟨rmb, 0, none⟩)] 28)) := (Below.refl _ W1).alloc (Nat.le_refl _) _
  have hB0 : Below w.heap.size w W1 := (HBB.out.trans (hB.mono HBB.out.size))
  have HT := Hid3.mk (hT.below hb)
  have HB := Hid3.mk (hB0.trans (hb.mono hB0.size))
  have HX := Hid3.mk hX
  have HXB2 : Hid3 ((W1.alloc (.cells #[.pointer (some ⟨db, 0, none⟩), .pointer (some ⟨mb, 0, none⟩), .pointer (some ⟨rb, 0, none⟩), .pointer (some ⟨rmb, 0, none⟩)] 28)).heap[w.heap.size]? = some (.cells #[.int .u32 r0, .bool r1, .int .i64 r2, .int .i64 r3, .int .u8 r4] 45)) := ⟨(hb.block _ (by have := hB.size; omega)).trans ((hB.block _ (by omega)).trans HXB.out)⟩
  have hn0 : w.heap.size < W1.heap.size := by have := hB.size; omega
  have c2 := dlive_any (W1.alloc (.cells #[.pointer (some ⟨db, 0, none⟩), .pointer (some ⟨mb, 0, none⟩), .pointer (some ⟨rb, 0, none⟩), .pointer (some ⟨rmb, 0, none⟩)] 28))
  have hs1 : W1.heap.size < (W1.alloc (.cells #[.pointer (some ⟨db, 0, none⟩), .pointer (some ⟨mb, 0, none⟩), .pointer (some ⟨rb, 0, none⟩), .pointer (some ⟨rmb, 0, none⟩)] 28)).heap.size := by simp
  have hWs : w.heap.size ≤ W1.heap.size := hB0.size
  have hBs : (w.alloc (.cells #[.int .u32 r0, .bool r1, .int .i64 r2, .int .i64 r3, .int .u8 r4] 45)).heap.size ≤ W1.heap.size := hB.size
  clear hT hB hB0 hb hX
  go_wp2_with fail
  refine c2.mono ?_
  rintro e W2 ⟨rfl, hB2⟩
  clear c2
  have hX2 := (hB2.block _ hs1).trans HX.out
  have HX2 := Hid3.mk hX2
  have HB2 := Hid3.mk (HB.out.trans (hB2.mono HB.out.size))
  have HT2 := Hid3.mk (HT.out.below hB2)
  have HXB3 := Hid3.mk ((hB2.block _ (by simp; omega)).trans HXB2.out)
  have hs2 : W1.heap.size < W2.heap.size := Nat.lt_of_lt_of_le hs1 hB2.size
  clear hB2 hs1 HT HX HB hX2
  generalize W1.heap.size = b0 at *
  have HP2 := Hid3.mk HT2.out.p
  have HW := Hid3.mk HT2.out.q
  have hlast : (plS z0 (l.take 30)).last < 1000000 := by
    have := plS_last (l.take 30) z0
    rw [List.length_take] at this
    have h0 : z0.last = 0 := rfl
    omega
  generalize plS z0 (l.take 30) = z at *
  obtain ⟨x0, x1, x2, x3⟩ := b4c HX2.out
  generalize hB1n : (w.alloc (.cells #[.int .u32 r0, .bool r1, .int .i64 r2, .int .i64 r3, .int .u8 r4] 45)).heap.size = B1 at *
  have c3 := waiting_any B1 db sb 5 z.S v1 z.last z.Q W2 HP2.out.d
  have hBW : w.heap.size ≤ W2.heap.size := HB2.out.size
  clear HT2
  go_wp2_with fail
  refine c3.mono ?_
  rintro e W3 ⟨⟨u3, rfl, hu3⟩, hB3⟩
  clear c3
  have hR3 := RqS.of_own hu3 (fun _ => False) (fun _ _ _ e => e)
  obtain ⟨a3, k3, rfl⟩ := form5 hu3
  have hs3 := hB3.size
  have HR3 := Hid3.mk hR3
  have HP3 := Hid3.mk (HP2.out.below hB3)
  have HB3 := Hid3.mk (HB2.out.trans (hB3.mono hBW))
  have HX3 := Hid3.mk ((hB3.block b0 hs2).trans HX2.out)
  have HXB4 := Hid3.mk ((hB3.block w.heap.size (by omega)).trans HXB3.out)
  have hB1s : B1 ≤ W3.heap.size := by omega
  have c4 := askp_any B1 db sb 5 mb 4 v1 z r0 r1 r2 r3 r4 W3 HP3.out hlast hB1s
  obtain ⟨y0, y1, y2, y3⟩ := b4c HX3.out
  obtain ⟨q0, q1, q2, q3, q4⟩ := b5m HXB4.out
  clear hu3 hB3 hR3 x0 x1 x2 x3 hlast
  go_wp2_with fail
  go_loopw [8, 9] (fun s8 s9 wr => ∃ j : Nat, j ≤ z.Q.length ∧ s9 = .int .i64 j ∧ s8 = .int .u32 (lastN z.Q j) ∧ wr = W3) (fun _ s9 _ => z.Q.length - (intOf s9).toNat)
  case atStart => exact ⟨0, Nat.zero_le _, rfl, rfl, rfl⟩
  case round =>
    obtain ⟨j, hj, rfl, rfl, rfl⟩ := hrel
    by_cases hlt : j < z.Q.length
    · have hltz : (j : Int) < (z.Q.length : Int) := by omega
      have hj0 : (0 : Int) ≤ (j : Int) := by omega
      have hj8 : (j : Int) ≤ 8 := by have := HP2.out.d.few; omega
      have hm : z.Q[j]? = some z.Q[j] := List.getElem?_eq_getElem hlt
      obtain ⟨g, rfl, _, d0, d1, d2, d3, d4⟩ := HR3.out.at j _ hm
      have hgt := lastN_lt HW.out j hlt
      have hnx : Hid3 (lastN z.Q (j + 1) = z.Q[j].1) := ⟨by unfold lastN; rw [if_neg (by omega), Nat.add_sub_cancel, hm]; rfl⟩
      clear hm d1 d2 d3 d4
      generalize lastN z.Q j = L0 at *
      generalize z.Q[j].1 = id1 at *
      have hle : ¬ id1 ≤ L0 := by omega
      clear c4
      go_wp2
      go_roundw
      case rel => exact ⟨j + 1, by omega, by go_num, by rw [hnx.out], (by first | rfl | trivial)⟩
      case measure => simp [intOf]; omega
    · have hltz : ¬ (j : Int) < (z.Q.length : Int) := by omega
      have hj2 : j = z.Q.length := by omega
      have hL := lastN_le HW.out HP2.out.d.la.1 j (by omega)
      generalize lastN z.Q j = L0 at *
      have hfew := HP2.out.d.few
      obtain ⟨n3, hn3⟩ : ∃ n3, z.Q.length = n3 := ⟨_, rfl⟩
      by_cases hc : 0 ≤ r2 ∧ r2 < ((5 : Nat) : Int) ∧ 0 ≤ r3 ∧ r3 < 64
      · by_cases hq : z.Q.length < 8
        · have eE : askE 5 z.Q.length r2 r3 = 0 := by unfold askE; rw [if_pos hc, if_pos hq]
          have eN : askN 5 z r2 r3 = z.last + 1 := by unfold askN; rw [if_pos eE]
          have eS : askS 5 z (r1, r2, r3, r4) = { z with last := z.last + 1, Q := z.Q ++ [(z.last + 1, r1, r2, r3, r4)] } := by unfold askS; simp only; rw [if_pos eE]
          rw [eE, eN, eS] at c4
          have hgt : L0 < z.last + 1 := by omega
          have hq8 : (n3 : Int) < 8 := by omega
          have hw : IntKind.i64.wrap ((n3 : Int) + 1) = (n3 : Int) + 1 := by rw [IntKind.wrap_i64]; omega
          clear eE eN eS hc hltz hj2 hL
          go_wp2_with fail
          refine c4.mono ?_
          rintro e W4 ⟨rfl, v4, hp4, ha4, ho4⟩
          clear c4
          have HB4 := Hid3.mk (HB3.out.trans ((PStp.bel HP3.out ⟨v4, hp4, ha4, ho4⟩ hB1s).mono (by omega)))
          obtain ⟨y0', y1', y2', y3'⟩ := b4c ((ha4.block b0 (by omega) (HP3.out.not_both HX3.out)).trans HX3.out)
          have c5 := waiting_any B1 db sb 5 z.S v4 (z.last + 1) (z.Q ++ [(z.last + 1, r1, r2, r3, r4)]) W4 hp4.d
          rw [show (z.Q ++ [((z.last + 1, r1, r2, r3, r4) : Rq)]).length = n3 + 1 by rw [List.length_append, List.length_singleton, hn3]] at c5
          rw [hn3] at *
          generalize rqsCs (z.Q ++ [((z.last + 1, r1, r2, r3, r4) : Rq)]) = cs5 at *
          clear hp4 ha4 ho4 y0 y1 y2 y3 q0 q1 q2 q3 q4
          go_wp2_with fail
          refine c5.mono ?_
          rintro e W5 ⟨⟨u5, rfl, hu5⟩, hB5⟩
          clear c5
          obtain ⟨a5, k5, rfl⟩ := form5 hu5
          have HB5 := Hid3.mk (HB4.out.trans (hB5.mono HB4.out.size))
          clear hu5 hB5
          go_wp2
          go_ret
          exact ⟨rfl, HB5.out⟩
        · have eE : askE 5 z.Q.length r2 r3 = 4 := by unfold askE; rw [if_pos hc, if_neg hq]
          have eN : askN 5 z r2 r3 = 0 := by unfold askN; rw [if_neg (by rw [eE]; decide)]
          have eS : askS 5 z (r1, r2, r3, r4) = z := by unfold askS; simp only; rw [if_neg (by rw [eE]; decide)]
          have hn8 : n3 = 8 := by omega
          rw [eE, eN, eS] at c4
          clear eE eN eS hc hltz hj2 hL
          go_wp2_with fail
          refine c4.mono ?_
          rintro e W4 ⟨rfl, v4, hp4, ha4, ho4⟩
          clear c4
          have HB4 := Hid3.mk (HB3.out.trans ((PStp.bel HP3.out ⟨v4, hp4, ha4, ho4⟩ hB1s).mono (by omega)))
          obtain ⟨y0', y1', y2', y3'⟩ := b4c ((ha4.block b0 (by omega) (HP3.out.not_both HX3.out)).trans HX3.out)
          have c5 := waiting_any B1 db sb 5 z.S v4 z.last z.Q W4 hp4.d
          rw [hn3] at *
          generalize rqsCs z.Q = cs5 at *
          clear hp4 ha4 ho4 y0 y1 y2 y3 q0 q1 q2 q3 q4
          go_wp2_with fail
          refine c5.mono ?_
          rintro e W5 ⟨⟨u5, rfl, hu5⟩, hB5⟩
          clear c5
          obtain ⟨a5, k5, rfl⟩ := form5 hu5
          have HB5 := Hid3.mk (HB4.out.trans (hB5.mono HB4.out.size))
          clear hu5 hB5
          have h88 : ((n3 : Int) == 8) = true := by rw [hn8]; rfl
          clear hn8
          go_wp2
          go_ret
          exact ⟨rfl, HB5.out⟩
      · have eE : askE 5 z.Q.length r2 r3 = 2 := by unfold askE; rw [if_neg hc]
        have eN : askN 5 z r2 r3 = 0 := by unfold askN; rw [if_neg (by rw [eE]; decide)]
        have eS : askS 5 z (r1, r2, r3, r4) = z := by unfold askS; simp only; rw [if_neg (by rw [eE]; decide)]
        rw [eE, eN, eS] at c4
        clear eE eN eS hc hltz hj2 hL
        go_wp2_with fail
        refine c4.mono ?_
        rintro e W4 ⟨rfl, v4, hp4, ha4, ho4⟩
        clear c4
        have HB4 := Hid3.mk (HB3.out.trans ((PStp.bel HP3.out ⟨v4, hp4, ha4, ho4⟩ hB1s).mono (by omega)))
        obtain ⟨y0', y1', y2', y3'⟩ := b4c ((ha4.block b0 (by omega) (HP3.out.not_both HX3.out)).trans HX3.out)
        have c5 := waiting_any B1 db sb 5 z.S v4 z.last z.Q W4 hp4.d
        rw [hn3] at *
        generalize rqsCs z.Q = cs5 at *
        clear hp4 ha4 ho4 y0 y1 y2 y3 q0 q1 q2 q3 q4
        go_wp2_with fail
        refine c5.mono ?_
        rintro e W5 ⟨⟨u5, rfl, hu5⟩, hB5⟩
        clear c5
        obtain ⟨a5, k5, rfl⟩ := form5 hu5
        have HB5 := Hid3.mk (HB4.out.trans (hB5.mono HB4.out.size))
        clear hu5 hB5
        go_wp2
        go_ret
        exact ⟨rfl, HB5.out⟩
end Go.Proofs.Ytlnjpgcaciemnaa
