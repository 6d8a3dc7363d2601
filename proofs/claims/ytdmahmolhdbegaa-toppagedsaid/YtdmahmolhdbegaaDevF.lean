/- A disk: a request is delivered; live. -/
import Derived.Test.YtdmahmolhdbegaaDevE
namespace Go.Proofs.Ytdmahmolhdbegaa
open Go.RowKit Go.Maps
set_option linter.unusedVariables false
set_option maxRecDepth 100000
theorem Mem.stay {X : Nat → Prop} {w w' : World} {b : Nat} {n : Int} {L : List Int} (h : Mem w b n L) (k : Apart X w w') (hb : ¬ X b) : Mem w' b n L := ⟨(k.block b h.lt hb).trans h.blk, h.len, h.lo, h.hi⟩
theorem Apart.of_only {b : Nat} {w w' : World} (h : Only b w w') : Apart (fun k => k = b) w w' := ⟨h.os, h.tape, h.output, h.size, fun k hk hx => h.block k hk hx⟩
set_option maxHeartbeats 4000000 in
theorem deliver_w (B db sb n mb N i m s f : Nat) (S L : List Int) (v : Value) (last : Int) (Q : List Rq) (r0 r4 : Int) (w : World) (h : Dk B w db sb n S v last Q) (hM : Mem w mb N L) (hi : Q[i]? = some (r0, true, (s : Int), (f : Int), r4)) (hm : Q.length = i + 1 + m) (hf : f < N) (hs : s < n) (hn1 : mb ≠ db) (hn2 : mb ≠ sb) (hn3 : some mb ≠ v.ownBlock) : Calls Try.prog 12 #[.pointer (some ⟨db, 0, none⟩), .int .i64 i, .pointer (some ⟨mb, 0, none⟩)] w fun e w' => e = .returned (.tuple #[.agg #[.int .u32 r0, .bool true, .int .i64 s, .int .i64 f, .int .u8 r4], .int .i64 0]) ∧ ∃ v', Dk B w' db sb n (putL S (s * 32) (frL L f)) v' last (Q.take i ++ Q.drop (i + 1)) ∧ Apart (fun k => k = db ∨ k = sb ∨ some k = v.ownBlock) w w' ∧ v'.ownBlock = v.ownBlock := by
  have hb0 : Below w.heap.size w (w.alloc (.cells #[.int .u32 0, .bool false, .int .i64 0, .int .i64 0, .int .u8 0] 37)) := (Below.refl _ w).alloc (Nat.le_refl _) _
  have c1 := take_ok B db sb n i m S v last Q (r0, true, (s : Int), (f : Int), r4) (w.alloc (.cells #[.int .u32 0, .bool false, .int .i64 0, .int .i64 0, .int .u8 0] 37)) (h.below hb0) (by omega) hi hm
  unfold rqV at c1
  simp only at c1
  have HM0 : Hid3 (Mem (w.alloc (.cells #[.int .u32 0, .bool false, .int .i64 0, .int .i64 0, .int .u8 0] 37)) mb N L) := ⟨hM.below hb0⟩
  have HZ0 : Hid3 ((w.alloc (.cells #[.int .u32 0, .bool false, .int .i64 0, .int .i64 0, .int .u8 0] 37)).heap[w.heap.size]? = some (.cells #[.int .u32 0, .bool false, .int .i64 0, .int .i64 0, .int .u8 0] 37)) := ⟨heap_alloc_last w _⟩
  have HB0 : Hid3 (Below w.heap.size w (w.alloc (.cells #[.int .u32 0, .bool false, .int .i64 0, .int .i64 0, .int .u8 0] 37))) := ⟨hb0⟩
  have hdl := h.lt
  have hsl := h.lts
  have hml := hM.lt
  have hown : Hid3 (∀ g, v.ownBlock = some g → g < w.heap.size) := ⟨fun g hg => (h.own.lt g hg).2⟩
  clear h hM hb0 hi
  go_enter Try.func12, Try.ntmps12
  go_wp2_with fail
  refine c1.mono ?_
  rintro e W1 ⟨rfl, v', hD1, hA1, hV1⟩
  clear c1
  have hz1 := hA1.size
  simp only [World.size_alloc] at hz1
  have hx1 : W1.heap[w.heap.size]? = some (.cells #[.int .u32 0, .bool false, .int .i64 0, .int .i64 0, .int .u8 0] 37) := (hA1.block w.heap.size (by simp) (fun e => by
    rcases e with e | e
    · omega
    · have := hown.out _ e.symm
      omega)).trans HZ0.out
  have hM1 : Mem W1 mb N L := HM0.out.stay hA1 (fun e => by
    rcases e with e | e
    · exact hn1 e
    · exact hn3 e)
  have hb2 : Below W1.heap.size W1 (W1.alloc (.cells #[.int .u32 r0, .bool true, .int .i64 s, .int .i64 f, .int .u8 r4] 37)) := (Below.refl _ W1).alloc (Nat.le_refl _) _
  have c2 := move_w B db sb n mb f s N S L v' last (Q.take i ++ Q.drop (i + 1)) r0 r4 (W1.alloc (.cells #[.int .u32 r0, .bool true, .int .i64 s, .int .i64 f, .int .u8 r4] 37)) (hD1.below hb2) (hM1.below hb2) hf hs hn2
  have HX2 : Hid3 ((W1.alloc (.cells #[.int .u32 r0, .bool true, .int .i64 s, .int .i64 f, .int .u8 r4] 37)).heap[w.heap.size]? = some (.cells #[.int .u32 0, .bool false, .int .i64 0, .int .i64 0, .int .u8 0] 37) ∧ (W1.alloc (.cells #[.int .u32 r0, .bool true, .int .i64 s, .int .i64 f, .int .u8 r4] 37)).heap[W1.heap.size]? = some (.cells #[.int .u32 r0, .bool true, .int .i64 s, .int .i64 f, .int .u8 r4] 37)) := ⟨(hb2.block _ (by omega)).trans hx1, heap_alloc_last W1 _⟩
  have HA1 : Hid3 (Apart (fun k => k = db ∨ k = sb ∨ some k = v.ownBlock) w (W1.alloc (.cells #[.int .u32 r0, .bool true, .int .i64 s, .int .i64 f, .int .u8 r4] 37)) ∧ v'.ownBlock = v.ownBlock) := ⟨((Apart.of_below HB0.out).trans (hA1.wide (fun k _ e => e.imp id .inr))).trans (Apart.of_below hb2), hV1⟩
  have n1 : w.heap.size ≠ W1.heap.size := by omega
  clear hD1 hA1 hV1 hx1 hM1 hb2 HM0 HZ0 HB0
  go_wp2_with fail
  refine c2.mono ?_
  rintro e W2 ⟨rfl, hD2, hO2⟩
  clear c2
  have hz2 : W1.heap.size + 1 ≤ W2.heap.size := by have := hO2.size; simpa using this
  have kz := (hO2.block w.heap.size (by simp; omega) (by omega)).trans HX2.out.1
  have kr := (hO2.block W1.heap.size (by simp) (by omega)).trans HX2.out.2
  have H2 : Hid3 (Dk B W2 db sb n (putL S (s * 32) (frL L f)) v' last (Q.take i ++ Q.drop (i + 1)) ∧ Apart (fun k => k = db ∨ k = sb ∨ some k = v.ownBlock) w W2) := ⟨hD2, HA1.out.1.then (Apart.of_only hO2) (fun k _ e => .inr (.inl e))⟩
  obtain ⟨z0, z1, z2, z3, z4⟩ := b5m kz
  obtain ⟨x0, x1, x2, x3, x4⟩ := b5m kr
  have zf : ∀ j, W2.frozen? ⟨w.heap.size, j, none⟩ = false := fun j => Lib.frozen_of_heap kz j
  clear hD2 hO2 kz kr HX2
  go_wp2
  refine bodyPost_ret (v := .tuple #[.agg #[.int .u32 r0, .bool true, .int .i64 s, .int .i64 f, .int .u8 r4], .int .i64 0]) (by simp [results, Try.results12, go_sem, *]) rfl ⟨rfl, v', ?_⟩
  have a5 := apart_set5 W2 w.heap.size (.int .u32 r0) (.bool true) (.int .i64 s) (.int .i64 f) (.int .u8 r4)
  refine ⟨H2.out.1.stay a5 (by omega) (by omega) (fun k hk e => ?_), H2.out.2.then a5 (fun k hk e => absurd e (by omega)), HA1.out.2⟩
  rw [HA1.out.2] at hk
  have := hown.out k hk
  omega
theorem own_cell {w : World} {B n g cap : Nat} {xs : List Int} (h : w.ownsRow B 5 1 (.slice (some ⟨g, 0, none⟩) n cap) n (xs.map (Value.int .u8))) (j : Nat) (x : Int) (hj : xs[j]? = some x) : w.cell? ⟨g, j, none⟩ = some (.int .u8 x) := by
  rcases h.2 with ⟨h0, _⟩ | ⟨g', cap', cur, e, _, hb, hk, _, _, htk⟩
  · cases h0
  · injection e with e1 e2 e3
    injection e1 with e1
    injection e1 with e1
    subst e1
    have hn : n * 1 = (xs.map (Value.int .u8)).length := h.1.symm
    have h1 : (List.take (n * 1) cur.toList)[j]? = some (.int .u8 x) := by rw [htk, List.getElem?_map, hj]; rfl
    have hj2 : j < n * 1 := by rw [hn, List.length_map]; exact (List.getElem?_eq_some_iff.1 hj).1
    rw [List.getElem?_take, if_pos hj2] at h1
    rw [cell_of_row w g j _ _ _ hb]
    simpa using h1
theorem live_nine : (frL (putL (List.replicate 128 0) (2 * 32) (frL (putL zeroL (1 * 32 + 3) [9]) 1)) 2)[3]? = some 9 := by decide +kernel
set_option maxHeartbeats 4000000 in
theorem dlive_any (w : World) : Calls Try.prog 17 #[] w fun e w' => e = .returned (.bool true) ∧ Below w.heap.size w w' := by
  have c1 := dnew_good 4 w (by decide) (by decide)
  go_enter Try.func17, Try.ntmps17
  go_wp2_with fail
  refine c1.mono ?_
  rintro e W1 ⟨rfl, hD1, hB1⟩
  clear c1
  have hz1 := hD1.lt
  have c2 := new_good 2 W1 (by decide) (by decide)
  go_wp2_with fail
  refine c2.mono ?_
  rintro e W2 ⟨rfl, hM2, hB2⟩
  clear c2
  have hz2 := hM2.lt
  have c3 := setbyte_ok W1.heap.size 1 3 2 9 zeroL W2 hM2 (by decide) (by decide)
  have HD2 : Hid3 (Dk w.heap.size W2 (w.heap.size + 1) w.heap.size 4 (List.replicate (4 * 32) 0) (.slice none 0 0) 0 []) := ⟨hD1.below hB2⟩
  have HB2 : Hid3 (Below w.heap.size w W2) := ⟨hB1.trans (hB2.mono hB1.size)⟩
  clear hD1 hB1 hM2 hB2
  go_wp2_with fail
  refine c3.mono ?_
  rintro e W3 ⟨rfl, hM3, hO3⟩
  clear c3
  have hs3 := hO3.size
  have HD3 : Hid3 (Dk w.heap.size W3 (w.heap.size + 1) w.heap.size 4 (List.replicate (4 * 32) 0) (.slice none 0 0) 0 []) := ⟨HD2.out.stay (Apart.of_only hO3) (by omega) (by omega) (fun g hg => by cases hg)⟩
  have HB3 : Hid3 (Below w.heap.size w W3) := ⟨HB2.out.trans (hO3.below w.heap.size (by omega) HB2.out.size)⟩
  have c4 := ask_ok w.heap.size (w.heap.size + 1) w.heap.size 4 _ _ 0 [] 0 true 2 1 0 W3 HD3.out (by decide) (by decide) HB3.out.size (by decide) (by decide)
  have HM3 : Hid3 (Mem W3 W1.heap.size 2 (putL zeroL (1 * 32 + 3) [9])) := ⟨hM3⟩
  clear hM3 hO3
  go_wp2_with fail
  refine c4.mono ?_
  rintro e W4 ⟨rfl, v4, hD4, hA4, hV4⟩
  clear c4
  have hM4 : Mem W4 W1.heap.size 2 (putL zeroL (1 * 32 + 3) [9]) := HM3.out.stay hA4 (fun e => by
    rcases e with e | e
    · omega
    · cases e)
  have hs4 := hA4.size
  have HB4 : Hid3 (Below w.heap.size w W4) := ⟨HB3.out.trans (hA4.below w.heap.size (fun k e => by
    rcases e with e | e
    · omega
    · cases e) HB3.out.size)⟩
  have hv4 : some W1.heap.size ≠ v4.ownBlock := by
    rcases hV4 with e | ⟨g, hg, e⟩
    · rw [e]
      intro e
      cases e
    · rw [e]
      intro e
      have := Option.some.inj e
      omega
  have c5 := deliver_w w.heap.size (w.heap.size + 1) w.heap.size 4 W1.heap.size 2 0 0 2 1 _ _ v4 _ _ 1 0 W4 hD4 hM4 (by rfl) (by rfl) (by decide) (by decide) (by omega) (by omega) hv4
  have hge : ∀ k, some k = v4.ownBlock → w.heap.size ≤ k := fun k e => (hD4.own.lt k e.symm).1
  clear hD4 hA4 hV4 hM4
  go_wp2_with fail
  refine c5.mono ?_
  rintro e W5 ⟨rfl, v5, hD5, hA5, hV5⟩
  clear c5
  have hs5 := hA5.size
  have HB5 : Hid3 (Below w.heap.size w W5) := ⟨HB4.out.trans (hA5.below w.heap.size (fun k e => by
    rcases e with e | e | e
    · omega
    · omega
    · exact hge k e) HB4.out.size)⟩
  have hb6 : Below W5.heap.size W5 (W5.alloc (.cells #[.int .u32 1, .bool true, .int .i64 2, .int .i64 1, .int .u8 0] 37)) := (Below.refl _ W5).alloc (Nat.le_refl _) _
  have c6 := sector_ok w.heap.size (w.heap.size + 1) w.heap.size 4 2 _ v5 _ _ _ (hD5.below hb6) (by decide)
  have HX6 : Hid3 ((W5.alloc (.cells #[.int .u32 1, .bool true, .int .i64 2, .int .i64 1, .int .u8 0] 37)).heap[W5.heap.size]? = some (.cells #[.int .u32 1, .bool true, .int .i64 2, .int .i64 1, .int .u8 0] 37)) := ⟨heap_alloc_last W5 _⟩
  have HB6 : Hid3 (Below w.heap.size w (W5.alloc (.cells #[.int .u32 1, .bool true, .int .i64 2, .int .i64 1, .int .u8 0] 37))) := ⟨HB5.out.trans (hb6.mono HB5.out.size)⟩
  clear hD5 hA5 hV5 hge hv4
  go_wp2_with fail
  refine c6.mono ?_
  rintro e W7 ⟨⟨u, rfl, hu⟩, hB7⟩
  clear c6
  obtain ⟨gu, cu, rfl⟩ := own_pos hu (by decide)
  have k3 := own_cell hu 3 9 live_nine
  have hx7 := (hB7.block W5.heap.size (by simp)).trans HX6.out
  obtain ⟨x0, x1, x2, x3, x4⟩ := b5m hx7
  have HB7 : Hid3 (Below w.heap.size w W7) := ⟨HB6.out.trans (hB7.mono HB6.out.size)⟩
  clear hu hB7 hx7
  go_wp2
  go_ret
  exact ⟨rfl, HB7.out⟩
end Go.Proofs.Ytdmahmolhdbegaa
