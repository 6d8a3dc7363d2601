/- A deed on both vms. -/
import Derived.Test.YtfmcoibpbcheiaaVrS
namespace Go.Proofs.Ytfmcoibpbcheiaa
open Go.RowKit Go.Maps
set_option linter.unusedVariables false
set_option maxRecDepth 100000
theorem cell_stay {w1 w2 : World} {b j : Nat} {v : Value} {X : Nat → Prop} (h : w1.cell? ⟨b, j, none⟩ = some v) (ap : Apart X w1 w2) (hx : ¬ X b) : w2.cell? ⟨b, j, none⟩ = some v :=
  (World.cell?_of_block (w := w1) (ap.block b (World.block_lt_of_cell? w1 _ h) hx)).trans h
theorem box_cell (w : World) (cs : List Value) (t : TypeId) (j : Nat) (v : Value) (h : cs[j]? = some v) : (w.alloc (.cells cs.toArray t)).cell? ⟨w.heap.size, j, none⟩ = some v := by
  rw [Lib.cell_of_heap (heap_alloc_new w _)]
  simpa using h
def DoR (B : Nat) (w : World) (vb rb N c : Nat) (S : Nat → Prop) (r : Ending) (w' : World) : Prop := r = .returned (.bool true) ∧ Mv B w w' vb rb N c S
set_option maxHeartbeats 1000000 in
theorem few_any (x : Option Addr) (n cap : Nat) (hc : n ≤ cap) (hx : x = none → n = 0) (w : World) : Calls Try.prog 13 #[.slice x n cap] w fun r w' => r = .returned (.slice x (min n 120) cap) ∧ w' = w := by
  by_cases h : (120 : Int) < (n : Int)
  · have e : min n 120 = 120 := by omega
    rw [e]
    have h2 : (120 : Int) ≤ (cap : Int) := by omega
    have h3 : 120 ≤ cap := by omega
    cases x with
    | none =>
      have := hx rfl
      omega
    | some a =>
      go_enter Try.func13, Try.ntmps13
      go_wp2
      go_ret
      exact ⟨rfl, rfl⟩
  · have e : min n 120 = n := by omega
    rw [e]
    go_enter Try.func13, Try.ntmps13
    go_wp2
    go_ret
    exact ⟨rfl, rfl⟩
set_option maxHeartbeats 2000000 in
theorem do_0 (B vb rb N cc : Nat) (S : Nat → Prop) (p q n c : Int) (v : Value) (w : World) (h : Bo B w vb rb N cc S) (hB : B ≤ w.heap.size) (hcc : cc ≤ 80000) : Calls Try.prog 18 #[.pointer (some ⟨vb, 0, none⟩), .pointer (some ⟨rb, 0, none⟩), .agg #[.int .i64 0, .int .i64 p, .int .i64 q, .int .i64 n, .int .u8 c, v]] w (DoR B w vb rb N cc S) := by
  have hX : Below w.heap.size w (w.alloc (.cells #[.int .i64 0, .int .i64 p, .int .i64 q, .int .i64 n, .int .u8 c, v] 36)).drew := (below_new w _).drew
  have x1 : (w.alloc (.cells #[.int .i64 0, .int .i64 p, .int .i64 q, .int .i64 n, .int .u8 c, v] 36)).drew.cell? ⟨w.heap.size, 1, none⟩ = some (.int .i64 p) := box_cell w [.int .i64 0, .int .i64 p, .int .i64 q, .int .i64 n, .int .u8 c, v] 36 1 _ rfl
  have h0 := h.below hX
  have hB0 : B ≤ (w.alloc (.cells #[.int .i64 0, .int .i64 p, .int .i64 q, .int .i64 n, .int .u8 c, v] 36)).drew.heap.size := Nat.le_trans hB hX.size
  obtain ⟨l, s, V, o, L, h1, rfl, h3, h4, h5, h6, h7, h8⟩ := h0.ex
  obtain ⟨e, K, V', bb⟩ := begin_both h1.i p
  have cT := bb.p B _ vb l cc h1 hB0 hcc trivial
  have HcR := Hid3.mk (fun W hR => bb.r B W o L hR h4 h5 (by have := h1.cp; omega) trivial)
  have HX := Hid3.mk hX
  have HG := Hid3.mk h0.g
  have HB0 := Hid3.mk hB0
  have HM0 := Hid3.mk (fun w1 s' V' (vt : Vt B _ w1 vb N l s s' V' (cc + 16)) => Mid.mk' h3 h6 h7 h8 vt)
  have HNV : Hid3 (¬ XV l s w.heap.size) := ⟨fun e => by have := (h.g _ (h6 _ e)).2; omega⟩
  have HNR : Hid3 (¬ XR o w.heap.size) := ⟨fun e => by have := (h.g _ (h7 _ e)).2; omega⟩
  have hl1 := h1.v.c.lt
  have hl2 := h3.lts (.inl rfl : XR o o.b)
  have hvb := h1.e
  have hl0 : vb < (w.alloc (.cells #[.int .i64 0, .int .i64 p, .int .i64 q, .int .i64 n, .int .u8 c, v] 36)).drew.heap.size := by rw [← hvb]; exact hl1
  have hSa : Hid3 ((w.alloc (.cells #[.int .i64 0, .int .i64 p, .int .i64 q, .int .i64 n, .int .u8 c, v] 36)).drew.cell? ⟨w.heap.size, 1, none⟩ = some (.int .i64 p)) := ⟨x1⟩
  have hee : (e == e) = true := by simp
  clear h h0 hX hB hB0 bb h1 h3 h4 h5 h6 h7 h8 hl1 hvb hcc x1
  go_enter Try.func18, Try.ntmps18
  go_wp2_with fail
  go_region_held3 (fun w' => w'.cell? ⟨w.heap.size, 1, none⟩ = some (.int .i64 p)) (with_reducible (first | exact hSa.out | exact hSb.out | exact hSc.out)) ((first
    | (go_at_call 21; refine cT.mono ?_; rintro r W1 ⟨rfl, s1, hK, hvt⟩; have hSb : Hid3 (W1.cell? ⟨w.heap.size, 1, none⟩ = some (.int .i64 p)) := ⟨cell_stay hSa.out hvt.ap HNV.out⟩; have HK := Hid3.mk hK; have HM := Hid3.mk (HM0.out _ _ _ hvt); clear hvt hK HM0)
    | (go_at_call 46; refine (HcR.out _ HM.out.r).mono ?_; rintro r W2 ⟨rfl, hap, hk⟩; have hSc : Hid3 (W2.cell? ⟨w.heap.size, 1, none⟩ = some (.int .i64 p)) := ⟨cell_stay hSb.out hap HNR.out⟩; have HMv : Hid3 (Mv B w W2 vb o.b N cc S) := ⟨(HM.out.mv HG.out HB0.out hap (hk _ HK.out)).pre HX.out⟩; clear hk hap)))
  all_goals (
    go_wp2
    go_ret
    exact ⟨rfl, HMv.out⟩)
set_option maxHeartbeats 2000000 in
theorem do_1 (B vb rb N cc : Nat) (S : Nat → Prop) (p q n c : Int) (v : Value) (w : World) (h : Bo B w vb rb N cc S) (hB : B ≤ w.heap.size) (hcc : cc ≤ 80000) : Calls Try.prog 18 #[.pointer (some ⟨vb, 0, none⟩), .pointer (some ⟨rb, 0, none⟩), .agg #[.int .i64 1, .int .i64 p, .int .i64 q, .int .i64 n, .int .u8 c, v]] w (DoR B w vb rb N cc S) := by
  have hX : Below w.heap.size w (w.alloc (.cells #[.int .i64 1, .int .i64 p, .int .i64 q, .int .i64 n, .int .u8 c, v] 36)).drew := (below_new w _).drew
  have x1 : (w.alloc (.cells #[.int .i64 1, .int .i64 p, .int .i64 q, .int .i64 n, .int .u8 c, v] 36)).drew.cell? ⟨w.heap.size, 1, none⟩ = some (.int .i64 p) := box_cell w [.int .i64 1, .int .i64 p, .int .i64 q, .int .i64 n, .int .u8 c, v] 36 1 _ rfl
  have h0 := h.below hX
  have hB0 : B ≤ (w.alloc (.cells #[.int .i64 1, .int .i64 p, .int .i64 q, .int .i64 n, .int .u8 c, v] 36)).drew.heap.size := Nat.le_trans hB hX.size
  obtain ⟨l, s, V, o, L, h1, rfl, h3, h4, h5, h6, h7, h8⟩ := h0.ex
  obtain ⟨e, K, V', bb⟩ := end_both h1.i p
  have cT := bb.p B _ vb l cc h1 hB0 hcc trivial
  have HcR := Hid3.mk (fun W hR => bb.r B W o L hR h4 h5 (by have := h1.cp; omega) trivial)
  have HX := Hid3.mk hX
  have HG := Hid3.mk h0.g
  have HB0 := Hid3.mk hB0
  have HM0 := Hid3.mk (fun w1 s' V' (vt : Vt B _ w1 vb N l s s' V' (cc + 16)) => Mid.mk' h3 h6 h7 h8 vt)
  have HNV : Hid3 (¬ XV l s w.heap.size) := ⟨fun e => by have := (h.g _ (h6 _ e)).2; omega⟩
  have HNR : Hid3 (¬ XR o w.heap.size) := ⟨fun e => by have := (h.g _ (h7 _ e)).2; omega⟩
  have hl1 := h1.v.c.lt
  have hl2 := h3.lts (.inl rfl : XR o o.b)
  have hvb := h1.e
  have hl0 : vb < (w.alloc (.cells #[.int .i64 1, .int .i64 p, .int .i64 q, .int .i64 n, .int .u8 c, v] 36)).drew.heap.size := by rw [← hvb]; exact hl1
  have hSa : Hid3 ((w.alloc (.cells #[.int .i64 1, .int .i64 p, .int .i64 q, .int .i64 n, .int .u8 c, v] 36)).drew.cell? ⟨w.heap.size, 1, none⟩ = some (.int .i64 p)) := ⟨x1⟩
  have hee : (e == e) = true := by simp
  clear h h0 hX hB hB0 bb h1 h3 h4 h5 h6 h7 h8 hl1 hvb hcc x1
  go_enter Try.func18, Try.ntmps18
  go_wp2_with fail
  go_region_held3 (fun w' => w'.cell? ⟨w.heap.size, 1, none⟩ = some (.int .i64 p)) (with_reducible (first | exact hSa.out | exact hSb.out | exact hSc.out)) ((first
    | (go_at_call 11; refine cT.mono ?_; rintro r W1 ⟨rfl, s1, hK, hvt⟩; have hSb : Hid3 (W1.cell? ⟨w.heap.size, 1, none⟩ = some (.int .i64 p)) := ⟨cell_stay hSa.out hvt.ap HNV.out⟩; have HK := Hid3.mk hK; have HM := Hid3.mk (HM0.out _ _ _ hvt); clear hvt hK HM0)
    | (go_at_call 47; refine (HcR.out _ HM.out.r).mono ?_; rintro r W2 ⟨rfl, hap, hk⟩; have hSc : Hid3 (W2.cell? ⟨w.heap.size, 1, none⟩ = some (.int .i64 p)) := ⟨cell_stay hSb.out hap HNR.out⟩; have HMv : Hid3 (Mv B w W2 vb o.b N cc S) := ⟨(HM.out.mv HG.out HB0.out hap (hk _ HK.out)).pre HX.out⟩; clear hk hap)))
  all_goals (
    go_wp2
    go_ret
    exact ⟨rfl, HMv.out⟩)
set_option maxHeartbeats 2000000 in
theorem do_2 (B vb rb N cc : Nat) (S : Nat → Prop) (p q n c : Int) (v : Value) (w : World) (h : Bo B w vb rb N cc S) (hB : B ≤ w.heap.size) (hcc : cc ≤ 80000) : Calls Try.prog 18 #[.pointer (some ⟨vb, 0, none⟩), .pointer (some ⟨rb, 0, none⟩), .agg #[.int .i64 2, .int .i64 p, .int .i64 q, .int .i64 n, .int .u8 c, v]] w (DoR B w vb rb N cc S) := by
  have hX : Below w.heap.size w (w.alloc (.cells #[.int .i64 2, .int .i64 p, .int .i64 q, .int .i64 n, .int .u8 c, v] 36)).drew := (below_new w _).drew
  have x1 : (w.alloc (.cells #[.int .i64 2, .int .i64 p, .int .i64 q, .int .i64 n, .int .u8 c, v] 36)).drew.cell? ⟨w.heap.size, 1, none⟩ = some (.int .i64 p) := box_cell w [.int .i64 2, .int .i64 p, .int .i64 q, .int .i64 n, .int .u8 c, v] 36 1 _ rfl
  have x2 : (w.alloc (.cells #[.int .i64 2, .int .i64 p, .int .i64 q, .int .i64 n, .int .u8 c, v] 36)).drew.cell? ⟨w.heap.size, 2, none⟩ = some (.int .i64 q) := box_cell w [.int .i64 2, .int .i64 p, .int .i64 q, .int .i64 n, .int .u8 c, v] 36 2 _ rfl
  have h0 := h.below hX
  have hB0 : B ≤ (w.alloc (.cells #[.int .i64 2, .int .i64 p, .int .i64 q, .int .i64 n, .int .u8 c, v] 36)).drew.heap.size := Nat.le_trans hB hX.size
  obtain ⟨l, s, V, o, L, h1, rfl, h3, h4, h5, h6, h7, h8⟩ := h0.ex
  obtain ⟨e, K, V', bb⟩ := fork_both h1.i p q
  have cT := bb.p B _ vb l cc h1 hB0 hcc trivial
  have HcR := Hid3.mk (fun W hR => bb.r B W o L hR h4 h5 (by have := h1.cp; omega) trivial)
  have HX := Hid3.mk hX
  have HG := Hid3.mk h0.g
  have HB0 := Hid3.mk hB0
  have HM0 := Hid3.mk (fun w1 s' V' (vt : Vt B _ w1 vb N l s s' V' (cc + 16)) => Mid.mk' h3 h6 h7 h8 vt)
  have HNV : Hid3 (¬ XV l s w.heap.size) := ⟨fun e => by have := (h.g _ (h6 _ e)).2; omega⟩
  have HNR : Hid3 (¬ XR o w.heap.size) := ⟨fun e => by have := (h.g _ (h7 _ e)).2; omega⟩
  have hl1 := h1.v.c.lt
  have hl2 := h3.lts (.inl rfl : XR o o.b)
  have hvb := h1.e
  have hl0 : vb < (w.alloc (.cells #[.int .i64 2, .int .i64 p, .int .i64 q, .int .i64 n, .int .u8 c, v] 36)).drew.heap.size := by rw [← hvb]; exact hl1
  have hSa : Hid3 ((w.alloc (.cells #[.int .i64 2, .int .i64 p, .int .i64 q, .int .i64 n, .int .u8 c, v] 36)).drew.cell? ⟨w.heap.size, 1, none⟩ = some (.int .i64 p) ∧ (w.alloc (.cells #[.int .i64 2, .int .i64 p, .int .i64 q, .int .i64 n, .int .u8 c, v] 36)).drew.cell? ⟨w.heap.size, 2, none⟩ = some (.int .i64 q)) := ⟨⟨x1, x2⟩⟩
  have hee : (e == e) = true := by simp
  clear h h0 hX hB hB0 bb h1 h3 h4 h5 h6 h7 h8 hl1 hvb hcc x1 x2
  go_enter Try.func18, Try.ntmps18
  go_wp2_with fail
  go_region_held3 (fun w' => w'.cell? ⟨w.heap.size, 1, none⟩ = some (.int .i64 p) ∧ w'.cell? ⟨w.heap.size, 2, none⟩ = some (.int .i64 q)) (with_reducible (first | exact hSa.out | exact hSb.out | exact hSc.out)) ((first
    | (go_at_call 24; refine cT.mono ?_; rintro r W1 ⟨rfl, s1, hK, hvt⟩; have hSb : Hid3 (W1.cell? ⟨w.heap.size, 1, none⟩ = some (.int .i64 p) ∧ W1.cell? ⟨w.heap.size, 2, none⟩ = some (.int .i64 q)) := ⟨⟨cell_stay hSa.out.1 hvt.ap HNV.out, cell_stay hSa.out.2 hvt.ap HNV.out⟩⟩; have HK := Hid3.mk hK; have HM := Hid3.mk (HM0.out _ _ _ hvt); clear hvt hK HM0)
    | (go_at_call 48; refine (HcR.out _ HM.out.r).mono ?_; rintro r W2 ⟨rfl, hap, hk⟩; have hSc : Hid3 (W2.cell? ⟨w.heap.size, 1, none⟩ = some (.int .i64 p) ∧ W2.cell? ⟨w.heap.size, 2, none⟩ = some (.int .i64 q)) := ⟨⟨cell_stay hSb.out.1 hap HNR.out, cell_stay hSb.out.2 hap HNR.out⟩⟩; have HMv : Hid3 (Mv B w W2 vb o.b N cc S) := ⟨(HM.out.mv HG.out HB0.out hap (hk _ HK.out)).pre HX.out⟩; clear hk hap)))
  all_goals (
    go_wp2
    go_ret
    exact ⟨rfl, HMv.out⟩)
set_option maxHeartbeats 2000000 in
theorem do_3 (B vb rb N cc : Nat) (S : Nat → Prop) (p q n c : Int) (v : Value) (w : World) (h : Bo B w vb rb N cc S) (hB : B ≤ w.heap.size) (hcc : cc ≤ 80000) : Calls Try.prog 18 #[.pointer (some ⟨vb, 0, none⟩), .pointer (some ⟨rb, 0, none⟩), .agg #[.int .i64 3, .int .i64 p, .int .i64 q, .int .i64 n, .int .u8 c, v]] w (DoR B w vb rb N cc S) := by
  have hX : Below w.heap.size w (w.alloc (.cells #[.int .i64 3, .int .i64 p, .int .i64 q, .int .i64 n, .int .u8 c, v] 36)).drew := (below_new w _).drew
  have x1 : (w.alloc (.cells #[.int .i64 3, .int .i64 p, .int .i64 q, .int .i64 n, .int .u8 c, v] 36)).drew.cell? ⟨w.heap.size, 1, none⟩ = some (.int .i64 p) := box_cell w [.int .i64 3, .int .i64 p, .int .i64 q, .int .i64 n, .int .u8 c, v] 36 1 _ rfl
  have x3 : (w.alloc (.cells #[.int .i64 3, .int .i64 p, .int .i64 q, .int .i64 n, .int .u8 c, v] 36)).drew.cell? ⟨w.heap.size, 3, none⟩ = some (.int .i64 n) := box_cell w [.int .i64 3, .int .i64 p, .int .i64 q, .int .i64 n, .int .u8 c, v] 36 3 _ rfl
  have h0 := h.below hX
  have hB0 : B ≤ (w.alloc (.cells #[.int .i64 3, .int .i64 p, .int .i64 q, .int .i64 n, .int .u8 c, v] 36)).drew.heap.size := Nat.le_trans hB hX.size
  obtain ⟨l, s, V, o, L, h1, rfl, h3, h4, h5, h6, h7, h8⟩ := h0.ex
  obtain ⟨e, K, V', bb⟩ := map_both h1.i p n
  have cT := bb.p B _ vb l cc h1 hB0 hcc trivial
  have HcR := Hid3.mk (fun W hR => bb.r B W o L hR h4 h5 (by have := h1.cp; omega) trivial)
  have HX := Hid3.mk hX
  have HG := Hid3.mk h0.g
  have HB0 := Hid3.mk hB0
  have HM0 := Hid3.mk (fun w1 s' V' (vt : Vt B _ w1 vb N l s s' V' (cc + 16)) => Mid.mk' h3 h6 h7 h8 vt)
  have HNV : Hid3 (¬ XV l s w.heap.size) := ⟨fun e => by have := (h.g _ (h6 _ e)).2; omega⟩
  have HNR : Hid3 (¬ XR o w.heap.size) := ⟨fun e => by have := (h.g _ (h7 _ e)).2; omega⟩
  have hl1 := h1.v.c.lt
  have hl2 := h3.lts (.inl rfl : XR o o.b)
  have hvb := h1.e
  have hl0 : vb < (w.alloc (.cells #[.int .i64 3, .int .i64 p, .int .i64 q, .int .i64 n, .int .u8 c, v] 36)).drew.heap.size := by rw [← hvb]; exact hl1
  have hSa : Hid3 ((w.alloc (.cells #[.int .i64 3, .int .i64 p, .int .i64 q, .int .i64 n, .int .u8 c, v] 36)).drew.cell? ⟨w.heap.size, 1, none⟩ = some (.int .i64 p) ∧ (w.alloc (.cells #[.int .i64 3, .int .i64 p, .int .i64 q, .int .i64 n, .int .u8 c, v] 36)).drew.cell? ⟨w.heap.size, 3, none⟩ = some (.int .i64 n)) := ⟨⟨x1, x3⟩⟩
  have hee : (e == e) = true := by simp
  clear h h0 hX hB hB0 bb h1 h3 h4 h5 h6 h7 h8 hl1 hvb hcc x1 x3
  go_enter Try.func18, Try.ntmps18
  go_wp2_with fail
  go_region_held3 (fun w' => w'.cell? ⟨w.heap.size, 1, none⟩ = some (.int .i64 p) ∧ w'.cell? ⟨w.heap.size, 3, none⟩ = some (.int .i64 n)) (with_reducible (first | exact hSa.out | exact hSb.out | exact hSc.out)) ((first
    | (go_at_call 22; refine cT.mono ?_; rintro r W1 ⟨rfl, s1, hK, hvt⟩; have hSb : Hid3 (W1.cell? ⟨w.heap.size, 1, none⟩ = some (.int .i64 p) ∧ W1.cell? ⟨w.heap.size, 3, none⟩ = some (.int .i64 n)) := ⟨⟨cell_stay hSa.out.1 hvt.ap HNV.out, cell_stay hSa.out.2 hvt.ap HNV.out⟩⟩; have HK := Hid3.mk hK; have HM := Hid3.mk (HM0.out _ _ _ hvt); clear hvt hK HM0)
    | (go_at_call 49; refine (HcR.out _ HM.out.r).mono ?_; rintro r W2 ⟨rfl, hap, hk⟩; have hSc : Hid3 (W2.cell? ⟨w.heap.size, 1, none⟩ = some (.int .i64 p) ∧ W2.cell? ⟨w.heap.size, 3, none⟩ = some (.int .i64 n)) := ⟨⟨cell_stay hSb.out.1 hap HNR.out, cell_stay hSb.out.2 hap HNR.out⟩⟩; have HMv : Hid3 (Mv B w W2 vb o.b N cc S) := ⟨(HM.out.mv HG.out HB0.out hap (hk _ HK.out)).pre HX.out⟩; clear hk hap)))
  all_goals (
    go_wp2
    go_ret
    exact ⟨rfl, HMv.out⟩)
set_option maxHeartbeats 2000000 in
theorem do_4 (B vb rb N cc : Nat) (S : Nat → Prop) (p q n c : Int) (v : Value) (w : World) (h : Bo B w vb rb N cc S) (hB : B ≤ w.heap.size) (hcc : cc ≤ 80000) : Calls Try.prog 18 #[.pointer (some ⟨vb, 0, none⟩), .pointer (some ⟨rb, 0, none⟩), .agg #[.int .i64 4, .int .i64 p, .int .i64 q, .int .i64 n, .int .u8 c, v]] w (DoR B w vb rb N cc S) := by
  have hX : Below w.heap.size w (w.alloc (.cells #[.int .i64 4, .int .i64 p, .int .i64 q, .int .i64 n, .int .u8 c, v] 36)).drew := (below_new w _).drew
  have x1 : (w.alloc (.cells #[.int .i64 4, .int .i64 p, .int .i64 q, .int .i64 n, .int .u8 c, v] 36)).drew.cell? ⟨w.heap.size, 1, none⟩ = some (.int .i64 p) := box_cell w [.int .i64 4, .int .i64 p, .int .i64 q, .int .i64 n, .int .u8 c, v] 36 1 _ rfl
  have x3 : (w.alloc (.cells #[.int .i64 4, .int .i64 p, .int .i64 q, .int .i64 n, .int .u8 c, v] 36)).drew.cell? ⟨w.heap.size, 3, none⟩ = some (.int .i64 n) := box_cell w [.int .i64 4, .int .i64 p, .int .i64 q, .int .i64 n, .int .u8 c, v] 36 3 _ rfl
  have h0 := h.below hX
  have hB0 : B ≤ (w.alloc (.cells #[.int .i64 4, .int .i64 p, .int .i64 q, .int .i64 n, .int .u8 c, v] 36)).drew.heap.size := Nat.le_trans hB hX.size
  obtain ⟨l, s, V, o, L, h1, rfl, h3, h4, h5, h6, h7, h8⟩ := h0.ex
  obtain ⟨e, K, V', bb⟩ := unmap_both h1.i p n
  have cT := bb.p B _ vb l cc h1 hB0 hcc trivial
  have HcR := Hid3.mk (fun W hR => bb.r B W o L hR h4 h5 (by have := h1.cp; omega) trivial)
  have HX := Hid3.mk hX
  have HG := Hid3.mk h0.g
  have HB0 := Hid3.mk hB0
  have HM0 := Hid3.mk (fun w1 s' V' (vt : Vt B _ w1 vb N l s s' V' (cc + 16)) => Mid.mk' h3 h6 h7 h8 vt)
  have HNV : Hid3 (¬ XV l s w.heap.size) := ⟨fun e => by have := (h.g _ (h6 _ e)).2; omega⟩
  have HNR : Hid3 (¬ XR o w.heap.size) := ⟨fun e => by have := (h.g _ (h7 _ e)).2; omega⟩
  have hl1 := h1.v.c.lt
  have hl2 := h3.lts (.inl rfl : XR o o.b)
  have hvb := h1.e
  have hl0 : vb < (w.alloc (.cells #[.int .i64 4, .int .i64 p, .int .i64 q, .int .i64 n, .int .u8 c, v] 36)).drew.heap.size := by rw [← hvb]; exact hl1
  have hSa : Hid3 ((w.alloc (.cells #[.int .i64 4, .int .i64 p, .int .i64 q, .int .i64 n, .int .u8 c, v] 36)).drew.cell? ⟨w.heap.size, 1, none⟩ = some (.int .i64 p) ∧ (w.alloc (.cells #[.int .i64 4, .int .i64 p, .int .i64 q, .int .i64 n, .int .u8 c, v] 36)).drew.cell? ⟨w.heap.size, 3, none⟩ = some (.int .i64 n)) := ⟨⟨x1, x3⟩⟩
  have hee : (e == e) = true := by simp
  clear h h0 hX hB hB0 bb h1 h3 h4 h5 h6 h7 h8 hl1 hvb hcc x1 x3
  go_enter Try.func18, Try.ntmps18
  go_wp2_with fail
  go_region_held3 (fun w' => w'.cell? ⟨w.heap.size, 1, none⟩ = some (.int .i64 p) ∧ w'.cell? ⟨w.heap.size, 3, none⟩ = some (.int .i64 n)) (with_reducible (first | exact hSa.out | exact hSb.out | exact hSc.out)) ((first
    | (go_at_call 50; refine cT.mono ?_; rintro r W1 ⟨rfl, s1, hK, hvt⟩; have hSb : Hid3 (W1.cell? ⟨w.heap.size, 1, none⟩ = some (.int .i64 p) ∧ W1.cell? ⟨w.heap.size, 3, none⟩ = some (.int .i64 n)) := ⟨⟨cell_stay hSa.out.1 hvt.ap HNV.out, cell_stay hSa.out.2 hvt.ap HNV.out⟩⟩; have HK := Hid3.mk hK; have HM := Hid3.mk (HM0.out _ _ _ hvt); clear hvt hK HM0)
    | (go_at_call 51; refine (HcR.out _ HM.out.r).mono ?_; rintro r W2 ⟨rfl, hap, hk⟩; have hSc : Hid3 (W2.cell? ⟨w.heap.size, 1, none⟩ = some (.int .i64 p) ∧ W2.cell? ⟨w.heap.size, 3, none⟩ = some (.int .i64 n)) := ⟨⟨cell_stay hSb.out.1 hap HNR.out, cell_stay hSb.out.2 hap HNR.out⟩⟩; have HMv : Hid3 (Mv B w W2 vb o.b N cc S) := ⟨(HM.out.mv HG.out HB0.out hap (hk _ HK.out)).pre HX.out⟩; clear hk hap)))
  all_goals (
    go_wp2
    go_ret
    exact ⟨rfl, HMv.out⟩)
set_option maxHeartbeats 2000000 in
theorem do_5 (B vb rb N cc : Nat) (S : Nat → Prop) (p q n c : Int) (v : Value) (w : World) (h : Bo B w vb rb N cc S) (hB : B ≤ w.heap.size) (hcc : cc ≤ 80000) : Calls Try.prog 18 #[.pointer (some ⟨vb, 0, none⟩), .pointer (some ⟨rb, 0, none⟩), .agg #[.int .i64 5, .int .i64 p, .int .i64 q, .int .i64 n, .int .u8 c, v]] w (DoR B w vb rb N cc S) := by
  have hX : Below w.heap.size w (w.alloc (.cells #[.int .i64 5, .int .i64 p, .int .i64 q, .int .i64 n, .int .u8 c, v] 36)).drew := (below_new w _).drew
  have x1 : (w.alloc (.cells #[.int .i64 5, .int .i64 p, .int .i64 q, .int .i64 n, .int .u8 c, v] 36)).drew.cell? ⟨w.heap.size, 1, none⟩ = some (.int .i64 p) := box_cell w [.int .i64 5, .int .i64 p, .int .i64 q, .int .i64 n, .int .u8 c, v] 36 1 _ rfl
  have x3 : (w.alloc (.cells #[.int .i64 5, .int .i64 p, .int .i64 q, .int .i64 n, .int .u8 c, v] 36)).drew.cell? ⟨w.heap.size, 3, none⟩ = some (.int .i64 n) := box_cell w [.int .i64 5, .int .i64 p, .int .i64 q, .int .i64 n, .int .u8 c, v] 36 3 _ rfl
  have x4 : (w.alloc (.cells #[.int .i64 5, .int .i64 p, .int .i64 q, .int .i64 n, .int .u8 c, v] 36)).drew.cell? ⟨w.heap.size, 4, none⟩ = some (.int .u8 c) := box_cell w [.int .i64 5, .int .i64 p, .int .i64 q, .int .i64 n, .int .u8 c, v] 36 4 _ rfl
  have h0 := h.below hX
  have hB0 : B ≤ (w.alloc (.cells #[.int .i64 5, .int .i64 p, .int .i64 q, .int .i64 n, .int .u8 c, v] 36)).drew.heap.size := Nat.le_trans hB hX.size
  obtain ⟨l, s, V, o, L, h1, rfl, h3, h4, h5, h6, h7, h8⟩ := h0.ex
  obtain ⟨e, K, V', bb⟩ := poke_both h1.i p n c
  have cT := bb.p B _ vb l cc h1 hB0 hcc trivial
  have HcR := Hid3.mk (fun W hR => bb.r B W o L hR h4 h5 (by have := h1.cp; omega) trivial)
  have HX := Hid3.mk hX
  have HG := Hid3.mk h0.g
  have HB0 := Hid3.mk hB0
  have HM0 := Hid3.mk (fun w1 s' V' (vt : Vt B _ w1 vb N l s s' V' (cc + 16)) => Mid.mk' h3 h6 h7 h8 vt)
  have HNV : Hid3 (¬ XV l s w.heap.size) := ⟨fun e => by have := (h.g _ (h6 _ e)).2; omega⟩
  have HNR : Hid3 (¬ XR o w.heap.size) := ⟨fun e => by have := (h.g _ (h7 _ e)).2; omega⟩
  have hl1 := h1.v.c.lt
  have hl2 := h3.lts (.inl rfl : XR o o.b)
  have hvb := h1.e
  have hl0 : vb < (w.alloc (.cells #[.int .i64 5, .int .i64 p, .int .i64 q, .int .i64 n, .int .u8 c, v] 36)).drew.heap.size := by rw [← hvb]; exact hl1
  have hSa : Hid3 ((w.alloc (.cells #[.int .i64 5, .int .i64 p, .int .i64 q, .int .i64 n, .int .u8 c, v] 36)).drew.cell? ⟨w.heap.size, 1, none⟩ = some (.int .i64 p) ∧ (w.alloc (.cells #[.int .i64 5, .int .i64 p, .int .i64 q, .int .i64 n, .int .u8 c, v] 36)).drew.cell? ⟨w.heap.size, 3, none⟩ = some (.int .i64 n) ∧ (w.alloc (.cells #[.int .i64 5, .int .i64 p, .int .i64 q, .int .i64 n, .int .u8 c, v] 36)).drew.cell? ⟨w.heap.size, 4, none⟩ = some (.int .u8 c)) := ⟨⟨x1, x3, x4⟩⟩
  have hee : (e == e) = true := by simp
  clear h h0 hX hB hB0 bb h1 h3 h4 h5 h6 h7 h8 hl1 hvb hcc x1 x3 x4
  go_enter Try.func18, Try.ntmps18
  go_wp2_with fail
  go_region_held3 (fun w' => w'.cell? ⟨w.heap.size, 1, none⟩ = some (.int .i64 p) ∧ w'.cell? ⟨w.heap.size, 3, none⟩ = some (.int .i64 n) ∧ w'.cell? ⟨w.heap.size, 4, none⟩ = some (.int .u8 c)) (with_reducible (first | exact hSa.out | exact hSb.out | exact hSc.out)) ((first
    | (go_at_call 23; refine cT.mono ?_; rintro r W1 ⟨rfl, s1, hK, hvt⟩; have hSb : Hid3 (W1.cell? ⟨w.heap.size, 1, none⟩ = some (.int .i64 p) ∧ W1.cell? ⟨w.heap.size, 3, none⟩ = some (.int .i64 n) ∧ W1.cell? ⟨w.heap.size, 4, none⟩ = some (.int .u8 c)) := ⟨⟨cell_stay hSa.out.1 hvt.ap HNV.out, cell_stay hSa.out.2.1 hvt.ap HNV.out, cell_stay hSa.out.2.2 hvt.ap HNV.out⟩⟩; have HK := Hid3.mk hK; have HM := Hid3.mk (HM0.out _ _ _ hvt); clear hvt hK HM0)
    | (go_at_call 52; refine (HcR.out _ HM.out.r).mono ?_; rintro r W2 ⟨rfl, hap, hk⟩; have hSc : Hid3 (W2.cell? ⟨w.heap.size, 1, none⟩ = some (.int .i64 p) ∧ W2.cell? ⟨w.heap.size, 3, none⟩ = some (.int .i64 n) ∧ W2.cell? ⟨w.heap.size, 4, none⟩ = some (.int .u8 c)) := ⟨⟨cell_stay hSb.out.1 hap HNR.out, cell_stay hSb.out.2.1 hap HNR.out, cell_stay hSb.out.2.2 hap HNR.out⟩⟩; have HMv : Hid3 (Mv B w W2 vb o.b N cc S) := ⟨(HM.out.mv HG.out HB0.out hap (hk _ HK.out)).pre HX.out⟩; clear hk hap)))
  all_goals (
    go_wp2
    go_ret
    exact ⟨rfl, HMv.out⟩)
set_option maxHeartbeats 2000000 in
theorem do_6 (B vb rb N cc : Nat) (S : Nat → Prop) (p q n c : Int) (a : Option Addr) (cap : Nat) (bs : List Int) (w : World) (h : Bo B w vb rb N cc S) (hB : B ≤ w.heap.size) (hcc : cc ≤ 80000) (hb : Byts B w (.slice a bs.length cap) bs) : Calls Try.prog 18 #[.pointer (some ⟨vb, 0, none⟩), .pointer (some ⟨rb, 0, none⟩), .agg #[.int .i64 6, .int .i64 p, .int .i64 q, .int .i64 n, .int .u8 c, .slice a bs.length cap]] w (DoR B w vb rb N cc S) := by
  have hX : Below w.heap.size w (w.alloc (.cells #[.int .i64 6, .int .i64 p, .int .i64 q, .int .i64 n, .int .u8 c, .slice a bs.length cap] 36)).drew := (below_new w _).drew
  have x1 : (w.alloc (.cells #[.int .i64 6, .int .i64 p, .int .i64 q, .int .i64 n, .int .u8 c, .slice a bs.length cap] 36)).drew.cell? ⟨w.heap.size, 1, none⟩ = some (.int .i64 p) := box_cell w [.int .i64 6, .int .i64 p, .int .i64 q, .int .i64 n, .int .u8 c, .slice a bs.length cap] 36 1 _ rfl
  have x3 : (w.alloc (.cells #[.int .i64 6, .int .i64 p, .int .i64 q, .int .i64 n, .int .u8 c, .slice a bs.length cap] 36)).drew.cell? ⟨w.heap.size, 3, none⟩ = some (.int .i64 n) := box_cell w [.int .i64 6, .int .i64 p, .int .i64 q, .int .i64 n, .int .u8 c, .slice a bs.length cap] 36 3 _ rfl
  have x5 : (w.alloc (.cells #[.int .i64 6, .int .i64 p, .int .i64 q, .int .i64 n, .int .u8 c, .slice a bs.length cap] 36)).drew.cell? ⟨w.heap.size, 5, none⟩ = some (.slice a bs.length cap) := box_cell w [.int .i64 6, .int .i64 p, .int .i64 q, .int .i64 n, .int .u8 c, .slice a bs.length cap] 36 5 _ rfl
  obtain ⟨a', cap', e0, hcap, _, hcell⟩ := hb
  injection e0 with e1 e2 e3
  subst e1
  subst e3
  have hnone : a = none → bs.length = 0 := fun c0 => by
    by_cases c1 : bs.length = 0
    · exact c1
    · obtain ⟨g, off, e, _⟩ := hcell 0 bs[0] (List.getElem?_eq_getElem (by omega))
      rw [c0] at e
      cases e
  have cF := few_any a bs.length cap hcap hnone
  have hBt : ∀ W X, Below B w W → (∀ k, X k → B ≤ k) → Bts W a (min bs.length 120) (fun i => bs.getD i 0) X := fun W X hW hX => by
    by_cases c0 : bs.length = 0
    · exact .inl (by omega)
    · obtain ⟨g, off, e, hg, _⟩ := hcell 0 bs[0] (List.getElem?_eq_getElem (by omega))
      refine .inr ⟨g, off, e, by have := hW.size; omega, fun x => by have := hX _ x; omega, fun i hi => ?_⟩
      have hib : i < bs.length := by omega
      obtain ⟨g', off', e', _, c1⟩ := hcell i bs[i] (List.getElem?_eq_getElem hib)
      rw [e] at e'
      injection e' with e'
      injection e' with e1 e2 _
      subst e1
      subst e2
      rw [World.cell?_of_block (w := w) (hW.block g hg), c1]
      show _ = some (Value.int .u8 (bs.getD i 0))
      rw [List.getD_eq_getElem?_getD, List.getElem?_eq_getElem hib]
      rfl
  have h0 := h.below hX
  have hB0 : B ≤ (w.alloc (.cells #[.int .i64 6, .int .i64 p, .int .i64 q, .int .i64 n, .int .u8 c, .slice a bs.length cap] 36)).drew.heap.size := Nat.le_trans hB hX.size
  obtain ⟨l, s, V, o, L, h1, rfl, h3, h4, h5, h6, h7, h8⟩ := h0.ex
  have hA1 := hBt _ (XV l s) (hX.mono hB) (fun k hk => (h.g k (h6 k hk)).1)
  have hA2 : ∀ W, Apart S (w.alloc (.cells #[.int .i64 6, .int .i64 p, .int .i64 q, .int .i64 n, .int .u8 c, .slice a bs.length cap] 36)).drew W → Bts W a (min bs.length 120) (fun i => bs.getD i 0) (XR o) := fun W ap => hBt W (XR o) ((hX.mono hB).trans (ap.below B (fun k hk => (h.g k hk).1) hB0)) (fun k hk => (h.g k (h7 k hk)).1)
  obtain ⟨e, K, V', bb⟩ := fill_both h1.i p n (min bs.length 120) cap a (fun i => bs.getD i 0) (by omega)
  have cT := bb.p B _ vb l cc h1 hB0 hcc hA1
  have HcR := Hid3.mk (fun W hR hA => bb.r B W o L hR h4 h5 (by have := h1.cp; omega) hA)
  have HX := Hid3.mk hX
  have HG := Hid3.mk h0.g
  have HB0 := Hid3.mk hB0
  have HM0 := Hid3.mk (fun w1 s' V' (vt : Vt B _ w1 vb N l s s' V' (cc + 16)) => Mid.mk' h3 h6 h7 h8 vt)
  have HNV : Hid3 (¬ XV l s w.heap.size) := ⟨fun e => by have := (h.g _ (h6 _ e)).2; omega⟩
  have HNR : Hid3 (¬ XR o w.heap.size) := ⟨fun e => by have := (h.g _ (h7 _ e)).2; omega⟩
  have hl1 := h1.v.c.lt
  have hl2 := h3.lts (.inl rfl : XR o o.b)
  have hvb := h1.e
  have hl0 : vb < (w.alloc (.cells #[.int .i64 6, .int .i64 p, .int .i64 q, .int .i64 n, .int .u8 c, .slice a bs.length cap] 36)).drew.heap.size := by rw [← hvb]; exact hl1
  have hSa : Hid3 ((w.alloc (.cells #[.int .i64 6, .int .i64 p, .int .i64 q, .int .i64 n, .int .u8 c, .slice a bs.length cap] 36)).drew.cell? ⟨w.heap.size, 1, none⟩ = some (.int .i64 p) ∧ (w.alloc (.cells #[.int .i64 6, .int .i64 p, .int .i64 q, .int .i64 n, .int .u8 c, .slice a bs.length cap] 36)).drew.cell? ⟨w.heap.size, 3, none⟩ = some (.int .i64 n) ∧ (w.alloc (.cells #[.int .i64 6, .int .i64 p, .int .i64 q, .int .i64 n, .int .u8 c, .slice a bs.length cap] 36)).drew.cell? ⟨w.heap.size, 5, none⟩ = some (.slice a bs.length cap)) := ⟨⟨x1, x3, x5⟩⟩
  have hee : (e == e) = true := by simp
  have HA2 := Hid3.mk hA2
  clear hA1 hA2 hBt hcell hcap hnone
  clear h h0 hX hB hB0 bb h1 h3 h4 h5 h6 h7 h8 hl1 hvb hcc x1 x3 x5
  go_enter Try.func18, Try.ntmps18
  go_wp2_with fail
  go_region_held3 (fun w' => w'.cell? ⟨w.heap.size, 1, none⟩ = some (.int .i64 p) ∧ w'.cell? ⟨w.heap.size, 3, none⟩ = some (.int .i64 n) ∧ w'.cell? ⟨w.heap.size, 5, none⟩ = some (.slice a bs.length cap)) (with_reducible (first | exact hSa.out | exact hSb.out | exact hSc.out)) ((first
    | (go_at_call 13; refine (cF _).mono ?_; rintro r W9 ⟨rfl, rfl⟩)
    | (go_at_call 15; refine cT.mono ?_; rintro r W1 ⟨rfl, s1, hK, hvt⟩; have hSb : Hid3 (W1.cell? ⟨w.heap.size, 1, none⟩ = some (.int .i64 p) ∧ W1.cell? ⟨w.heap.size, 3, none⟩ = some (.int .i64 n) ∧ W1.cell? ⟨w.heap.size, 5, none⟩ = some (.slice a bs.length cap)) := ⟨⟨cell_stay hSa.out.1 hvt.ap HNV.out, cell_stay hSa.out.2.1 hvt.ap HNV.out, cell_stay hSa.out.2.2 hvt.ap HNV.out⟩⟩; have HK := Hid3.mk hK; have HM := Hid3.mk (HM0.out _ _ _ hvt); clear hvt hK HM0)
    | (go_at_call 53; refine (HcR.out _ HM.out.r (HA2.out _ HM.out.ap)).mono ?_; rintro r W2 ⟨rfl, hap, hk⟩; have hSc : Hid3 (W2.cell? ⟨w.heap.size, 1, none⟩ = some (.int .i64 p) ∧ W2.cell? ⟨w.heap.size, 3, none⟩ = some (.int .i64 n) ∧ W2.cell? ⟨w.heap.size, 5, none⟩ = some (.slice a bs.length cap)) := ⟨⟨cell_stay hSb.out.1 hap HNR.out, cell_stay hSb.out.2.1 hap HNR.out, cell_stay hSb.out.2.2 hap HNR.out⟩⟩; have HMv : Hid3 (Mv B w W2 vb o.b N cc S) := ⟨(HM.out.mv HG.out HB0.out hap (hk _ HK.out)).pre HX.out⟩; clear hk hap)))
  all_goals (
    go_wp2
    go_ret
    exact ⟨rfl, HMv.out⟩)
set_option maxHeartbeats 2000000 in
theorem do_else (B vb rb N cc : Nat) (S : Nat → Prop) (k p q n c : Int) (v : Value) (w : World) (h : Bo B w vb rb N cc S) (h0 : k ≠ 0) (h1 : k ≠ 1) (h2 : k ≠ 2) (h3 : k ≠ 3) (h4 : k ≠ 4) (h5 : k ≠ 5) (h6 : k ≠ 6) : Calls Try.prog 18 #[.pointer (some ⟨vb, 0, none⟩), .pointer (some ⟨rb, 0, none⟩), .agg #[.int .i64 k, .int .i64 p, .int .i64 q, .int .i64 n, .int .u8 c, v]] w (DoR B w vb rb N cc S) := by
  have HM : Hid3 (Mv B w (w.alloc (.cells #[.int .i64 k, .int .i64 p, .int .i64 q, .int .i64 n, .int .u8 c, v] 36)) vb rb N cc S) := ⟨Mv.same h (below_new w _)⟩
  have e0 : (k == 0) = false := by simpa using h0
  have e1 : (k == 1) = false := by simpa using h1
  have e2 : (k == 2) = false := by simpa using h2
  have e3 : (k == 3) = false := by simpa using h3
  have e4 : (k == 4) = false := by simpa using h4
  have e5 : (k == 5) = false := by simpa using h5
  have e6 : (k == 6) = false := by simpa using h6
  clear h h0 h1 h2 h3 h4 h5 h6
  go_enter Try.func18, Try.ntmps18
  go_wp2
  go_ret
  exact ⟨rfl, HM.out⟩
theorem do_any (B vb rb N cc : Nat) (S : Nat → Prop) (k p q n c : Int) (a : Option Addr) (cap : Nat) (bs : List Int) (w : World) (h : Bo B w vb rb N cc S) (hB : B ≤ w.heap.size) (hcc : cc ≤ 80000) (hb : Byts B w (.slice a bs.length cap) bs) : Calls Try.prog 18 #[.pointer (some ⟨vb, 0, none⟩), .pointer (some ⟨rb, 0, none⟩), .agg #[.int .i64 k, .int .i64 p, .int .i64 q, .int .i64 n, .int .u8 c, .slice a bs.length cap]] w (DoR B w vb rb N cc S) := by
  by_cases h0 : k = 0
  · subst h0; exact do_0 B vb rb N cc S p q n c _ w h hB hcc
  by_cases h1 : k = 1
  · subst h1; exact do_1 B vb rb N cc S p q n c _ w h hB hcc
  by_cases h2 : k = 2
  · subst h2; exact do_2 B vb rb N cc S p q n c _ w h hB hcc
  by_cases h3 : k = 3
  · subst h3; exact do_3 B vb rb N cc S p q n c _ w h hB hcc
  by_cases h4 : k = 4
  · subst h4; exact do_4 B vb rb N cc S p q n c _ w h hB hcc
  by_cases h5 : k = 5
  · subst h5; exact do_5 B vb rb N cc S p q n c _ w h hB hcc
  by_cases h6 : k = 6
  · subst h6; exact do_6 B vb rb N cc S p q n c a cap bs w h hB hcc hb
  exact do_else B vb rb N cc S k p q n c _ w h h0 h1 h2 h3 h4 h5 h6
end Go.Proofs.Ytfmcoibpbcheiaa
