/- A deed on both tables. -/
import Derived.Test.YtbkpkcndmlapfaaFdY
namespace Go.Proofs.Ytbkpkcndmlapfaa
open Go.RowKit Go.Maps
set_option linter.unusedVariables false
set_option maxRecDepth 100000
/-- A deed. -/
structure Dd where
  k : Int
  p : Int
  q : Int
  n : Int
  o : Opn
def ddV (d : Dd) : Value := .agg #[.int .i64 d.k, .int .i64 d.p, .int .i64 d.q, .int .i64 d.n, .int .u8 d.o.k, .int .i64 d.o.r, .int .i64 d.o.p]
/-- What a deed does. -/
def DoR (B : Nat) (w : World) (L : Lo) (b : Nat) (s : Fs) (r : Ending) (w' : World) : Prop := r = .returned (.bool true) ∧ ∃ s', Mv B w w' L b s s' ∧ s'.all.length ≤ s.all.length + 1
theorem box_cell (w : World) (cs : List Value) (t : TypeId) (j : Nat) (v : Value) (h : cs[j]? = some v) : (w.alloc (.cells cs.toArray t)).cell? ⟨w.heap.size, j, none⟩ = some v := by
  rw [Lib.cell_of_heap (heap_alloc_new w _)]
  simpa using h
set_option maxHeartbeats 2000000 in
theorem do_0 (B b : Nat) (L : Lo) (s : Fs) (p q n : Int) (o : Opn) (w : World) (h : Two B w L b s) (hB : B ≤ w.heap.size) (hl : s.all.length ≤ 1000) : Calls Try.prog 26 #[.pointer (some ⟨L.t, 0, none⟩), .pointer (some ⟨b, 0, none⟩), .agg #[.int .i64 0, .int .i64 p, .int .i64 q, .int .i64 n, .int .u8 o.k, .int .i64 o.r, .int .i64 o.p]] w (DoR B w L b s) := by
  have hX : Below w.heap.size w (w.alloc (.cells #[.int .i64 0, .int .i64 p, .int .i64 q, .int .i64 n, .int .u8 o.k, .int .i64 o.r, .int .i64 o.p] 49)).drew := (below_new w _).drew
  have x1 : (w.alloc (.cells #[.int .i64 0, .int .i64 p, .int .i64 q, .int .i64 n, .int .u8 o.k, .int .i64 o.r, .int .i64 o.p] 49)).drew.cell? ⟨w.heap.size, 1, none⟩ = some (.int .i64 p) := box_cell w [.int .i64 0, .int .i64 p, .int .i64 q, .int .i64 n, .int .u8 o.k, .int .i64 o.r, .int .i64 o.p] 49 1 _ rfl
  have HT := Hid3.mk (h.below hX)
  have HX := Hid3.mk hX
  have HT0 := Hid3.mk h.t
  have hBX := Nat.le_trans hB hX.size
  obtain ⟨e, s', bb⟩ := beg_both s p
  have cT := bb.p B _ L HT.out.t hBX
  have cR := bb.r
  have HLe := Hid3.mk bb.le
  have hl1 := h.t.lt
  have hl2 := h.r.lt
  have hSa : Hid3 ((w.alloc (.cells #[.int .i64 0, .int .i64 p, .int .i64 q, .int .i64 n, .int .u8 o.k, .int .i64 o.r, .int .i64 o.p] 49)).drew.cell? ⟨w.heap.size, 1, none⟩ = some (.int .i64 p)) := ⟨x1⟩
  have hee : (e == e) = true := by simp
  clear h hX bb hB hl x1
  go_enter Try.func26, Try.ntmps26
  go_wp2_with fail
  go_region_held3 (fun w' => w'.cell? ⟨w.heap.size, 1, none⟩ = some (.int .i64 p)) (with_reducible (first | exact hSa.out | exact hSb.out | exact hSc.out)) ((first
    | (go_at_call 19; refine cT.mono ?_; rintro r W1 ⟨rfl, hs1⟩; have hSb : Hid3 (W1.cell? ⟨w.heap.size, 1, none⟩ = some (.int .i64 p)) := ⟨cell_far HT0.out hs1.ap hSa.out⟩; have HS1 := Hid3.mk hs1; have HR1 : Hid3 (Rt B W1 b s) := ⟨HT.out.r.stay HT.out.t hs1.ap⟩; clear hs1)
    | (go_at_call 42; refine (cR B _ b HR1.out).mono ?_; rintro r W2 ⟨rfl, hs2⟩; have hSc : Hid3 (W2.cell? ⟨w.heap.size, 1, none⟩ = some (.int .i64 p)) := ⟨cell_stay hSb.out hs2.ap (by omega)⟩; have HM : Hid3 (Mv B w W2 L b s s') := ⟨(Mv.mk' HT.out HS1.out hs2).pre HX.out⟩; clear hs2)))
  all_goals (
    go_wp2
    go_ret
    exact ⟨rfl, _, HM.out, HLe.out⟩)
set_option maxHeartbeats 2000000 in
theorem do_2 (B b : Nat) (L : Lo) (s : Fs) (p q n : Int) (o : Opn) (w : World) (h : Two B w L b s) (hB : B ≤ w.heap.size) (hl : s.all.length ≤ 1000) : Calls Try.prog 26 #[.pointer (some ⟨L.t, 0, none⟩), .pointer (some ⟨b, 0, none⟩), .agg #[.int .i64 2, .int .i64 p, .int .i64 q, .int .i64 n, .int .u8 o.k, .int .i64 o.r, .int .i64 o.p]] w (DoR B w L b s) := by
  have hX : Below w.heap.size w (w.alloc (.cells #[.int .i64 2, .int .i64 p, .int .i64 q, .int .i64 n, .int .u8 o.k, .int .i64 o.r, .int .i64 o.p] 49)).drew := (below_new w _).drew
  have x1 : (w.alloc (.cells #[.int .i64 2, .int .i64 p, .int .i64 q, .int .i64 n, .int .u8 o.k, .int .i64 o.r, .int .i64 o.p] 49)).drew.cell? ⟨w.heap.size, 1, none⟩ = some (.int .i64 p) := box_cell w [.int .i64 2, .int .i64 p, .int .i64 q, .int .i64 n, .int .u8 o.k, .int .i64 o.r, .int .i64 o.p] 49 1 _ rfl
  have x2 : (w.alloc (.cells #[.int .i64 2, .int .i64 p, .int .i64 q, .int .i64 n, .int .u8 o.k, .int .i64 o.r, .int .i64 o.p] 49)).drew.cell? ⟨w.heap.size, 2, none⟩ = some (.int .i64 q) := box_cell w [.int .i64 2, .int .i64 p, .int .i64 q, .int .i64 n, .int .u8 o.k, .int .i64 o.r, .int .i64 o.p] 49 2 _ rfl
  have HT := Hid3.mk (h.below hX)
  have HX := Hid3.mk hX
  have HT0 := Hid3.mk h.t
  have hBX := Nat.le_trans hB hX.size
  obtain ⟨e, s', bb⟩ := fork_both s p q
  have cT := bb.p B _ L HT.out.t hBX
  have cR := bb.r
  have HLe := Hid3.mk bb.le
  have hl1 := h.t.lt
  have hl2 := h.r.lt
  have hSa : Hid3 ((w.alloc (.cells #[.int .i64 2, .int .i64 p, .int .i64 q, .int .i64 n, .int .u8 o.k, .int .i64 o.r, .int .i64 o.p] 49)).drew.cell? ⟨w.heap.size, 1, none⟩ = some (.int .i64 p) ∧ (w.alloc (.cells #[.int .i64 2, .int .i64 p, .int .i64 q, .int .i64 n, .int .u8 o.k, .int .i64 o.r, .int .i64 o.p] 49)).drew.cell? ⟨w.heap.size, 2, none⟩ = some (.int .i64 q)) := ⟨⟨x1, x2⟩⟩
  have hee : (e == e) = true := by simp
  clear h hX bb hB hl x1 x2
  go_enter Try.func26, Try.ntmps26
  go_wp2_with fail
  go_region_held3 (fun w' => w'.cell? ⟨w.heap.size, 1, none⟩ = some (.int .i64 p) ∧ w'.cell? ⟨w.heap.size, 2, none⟩ = some (.int .i64 q)) (with_reducible (first | exact hSa.out | exact hSb.out | exact hSc.out)) ((first
    | (go_at_call 21; refine cT.mono ?_; rintro r W1 ⟨rfl, hs1⟩; have hSb : Hid3 (W1.cell? ⟨w.heap.size, 1, none⟩ = some (.int .i64 p) ∧ W1.cell? ⟨w.heap.size, 2, none⟩ = some (.int .i64 q)) := ⟨⟨cell_far HT0.out hs1.ap hSa.out.1, cell_far HT0.out hs1.ap hSa.out.2⟩⟩; have HS1 := Hid3.mk hs1; have HR1 : Hid3 (Rt B W1 b s) := ⟨HT.out.r.stay HT.out.t hs1.ap⟩; clear hs1)
    | (go_at_call 45; refine (cR B _ b HR1.out).mono ?_; rintro r W2 ⟨rfl, hs2⟩; have hSc : Hid3 (W2.cell? ⟨w.heap.size, 1, none⟩ = some (.int .i64 p) ∧ W2.cell? ⟨w.heap.size, 2, none⟩ = some (.int .i64 q)) := ⟨⟨cell_stay hSb.out.1 hs2.ap (by omega), cell_stay hSb.out.2 hs2.ap (by omega)⟩⟩; have HM : Hid3 (Mv B w W2 L b s s') := ⟨(Mv.mk' HT.out HS1.out hs2).pre HX.out⟩; clear hs2)))
  all_goals (
    go_wp2
    go_ret
    exact ⟨rfl, _, HM.out, HLe.out⟩)
set_option maxHeartbeats 2000000 in
theorem do_6 (B b : Nat) (L : Lo) (s : Fs) (p q n : Int) (o : Opn) (w : World) (h : Two B w L b s) (hB : B ≤ w.heap.size) (hl : s.all.length ≤ 1000) : Calls Try.prog 26 #[.pointer (some ⟨L.t, 0, none⟩), .pointer (some ⟨b, 0, none⟩), .agg #[.int .i64 6, .int .i64 p, .int .i64 q, .int .i64 n, .int .u8 o.k, .int .i64 o.r, .int .i64 o.p]] w (DoR B w L b s) := by
  have hX : Below w.heap.size w (w.alloc (.cells #[.int .i64 6, .int .i64 p, .int .i64 q, .int .i64 n, .int .u8 o.k, .int .i64 o.r, .int .i64 o.p] 49)).drew := (below_new w _).drew
  have x1 : (w.alloc (.cells #[.int .i64 6, .int .i64 p, .int .i64 q, .int .i64 n, .int .u8 o.k, .int .i64 o.r, .int .i64 o.p] 49)).drew.cell? ⟨w.heap.size, 1, none⟩ = some (.int .i64 p) := box_cell w [.int .i64 6, .int .i64 p, .int .i64 q, .int .i64 n, .int .u8 o.k, .int .i64 o.r, .int .i64 o.p] 49 1 _ rfl
  have x2 : (w.alloc (.cells #[.int .i64 6, .int .i64 p, .int .i64 q, .int .i64 n, .int .u8 o.k, .int .i64 o.r, .int .i64 o.p] 49)).drew.cell? ⟨w.heap.size, 2, none⟩ = some (.int .i64 q) := box_cell w [.int .i64 6, .int .i64 p, .int .i64 q, .int .i64 n, .int .u8 o.k, .int .i64 o.r, .int .i64 o.p] 49 2 _ rfl
  have x3 : (w.alloc (.cells #[.int .i64 6, .int .i64 p, .int .i64 q, .int .i64 n, .int .u8 o.k, .int .i64 o.r, .int .i64 o.p] 49)).drew.cell? ⟨w.heap.size, 3, none⟩ = some (.int .i64 n) := box_cell w [.int .i64 6, .int .i64 p, .int .i64 q, .int .i64 n, .int .u8 o.k, .int .i64 o.r, .int .i64 o.p] 49 3 _ rfl
  have HT := Hid3.mk (h.below hX)
  have HX := Hid3.mk hX
  have HT0 := Hid3.mk h.t
  have hBX := Nat.le_trans hB hX.size
  obtain ⟨e, s', bb⟩ := move_both s p n q hl
  have cT := bb.p B _ L HT.out.t hBX
  have cR := bb.r
  have HLe := Hid3.mk bb.le
  have hl1 := h.t.lt
  have hl2 := h.r.lt
  have hSa : Hid3 ((w.alloc (.cells #[.int .i64 6, .int .i64 p, .int .i64 q, .int .i64 n, .int .u8 o.k, .int .i64 o.r, .int .i64 o.p] 49)).drew.cell? ⟨w.heap.size, 1, none⟩ = some (.int .i64 p) ∧ (w.alloc (.cells #[.int .i64 6, .int .i64 p, .int .i64 q, .int .i64 n, .int .u8 o.k, .int .i64 o.r, .int .i64 o.p] 49)).drew.cell? ⟨w.heap.size, 2, none⟩ = some (.int .i64 q) ∧ (w.alloc (.cells #[.int .i64 6, .int .i64 p, .int .i64 q, .int .i64 n, .int .u8 o.k, .int .i64 o.r, .int .i64 o.p] 49)).drew.cell? ⟨w.heap.size, 3, none⟩ = some (.int .i64 n)) := ⟨⟨x1, x2, x3⟩⟩
  have hee : (e == e) = true := by simp
  clear h hX bb hB hl x1 x2 x3
  go_enter Try.func26, Try.ntmps26
  go_wp2_with fail
  go_region_held3 (fun w' => w'.cell? ⟨w.heap.size, 1, none⟩ = some (.int .i64 p) ∧ w'.cell? ⟨w.heap.size, 2, none⟩ = some (.int .i64 q) ∧ w'.cell? ⟨w.heap.size, 3, none⟩ = some (.int .i64 n)) (with_reducible (first | exact hSa.out | exact hSb.out | exact hSc.out)) ((first
    | (go_at_call 17; refine cT.mono ?_; rintro r W1 ⟨rfl, hs1⟩; have hSb : Hid3 (W1.cell? ⟨w.heap.size, 1, none⟩ = some (.int .i64 p) ∧ W1.cell? ⟨w.heap.size, 2, none⟩ = some (.int .i64 q) ∧ W1.cell? ⟨w.heap.size, 3, none⟩ = some (.int .i64 n)) := ⟨⟨cell_far HT0.out hs1.ap hSa.out.1, cell_far HT0.out hs1.ap hSa.out.2.1, cell_far HT0.out hs1.ap hSa.out.2.2⟩⟩; have HS1 := Hid3.mk hs1; have HR1 : Hid3 (Rt B W1 b s) := ⟨HT.out.r.stay HT.out.t hs1.ap⟩; clear hs1)
    | (go_at_call 49; refine (cR B _ b HR1.out).mono ?_; rintro r W2 ⟨rfl, hs2⟩; have hSc : Hid3 (W2.cell? ⟨w.heap.size, 1, none⟩ = some (.int .i64 p) ∧ W2.cell? ⟨w.heap.size, 2, none⟩ = some (.int .i64 q) ∧ W2.cell? ⟨w.heap.size, 3, none⟩ = some (.int .i64 n)) := ⟨⟨cell_stay hSb.out.1 hs2.ap (by omega), cell_stay hSb.out.2.1 hs2.ap (by omega), cell_stay hSb.out.2.2 hs2.ap (by omega)⟩⟩; have HM : Hid3 (Mv B w W2 L b s s') := ⟨(Mv.mk' HT.out HS1.out hs2).pre HX.out⟩; clear hs2)))
  all_goals (
    go_wp2
    go_ret
    exact ⟨rfl, _, HM.out, HLe.out⟩)
set_option maxHeartbeats 2000000 in
theorem do_3 (B b : Nat) (L : Lo) (s : Fs) (p q n : Int) (o : Opn) (w : World) (h : Two B w L b s) (hB : B ≤ w.heap.size) (hl : s.all.length ≤ 1000) (ho : 0 ≤ o.k) : Calls Try.prog 26 #[.pointer (some ⟨L.t, 0, none⟩), .pointer (some ⟨b, 0, none⟩), .agg #[.int .i64 3, .int .i64 p, .int .i64 q, .int .i64 n, .int .u8 o.k, .int .i64 o.r, .int .i64 o.p]] w (DoR B w L b s) := by
  have hX : Below w.heap.size w (w.alloc (.cells #[.int .i64 3, .int .i64 p, .int .i64 q, .int .i64 n, .int .u8 o.k, .int .i64 o.r, .int .i64 o.p] 49)) := below_new w _
  have x1 : (w.alloc (.cells #[.int .i64 3, .int .i64 p, .int .i64 q, .int .i64 n, .int .u8 o.k, .int .i64 o.r, .int .i64 o.p] 49)).cell? ⟨w.heap.size, 1, none⟩ = some (.int .i64 p) := box_cell w [.int .i64 3, .int .i64 p, .int .i64 q, .int .i64 n, .int .u8 o.k, .int .i64 o.r, .int .i64 o.p] 49 1 _ rfl
  have x4 : (w.alloc (.cells #[.int .i64 3, .int .i64 p, .int .i64 q, .int .i64 n, .int .u8 o.k, .int .i64 o.r, .int .i64 o.p] 49)).cell? ⟨w.heap.size, 4, none⟩ = some (.int .u8 o.k) := box_cell w [.int .i64 3, .int .i64 p, .int .i64 q, .int .i64 n, .int .u8 o.k, .int .i64 o.r, .int .i64 o.p] 49 4 _ rfl
  have x5 : (w.alloc (.cells #[.int .i64 3, .int .i64 p, .int .i64 q, .int .i64 n, .int .u8 o.k, .int .i64 o.r, .int .i64 o.p] 49)).cell? ⟨w.heap.size, 5, none⟩ = some (.int .i64 o.r) := box_cell w [.int .i64 3, .int .i64 p, .int .i64 q, .int .i64 n, .int .u8 o.k, .int .i64 o.r, .int .i64 o.p] 49 5 _ rfl
  have x6 : (w.alloc (.cells #[.int .i64 3, .int .i64 p, .int .i64 q, .int .i64 n, .int .u8 o.k, .int .i64 o.r, .int .i64 o.p] 49)).cell? ⟨w.heap.size, 6, none⟩ = some (.int .i64 o.p) := box_cell w [.int .i64 3, .int .i64 p, .int .i64 q, .int .i64 n, .int .u8 o.k, .int .i64 o.r, .int .i64 o.p] 49 6 _ rfl
  have HT := Hid3.mk (h.below hX)
  have HX := Hid3.mk hX
  have HT0 := Hid3.mk h.t
  have hBX := Nat.le_trans hB hX.size
  obtain ⟨x, e, s', bb⟩ := open_both s p o ho hl
  have hee : (e == e) = true := by simp
  have hxx : (x == x) = true := by simp
  have cT := bb.p B _ L HT.out.t hBX
  have cR := bb.r
  have HLe := Hid3.mk bb.le
  have hl1 := h.t.lt
  have hl2 := h.r.lt
  clear h hX bb hB hl ho
  unfold opC at cT cR
  go_enter Try.func26, Try.ntmps26
  go_wp2_with fail
  refine cT.mono ?_
  rintro r W1 ⟨rfl, hs1⟩
  have y1 := cell_far HT0.out hs1.ap x1
  have y4 := cell_far HT0.out hs1.ap x4
  have y5 := cell_far HT0.out hs1.ap x5
  have y6 := cell_far HT0.out hs1.ap x6
  have HS1 := Hid3.mk hs1
  have HR1 : Hid3 (Rt B W1 b s) := ⟨HT.out.r.stay HT.out.t hs1.ap⟩
  have hsz1 := hs1.ap.size
  clear cT hs1
  go_wp2_with fail
  refine (cR B _ b HR1.out).mono ?_
  rintro r W2 ⟨rfl, hs2⟩
  have HM : Hid3 (Mv B w W2 L b s s') := ⟨(Mv.mk' HT.out HS1.out hs2).pre HX.out⟩
  clear hs2 cR
  go_wp2
  go_ret
  exact ⟨rfl, _, HM.out, HLe.out⟩
set_option maxHeartbeats 2000000 in
theorem do_4 (B b : Nat) (L : Lo) (s : Fs) (p q n : Int) (o : Opn) (w : World) (h : Two B w L b s) (hB : B ≤ w.heap.size) (hl : s.all.length ≤ 1000) : Calls Try.prog 26 #[.pointer (some ⟨L.t, 0, none⟩), .pointer (some ⟨b, 0, none⟩), .agg #[.int .i64 4, .int .i64 p, .int .i64 q, .int .i64 n, .int .u8 o.k, .int .i64 o.r, .int .i64 o.p]] w (DoR B w L b s) := by
  have hX : Below w.heap.size w (w.alloc (.cells #[.int .i64 4, .int .i64 p, .int .i64 q, .int .i64 n, .int .u8 o.k, .int .i64 o.r, .int .i64 o.p] 49)) := below_new w _
  have x1 : (w.alloc (.cells #[.int .i64 4, .int .i64 p, .int .i64 q, .int .i64 n, .int .u8 o.k, .int .i64 o.r, .int .i64 o.p] 49)).cell? ⟨w.heap.size, 1, none⟩ = some (.int .i64 p) := box_cell w [.int .i64 4, .int .i64 p, .int .i64 q, .int .i64 n, .int .u8 o.k, .int .i64 o.r, .int .i64 o.p] 49 1 _ rfl
  have x3 : (w.alloc (.cells #[.int .i64 4, .int .i64 p, .int .i64 q, .int .i64 n, .int .u8 o.k, .int .i64 o.r, .int .i64 o.p] 49)).cell? ⟨w.heap.size, 3, none⟩ = some (.int .i64 n) := box_cell w [.int .i64 4, .int .i64 p, .int .i64 q, .int .i64 n, .int .u8 o.k, .int .i64 o.r, .int .i64 o.p] 49 3 _ rfl
  have HT := Hid3.mk (h.below hX)
  have HX := Hid3.mk hX
  have HT0 := Hid3.mk h.t
  have hBX := Nat.le_trans hB hX.size
  obtain ⟨x, e, s', bb⟩ := dup_both s p n
  have hee : (e == e) = true := by simp
  have hxx : (x == x) = true := by simp
  have cT := bb.p B _ L HT.out.t hBX
  have cR := bb.r
  have HLe := Hid3.mk bb.le
  have hl1 := h.t.lt
  have hl2 := h.r.lt
  clear h hX bb hB hl
  go_enter Try.func26, Try.ntmps26
  go_wp2_with fail
  refine cT.mono ?_
  rintro r W1 ⟨rfl, hs1⟩
  have y1 := cell_far HT0.out hs1.ap x1
  have y3 := cell_far HT0.out hs1.ap x3
  have HS1 := Hid3.mk hs1
  have HR1 : Hid3 (Rt B W1 b s) := ⟨HT.out.r.stay HT.out.t hs1.ap⟩
  have hsz1 := hs1.ap.size
  clear cT hs1
  go_wp2_with fail
  refine (cR B _ b HR1.out).mono ?_
  rintro r W2 ⟨rfl, hs2⟩
  have HM : Hid3 (Mv B w W2 L b s s') := ⟨(Mv.mk' HT.out HS1.out hs2).pre HX.out⟩
  clear hs2 cR
  go_wp2
  go_ret
  exact ⟨rfl, _, HM.out, HLe.out⟩
set_option maxHeartbeats 2000000 in
theorem do_5 (B b : Nat) (L : Lo) (s : Fs) (p q n : Int) (o : Opn) (w : World) (h : Two B w L b s) (hB : B ≤ w.heap.size) (hl : s.all.length ≤ 1000) : Calls Try.prog 26 #[.pointer (some ⟨L.t, 0, none⟩), .pointer (some ⟨b, 0, none⟩), .agg #[.int .i64 5, .int .i64 p, .int .i64 q, .int .i64 n, .int .u8 o.k, .int .i64 o.r, .int .i64 o.p]] w (DoR B w L b s) := by
  have hX : Below w.heap.size w (w.alloc (.cells #[.int .i64 5, .int .i64 p, .int .i64 q, .int .i64 n, .int .u8 o.k, .int .i64 o.r, .int .i64 o.p] 49)) := below_new w _
  have x1 : (w.alloc (.cells #[.int .i64 5, .int .i64 p, .int .i64 q, .int .i64 n, .int .u8 o.k, .int .i64 o.r, .int .i64 o.p] 49)).cell? ⟨w.heap.size, 1, none⟩ = some (.int .i64 p) := box_cell w [.int .i64 5, .int .i64 p, .int .i64 q, .int .i64 n, .int .u8 o.k, .int .i64 o.r, .int .i64 o.p] 49 1 _ rfl
  have x3 : (w.alloc (.cells #[.int .i64 5, .int .i64 p, .int .i64 q, .int .i64 n, .int .u8 o.k, .int .i64 o.r, .int .i64 o.p] 49)).cell? ⟨w.heap.size, 3, none⟩ = some (.int .i64 n) := box_cell w [.int .i64 5, .int .i64 p, .int .i64 q, .int .i64 n, .int .u8 o.k, .int .i64 o.r, .int .i64 o.p] 49 3 _ rfl
  have HT := Hid3.mk (h.below hX)
  have HX := Hid3.mk hX
  have HT0 := Hid3.mk h.t
  have hBX := Nat.le_trans hB hX.size
  obtain ⟨oo, z, e, s', bb⟩ := close_both s p n hl
  have hee : (e == e) = true := by simp
  have hzz : (z == z) = true := by simp
  have eG := eqGuardO
  have eM := fun W => eqO W oo oo
  rw [decide_eq_true rfl] at eM
  have cT := bb.p B _ L HT.out.t hBX
  have cR := bb.r
  have HLe := Hid3.mk bb.le
  have hl1 := h.t.lt
  have hl2 := h.r.lt
  clear h hX bb hB hl
  go_enter Try.func26, Try.ntmps26
  go_wp2_with fail
  refine cT.mono ?_
  rintro r W1 ⟨rfl, hs1⟩
  have y1 := cell_far HT0.out hs1.ap x1
  have y3 := cell_far HT0.out hs1.ap x3
  have HS1 := Hid3.mk hs1
  have HR1 : Hid3 (Rt B W1 b s) := ⟨HT.out.r.stay HT.out.t hs1.ap⟩
  have hsz1 := hs1.ap.size
  clear cT hs1
  have HX1 := Hid3.mk (below_new W1 (.cells #[.int .u8 oo.k, .int .i64 oo.r, .int .i64 oo.p] 32))
  have hbx := heap_alloc_new W1 (.cells #[.int .u8 oo.k, .int .i64 oo.r, .int .i64 oo.p] 32)
  have hb1 := HR1.out.lt
  have hxl : w.heap.size < W1.heap.size := by rw [World.size_alloc] at hsz1; omega
  go_wp2_with fail
  refine (cR B _ b (HR1.out.below HX1.out)).mono ?_
  rintro r W2 ⟨rfl, hs2⟩
  have HM : Hid3 (Mv B w W2 L b s s') := ⟨(Mv.mk' HT.out (HS1.out.post HX1.out) hs2).pre HX.out⟩
  have hbx2 := (hs2.ap.block W1.heap.size (by simp) (by omega)).trans hbx
  have z0 : W2.cell? ⟨W1.heap.size, 0, none⟩ = some (.int .u8 oo.k) := by rw [Lib.cell_of_heap hbx2]; rfl
  have z1 : W2.cell? ⟨W1.heap.size, 1, none⟩ = some (.int .i64 oo.r) := by rw [Lib.cell_of_heap hbx2]; rfl
  have z2 : W2.cell? ⟨W1.heap.size, 2, none⟩ = some (.int .i64 oo.p) := by rw [Lib.cell_of_heap hbx2]; rfl
  have hlz : W1.heap.size < W2.heap.size := (Array.getElem?_eq_some_iff.1 hbx2).1
  have HX2 := Hid3.mk (below_new W2 (.cells #[.int .u8 oo.k, .int .i64 oo.r, .int .i64 oo.p] 32))
  clear hs2 cR hbx hbx2
  go_wp2
  go_ret
  exact ⟨rfl, _, HM.out.post HX2.out, HLe.out⟩
set_option maxHeartbeats 2000000 in
theorem do_1 (B b : Nat) (L : Lo) (s : Fs) (p q n : Int) (o : Opn) (w : World) (h : Two B w L b s) (hB : B ≤ w.heap.size) (hl : s.all.length ≤ 1000) : Calls Try.prog 26 #[.pointer (some ⟨L.t, 0, none⟩), .pointer (some ⟨b, 0, none⟩), .agg #[.int .i64 1, .int .i64 p, .int .i64 q, .int .i64 n, .int .u8 o.k, .int .i64 o.r, .int .i64 o.p]] w (DoR B w L b s) := by
  have hX : Below w.heap.size w (w.alloc (.cells #[.int .i64 1, .int .i64 p, .int .i64 q, .int .i64 n, .int .u8 o.k, .int .i64 o.r, .int .i64 o.p] 49)) := below_new w _
  have x1 : (w.alloc (.cells #[.int .i64 1, .int .i64 p, .int .i64 q, .int .i64 n, .int .u8 o.k, .int .i64 o.r, .int .i64 o.p] 49)).cell? ⟨w.heap.size, 1, none⟩ = some (.int .i64 p) := box_cell w [.int .i64 1, .int .i64 p, .int .i64 q, .int .i64 n, .int .u8 o.k, .int .i64 o.r, .int .i64 o.p] 49 1 _ rfl
  have HT := Hid3.mk (h.below hX)
  have HX := Hid3.mk hX
  have HT0 := Hid3.mk h.t
  have hBX := Nat.le_trans hB hX.size
  obtain ⟨l, e, s', bb⟩ := end_both s p hl
  have hee : (e == e) = true := by simp
  have hll := bb.ll
  have cT := bb.p B _ L HT.out.t hBX
  have cR := bb.r
  have HLe := Hid3.mk bb.le
  have hl1 := h.t.lt
  have hl2 := h.r.lt
  clear h hX bb hB hl
  go_enter Try.func26, Try.ntmps26
  go_wp2_with fail
  refine cT.mono ?_
  rintro r W1 ⟨v1, rfl, ho1, hs1⟩
  have y1 := cell_far HT0.out hs1.ap x1
  have HS1 := Hid3.mk hs1
  have HR1 : Hid3 (Rt B W1 b s) := ⟨HT.out.r.stay HT.out.t hs1.ap⟩
  have hsz1 := hs1.ap.size
  obtain ⟨a1, cap1, rfl⟩ := slice_of ho1
  have HO1 := Hid3.mk ho1
  have hb1 := HR1.out.lt
  clear cT hs1 ho1
  go_wp2_with fail
  refine (cR B _ b HR1.out).mono ?_
  rintro r W2 ⟨v2, rfl, ho2, hs2⟩
  obtain ⟨a2, cap2, rfl⟩ := slice_of ho2
  have HM : Hid3 (Mv B w W2 L b s s') := ⟨(Mv.mk' HT.out HS1.out hs2).pre HX.out⟩
  have cS := sameopens_any _ _ l W2 (OpR.of_own (own_stay HO1.out hs2.ap (fun g hg e => by have e' : g = b := e; rw [World.size_alloc] at hg; omega))) (OpR.of_own ho2) (by omega)
  clear hs2 cR ho2
  go_wp2_with fail
  refine cS.mono ?_
  rintro r W3 ⟨rfl, hB3⟩
  have HM3 := Hid3.mk (HM.out.post hB3)
  clear cS hB3
  go_wp2
  go_ret
  exact ⟨rfl, _, HM3.out, HLe.out⟩
set_option maxHeartbeats 2000000 in
theorem do_else (B b : Nat) (L : Lo) (s : Fs) (k p q n : Int) (o : Opn) (w : World) (h : Two B w L b s) (h0 : k ≠ 0) (h1 : k ≠ 1) (h2 : k ≠ 2) (h3 : k ≠ 3) (h4 : k ≠ 4) (h5 : k ≠ 5) (h6 : k ≠ 6) : Calls Try.prog 26 #[.pointer (some ⟨L.t, 0, none⟩), .pointer (some ⟨b, 0, none⟩), .agg #[.int .i64 k, .int .i64 p, .int .i64 q, .int .i64 n, .int .u8 o.k, .int .i64 o.r, .int .i64 o.p]] w (DoR B w L b s) := by
  have HM : Hid3 (Mv B w (w.alloc (.cells #[.int .i64 k, .int .i64 p, .int .i64 q, .int .i64 n, .int .u8 o.k, .int .i64 o.r, .int .i64 o.p] 49)) L b s s) := ⟨Mv.same h (below_new w _)⟩
  have e0 : (k == 0) = false := by simpa using h0
  have e1 : (k == 1) = false := by simpa using h1
  have e2 : (k == 2) = false := by simpa using h2
  have e3 : (k == 3) = false := by simpa using h3
  have e4 : (k == 4) = false := by simpa using h4
  have e5 : (k == 5) = false := by simpa using h5
  have e6 : (k == 6) = false := by simpa using h6
  clear h h0 h1 h2 h3 h4 h5 h6
  go_enter Try.func26, Try.ntmps26
  go_wp2
  go_ret
  exact ⟨rfl, _, HM.out, Nat.le_succ _⟩
theorem do_any (B b : Nat) (L : Lo) (s : Fs) (d : Dd) (w : World) (h : Two B w L b s) (hB : B ≤ w.heap.size) (hl : s.all.length ≤ 1000) (ho : 0 ≤ d.o.k) : Calls Try.prog 26 #[.pointer (some ⟨L.t, 0, none⟩), .pointer (some ⟨b, 0, none⟩), ddV d] w (DoR B w L b s) := by
  obtain ⟨k, p, q, n, o⟩ := d
  unfold ddV
  simp only at *
  by_cases h0 : k = 0
  · subst h0; exact do_0 B b L s p q n o w h hB hl
  by_cases h1 : k = 1
  · subst h1; exact do_1 B b L s p q n o w h hB hl
  by_cases h2 : k = 2
  · subst h2; exact do_2 B b L s p q n o w h hB hl
  by_cases h3 : k = 3
  · subst h3; exact do_3 B b L s p q n o w h hB hl ho
  by_cases h4 : k = 4
  · subst h4; exact do_4 B b L s p q n o w h hB hl
  by_cases h5 : k = 5
  · subst h5; exact do_5 B b L s p q n o w h hB hl
  by_cases h6 : k = 6
  · subst h6; exact do_6 B b L s p q n o w h hB hl
  exact do_else B b L s k p q n o w h h0 h1 h2 h3 h4 h5 h6
end Go.Proofs.Ytbkpkcndmlapfaa
