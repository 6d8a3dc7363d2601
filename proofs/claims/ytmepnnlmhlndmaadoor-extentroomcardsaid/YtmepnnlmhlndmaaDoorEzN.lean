/- A deed on both tables. -/
import Derived.Test.YtmepnnlmhlndmaaDoorEzM
namespace Go.Proofs.YtmepnnlmhlndmaaDoor
open Go.RowKit Go.Maps
set_option linter.unusedVariables false
set_option maxRecDepth 100000
/-- A deed. -/
structure Dd where
  k : Int
  a : Int
  c : Int
  ow : Nat
  tw : Nat
  id : Nat
  ot : Nat
  n : ByteArray
  rt : BitVec 8
  ha : a ≤ 9223372036854775807
def Dd.vs (d : Dd) : List Value := [.int .i64 d.k, .int .i64 d.a, .int .i64 d.c, .int .u8 d.ow, .int .u8 d.tw, .int .u32 d.id, .int .u32 d.ot, .string d.n, .int .u8 d.rt.toNat]
def Dd.V (d : Dd) : Value := .agg d.vs.toArray
/-- What a deed does. -/
def DoR (B : Nat) (w : World) (L : Lo) (b : Nat) (s : Xt) (r : Ending) (w' : World) : Prop := r = .returned (.bool true) ∧ ∃ s', Mv B w w' L b s' s' ∧ Nx s s'
theorem box_cell (w : World) (cs : List Value) (t : TypeId) (j : Nat) (v : Value) (h : cs[j]? = some v) : (w.alloc (.cells cs.toArray t)).cell? ⟨w.heap.size, j, none⟩ = some v := by
  rw [Lib.cell_of_heap (heap_alloc_new w _)]
  simpa using h
theorem cell_stay {w1 w2 : World} {X : Nat → Prop} {q j : Nat} {v : Value} (hc : w1.cell? ⟨q, j, none⟩ = some v) (ap : Apart X w1 w2) (hx : ¬ X q) : w2.cell? ⟨q, j, none⟩ = some v := by
  have hl := World.block_lt_of_cell? w1 _ hc
  rw [← hc]
  have := ap.block q hl hx
  simp only [World.cell?, this]
theorem cell_far {B : Nat} {w w1 w2 : World} {L : Lo} {s : Xt} {j : Nat} {v : Value} (h : Pt B w L s) (ap : Apart (XT L) w1 w2) (hc : w1.cell? ⟨w.heap.size, j, none⟩ = some v) : w2.cell? ⟨w.heap.size, j, none⟩ = some v :=
  cell_stay hc ap (fun e => by have := h.lt e; omega)
theorem short_cases (n : ByteArray) : (300 < n.size ∧ n.extract 0 300 = shortS n) ∨ (¬ 300 < n.size ∧ n = shortS n) := by
  unfold shortS
  by_cases h : 300 < n.size
  · exact .inl ⟨h, by rw [if_pos h]⟩
  · exact .inr ⟨h, by rw [if_neg h]⟩
set_option maxHeartbeats 4000000 in
theorem do_0 (B b : Nat) (L : Lo) (s : Xt) (a c : Int) (ow tw id ot : Nat) (n : ByteArray) (rt : BitVec 8) (w : World) (h : Mx B w L b s s) (hl : s.last < 1000000) (ha : a ≤ 9223372036854775807) : Calls Tryd.prog 26 #[.pointer (some ⟨L.t, 0, none⟩), .pointer (some ⟨b, 0, none⟩), .agg #[.int .i64 0, .int .i64 a, .int .i64 c, .int .u8 ow, .int .u8 tw, .int .u32 id, .int .u32 ot, .string n, .int .u8 rt.toNat]] w (DoR B w L b s) := by
  obtain ⟨m, hm⟩ : ∃ m, shortS n = m := ⟨_, rfl⟩
  have hms : m.size ≤ 1000 := by have := shortS_size n; rw [hm] at this; omega
  have hcs := short_cases n
  rw [hm] at hcs
  have hX : Below w.heap.size w (w.alloc (.cells #[.int .i64 0, .int .i64 a, .int .i64 c, .int .u8 ow, .int .u8 tw, .int .u32 id, .int .u32 ot, .string m, .int .u8 rt.toNat] 58)) := below_new w _
  have x3 : (w.alloc (.cells #[.int .i64 0, .int .i64 a, .int .i64 c, .int .u8 ow, .int .u8 tw, .int .u32 id, .int .u32 ot, .string m, .int .u8 rt.toNat] 58)).cell? ⟨w.heap.size, 3, none⟩ = some (.int .u8 ow) := box_cell w [.int .i64 0, .int .i64 a, .int .i64 c, .int .u8 ow, .int .u8 tw, .int .u32 id, .int .u32 ot, .string m, .int .u8 rt.toNat] 58 3 _ rfl
  have x1 : (w.alloc (.cells #[.int .i64 0, .int .i64 a, .int .i64 c, .int .u8 ow, .int .u8 tw, .int .u32 id, .int .u32 ot, .string m, .int .u8 rt.toNat] 58)).cell? ⟨w.heap.size, 1, none⟩ = some (.int .i64 a) := box_cell w [.int .i64 0, .int .i64 a, .int .i64 c, .int .u8 ow, .int .u8 tw, .int .u32 id, .int .u32 ot, .string m, .int .u8 rt.toNat] 58 1 _ rfl
  have x2 : (w.alloc (.cells #[.int .i64 0, .int .i64 a, .int .i64 c, .int .u8 ow, .int .u8 tw, .int .u32 id, .int .u32 ot, .string m, .int .u8 rt.toNat] 58)).cell? ⟨w.heap.size, 2, none⟩ = some (.int .i64 c) := box_cell w [.int .i64 0, .int .i64 a, .int .i64 c, .int .u8 ow, .int .u8 tw, .int .u32 id, .int .u32 ot, .string m, .int .u8 rt.toNat] 58 2 _ rfl
  have x7 : (w.alloc (.cells #[.int .i64 0, .int .i64 a, .int .i64 c, .int .u8 ow, .int .u8 tw, .int .u32 id, .int .u32 ot, .string m, .int .u8 rt.toNat] 58)).cell? ⟨w.heap.size, 7, none⟩ = some (.string m) := box_cell w [.int .i64 0, .int .i64 a, .int .i64 c, .int .u8 ow, .int .u8 tw, .int .u32 id, .int .u32 ot, .string m, .int .u8 rt.toNat] 58 7 _ rfl
  have x8 : (w.alloc (.cells #[.int .i64 0, .int .i64 a, .int .i64 c, .int .u8 ow, .int .u8 tw, .int .u32 id, .int .u32 ot, .string m, .int .u8 rt.toNat] 58)).cell? ⟨w.heap.size, 8, none⟩ = some (.int .u8 rt.toNat) := box_cell w [.int .i64 0, .int .i64 a, .int .i64 c, .int .u8 ow, .int .u8 tw, .int .u32 id, .int .u32 ot, .string m, .int .u8 rt.toNat] 58 8 _ rfl
  have HT := Hid3.mk (h.low hX)
  have HX := Hid3.mk hX
  have HT0 := Hid3.mk h.t
  have hBX := HT.out.sz
  obtain ⟨x, e, s', bb⟩ := alloc_both s h.t.ok hl ow a c m rt ha hms
  have cT := bb.p B _ L HT.out.t hBX
  have cR := bb.r
  have HLe := Hid3.mk bb.n
  have hl1 := h.t.lt (.inl rfl)
  have hl2 := h.r.lt
  have hee : (e == e) = true := by simp
  have hxx : ((x : Int) == (x : Int)) = true := by simp
  clear h hX bb hl hms ha
  rcases hcs with ⟨hc1, hc2⟩ | ⟨hc1, hc2⟩
  · have hcz : (300 : Int) < (n.size : Int) := by omega
    clear hc1 hm
    go_enter Tryd.func26, Tryd.ntmps26
    go_wp2_with fail
    refine cT.mono ?_
    rintro r W1 ⟨rfl, hs1⟩
    have y3 := cell_far HT0.out hs1.ap x3
    have y1 := cell_far HT0.out hs1.ap x1
    have y2 := cell_far HT0.out hs1.ap x2
    have y7 := cell_far HT0.out hs1.ap x7
    have y8 := cell_far HT0.out hs1.ap x8
    have HS1 := Hid3.mk hs1
    have HR1 : Hid3 (Rt B W1 b s ∧ Nt B W1) := ⟨by obtain ⟨_, _, hM, _⟩ := HT.out.step1 hs1; exact ⟨hM.r, hM.n⟩⟩
    have hsz1 := hs1.ap.size
    clear cT hs1
    go_wp2_with fail
    refine (cR B _ b HR1.out.1 HR1.out.2).mono ?_
    rintro r W2 ⟨rfl, hs2⟩
    have HM : Hid3 (Mv B w W2 L b s' s') := ⟨(Mv.mk' HT.out HS1.out hs2).pre HX.out⟩
    clear hs2 cR
    go_wp2
    go_ret
    exact ⟨rfl, _, HM.out, HLe.out⟩
  · have hcz : ¬ (300 : Int) < (n.size : Int) := by omega
    subst hc2
    clear hc1 hm
    go_enter Tryd.func26, Tryd.ntmps26
    go_wp2_with fail
    refine cT.mono ?_
    rintro r W1 ⟨rfl, hs1⟩
    have y3 := cell_far HT0.out hs1.ap x3
    have y1 := cell_far HT0.out hs1.ap x1
    have y2 := cell_far HT0.out hs1.ap x2
    have y7 := cell_far HT0.out hs1.ap x7
    have y8 := cell_far HT0.out hs1.ap x8
    have HS1 := Hid3.mk hs1
    have HR1 : Hid3 (Rt B W1 b s ∧ Nt B W1) := ⟨by obtain ⟨_, _, hM, _⟩ := HT.out.step1 hs1; exact ⟨hM.r, hM.n⟩⟩
    have hsz1 := hs1.ap.size
    clear cT hs1
    go_wp2_with fail
    refine (cR B _ b HR1.out.1 HR1.out.2).mono ?_
    rintro r W2 ⟨rfl, hs2⟩
    have HM : Hid3 (Mv B w W2 L b s' s') := ⟨(Mv.mk' HT.out HS1.out hs2).pre HX.out⟩
    clear hs2 cR
    go_wp2
    go_ret
    exact ⟨rfl, _, HM.out, HLe.out⟩
set_option maxHeartbeats 4000000 in
theorem do_1 (B b : Nat) (L : Lo) (s : Xt) (a c : Int) (ow tw id ot : Nat) (n : ByteArray) (rt : BitVec 8) (w : World) (h : Mx B w L b s s) (hl : s.last < 1000000) : Calls Tryd.prog 26 #[.pointer (some ⟨L.t, 0, none⟩), .pointer (some ⟨b, 0, none⟩), .agg #[.int .i64 1, .int .i64 a, .int .i64 c, .int .u8 ow, .int .u8 tw, .int .u32 id, .int .u32 ot, .string n, .int .u8 rt.toNat]] w (DoR B w L b s) := by
  obtain ⟨m, hm⟩ : ∃ m, shortS n = m := ⟨_, rfl⟩
  have hms : m.size ≤ 1000 := by have := shortS_size n; rw [hm] at this; omega
  have hcs := short_cases n
  rw [hm] at hcs
  have hX : Below w.heap.size w (w.alloc (.cells #[.int .i64 1, .int .i64 a, .int .i64 c, .int .u8 ow, .int .u8 tw, .int .u32 id, .int .u32 ot, .string m, .int .u8 rt.toNat] 58)) := below_new w _
  have x3 : (w.alloc (.cells #[.int .i64 1, .int .i64 a, .int .i64 c, .int .u8 ow, .int .u8 tw, .int .u32 id, .int .u32 ot, .string m, .int .u8 rt.toNat] 58)).cell? ⟨w.heap.size, 3, none⟩ = some (.int .u8 ow) := box_cell w [.int .i64 1, .int .i64 a, .int .i64 c, .int .u8 ow, .int .u8 tw, .int .u32 id, .int .u32 ot, .string m, .int .u8 rt.toNat] 58 3 _ rfl
  have x5 : (w.alloc (.cells #[.int .i64 1, .int .i64 a, .int .i64 c, .int .u8 ow, .int .u8 tw, .int .u32 id, .int .u32 ot, .string m, .int .u8 rt.toNat] 58)).cell? ⟨w.heap.size, 5, none⟩ = some (.int .u32 id) := box_cell w [.int .i64 1, .int .i64 a, .int .i64 c, .int .u8 ow, .int .u8 tw, .int .u32 id, .int .u32 ot, .string m, .int .u8 rt.toNat] 58 5 _ rfl
  have x1 : (w.alloc (.cells #[.int .i64 1, .int .i64 a, .int .i64 c, .int .u8 ow, .int .u8 tw, .int .u32 id, .int .u32 ot, .string m, .int .u8 rt.toNat] 58)).cell? ⟨w.heap.size, 1, none⟩ = some (.int .i64 a) := box_cell w [.int .i64 1, .int .i64 a, .int .i64 c, .int .u8 ow, .int .u8 tw, .int .u32 id, .int .u32 ot, .string m, .int .u8 rt.toNat] 58 1 _ rfl
  have HT := Hid3.mk (h.low hX)
  have HX := Hid3.mk hX
  have HT0 := Hid3.mk h.t
  have hBX := HT.out.sz
  obtain ⟨x, e, s', bb⟩ := split_both s h.t.ok hl ow id a
  have cT := bb.p B _ L HT.out.t hBX
  have cR := bb.r
  have HLe := Hid3.mk bb.n
  have hl1 := h.t.lt (.inl rfl)
  have hl2 := h.r.lt
  have hee : (e == e) = true := by simp
  have hxx : ((x : Int) == (x : Int)) = true := by simp
  clear h hX bb hl hms
  rcases hcs with ⟨hc1, hc2⟩ | ⟨hc1, hc2⟩
  · have hcz : (300 : Int) < (n.size : Int) := by omega
    clear hc1 hm
    go_enter Tryd.func26, Tryd.ntmps26
    go_wp2_with fail
    refine cT.mono ?_
    rintro r W1 ⟨rfl, hs1⟩
    have y3 := cell_far HT0.out hs1.ap x3
    have y5 := cell_far HT0.out hs1.ap x5
    have y1 := cell_far HT0.out hs1.ap x1
    have HS1 := Hid3.mk hs1
    have HR1 : Hid3 (Rt B W1 b s ∧ Nt B W1) := ⟨by obtain ⟨_, _, hM, _⟩ := HT.out.step1 hs1; exact ⟨hM.r, hM.n⟩⟩
    have hsz1 := hs1.ap.size
    clear cT hs1
    go_wp2_with fail
    refine (cR B _ b HR1.out.1 HR1.out.2).mono ?_
    rintro r W2 ⟨rfl, hs2⟩
    have HM : Hid3 (Mv B w W2 L b s' s') := ⟨(Mv.mk' HT.out HS1.out hs2).pre HX.out⟩
    clear hs2 cR
    go_wp2
    go_ret
    exact ⟨rfl, _, HM.out, HLe.out⟩
  · have hcz : ¬ (300 : Int) < (n.size : Int) := by omega
    subst hc2
    clear hc1 hm
    go_enter Tryd.func26, Tryd.ntmps26
    go_wp2_with fail
    refine cT.mono ?_
    rintro r W1 ⟨rfl, hs1⟩
    have y3 := cell_far HT0.out hs1.ap x3
    have y5 := cell_far HT0.out hs1.ap x5
    have y1 := cell_far HT0.out hs1.ap x1
    have HS1 := Hid3.mk hs1
    have HR1 : Hid3 (Rt B W1 b s ∧ Nt B W1) := ⟨by obtain ⟨_, _, hM, _⟩ := HT.out.step1 hs1; exact ⟨hM.r, hM.n⟩⟩
    have hsz1 := hs1.ap.size
    clear cT hs1
    go_wp2_with fail
    refine (cR B _ b HR1.out.1 HR1.out.2).mono ?_
    rintro r W2 ⟨rfl, hs2⟩
    have HM : Hid3 (Mv B w W2 L b s' s') := ⟨(Mv.mk' HT.out HS1.out hs2).pre HX.out⟩
    clear hs2 cR
    go_wp2
    go_ret
    exact ⟨rfl, _, HM.out, HLe.out⟩
set_option maxHeartbeats 4000000 in
theorem do_2 (B b : Nat) (L : Lo) (s : Xt) (a c : Int) (ow tw id ot : Nat) (n : ByteArray) (rt : BitVec 8) (w : World) (h : Mx B w L b s s) (hl : s.last < 1000000) : Calls Tryd.prog 26 #[.pointer (some ⟨L.t, 0, none⟩), .pointer (some ⟨b, 0, none⟩), .agg #[.int .i64 2, .int .i64 a, .int .i64 c, .int .u8 ow, .int .u8 tw, .int .u32 id, .int .u32 ot, .string n, .int .u8 rt.toNat]] w (DoR B w L b s) := by
  obtain ⟨m, hm⟩ : ∃ m, shortS n = m := ⟨_, rfl⟩
  have hms : m.size ≤ 1000 := by have := shortS_size n; rw [hm] at this; omega
  have hcs := short_cases n
  rw [hm] at hcs
  have hX : Below w.heap.size w (w.alloc (.cells #[.int .i64 2, .int .i64 a, .int .i64 c, .int .u8 ow, .int .u8 tw, .int .u32 id, .int .u32 ot, .string m, .int .u8 rt.toNat] 58)).drew := (below_new w _).drew
  have x3 : (w.alloc (.cells #[.int .i64 2, .int .i64 a, .int .i64 c, .int .u8 ow, .int .u8 tw, .int .u32 id, .int .u32 ot, .string m, .int .u8 rt.toNat] 58)).drew.cell? ⟨w.heap.size, 3, none⟩ = some (.int .u8 ow) := box_cell w [.int .i64 2, .int .i64 a, .int .i64 c, .int .u8 ow, .int .u8 tw, .int .u32 id, .int .u32 ot, .string m, .int .u8 rt.toNat] 58 3 _ rfl
  have x5 : (w.alloc (.cells #[.int .i64 2, .int .i64 a, .int .i64 c, .int .u8 ow, .int .u8 tw, .int .u32 id, .int .u32 ot, .string m, .int .u8 rt.toNat] 58)).drew.cell? ⟨w.heap.size, 5, none⟩ = some (.int .u32 id) := box_cell w [.int .i64 2, .int .i64 a, .int .i64 c, .int .u8 ow, .int .u8 tw, .int .u32 id, .int .u32 ot, .string m, .int .u8 rt.toNat] 58 5 _ rfl
  have x6 : (w.alloc (.cells #[.int .i64 2, .int .i64 a, .int .i64 c, .int .u8 ow, .int .u8 tw, .int .u32 id, .int .u32 ot, .string m, .int .u8 rt.toNat] 58)).drew.cell? ⟨w.heap.size, 6, none⟩ = some (.int .u32 ot) := box_cell w [.int .i64 2, .int .i64 a, .int .i64 c, .int .u8 ow, .int .u8 tw, .int .u32 id, .int .u32 ot, .string m, .int .u8 rt.toNat] 58 6 _ rfl
  have HT := Hid3.mk (h.low hX)
  have HX := Hid3.mk hX
  have HT0 := Hid3.mk h.t
  have hBX := HT.out.sz
  obtain ⟨e, s', bb⟩ := merge_both s h.t.ok ow id ot
  have cT := bb.p B _ L HT.out.t hBX
  have cR := bb.r
  have HLe := Hid3.mk bb.n
  have hl1 := h.t.lt (.inl rfl)
  have hl2 := h.r.lt
  have hSa : Hid3 ((w.alloc (.cells #[.int .i64 2, .int .i64 a, .int .i64 c, .int .u8 ow, .int .u8 tw, .int .u32 id, .int .u32 ot, .string m, .int .u8 rt.toNat] 58)).drew.cell? ⟨w.heap.size, 3, none⟩ = some (.int .u8 ow) ∧ (w.alloc (.cells #[.int .i64 2, .int .i64 a, .int .i64 c, .int .u8 ow, .int .u8 tw, .int .u32 id, .int .u32 ot, .string m, .int .u8 rt.toNat] 58)).drew.cell? ⟨w.heap.size, 5, none⟩ = some (.int .u32 id) ∧ (w.alloc (.cells #[.int .i64 2, .int .i64 a, .int .i64 c, .int .u8 ow, .int .u8 tw, .int .u32 id, .int .u32 ot, .string m, .int .u8 rt.toNat] 58)).drew.cell? ⟨w.heap.size, 6, none⟩ = some (.int .u32 ot)) := ⟨⟨x3, x5, x6⟩⟩
  have hee : (e == e) = true := by simp
  clear h hX bb hl hms x3 x5 x6
  rcases hcs with ⟨hc1, hc2⟩ | ⟨hc1, hc2⟩
  · have hcz : (300 : Int) < (n.size : Int) := by omega
    clear hc1 hm
    go_enter Tryd.func26, Tryd.ntmps26
    go_wp2_with fail
    go_region_held3 (fun w' => w'.cell? ⟨w.heap.size, 3, none⟩ = some (.int .u8 ow) ∧ w'.cell? ⟨w.heap.size, 5, none⟩ = some (.int .u32 id) ∧ w'.cell? ⟨w.heap.size, 6, none⟩ = some (.int .u32 ot)) (with_reducible (first | exact hSa.out | exact hSb.out | exact hSc.out)) ((first
      | (go_at_call 17; refine cT.mono ?_; rintro r W1 ⟨rfl, hs1⟩; have hSb : Hid3 (W1.cell? ⟨w.heap.size, 3, none⟩ = some (.int .u8 ow) ∧ W1.cell? ⟨w.heap.size, 5, none⟩ = some (.int .u32 id) ∧ W1.cell? ⟨w.heap.size, 6, none⟩ = some (.int .u32 ot)) := ⟨⟨cell_far HT0.out hs1.ap hSa.out.1, cell_far HT0.out hs1.ap hSa.out.2.1, cell_far HT0.out hs1.ap hSa.out.2.2⟩⟩; have HS1 := Hid3.mk hs1; have HR1 : Hid3 (Rt B W1 b s ∧ Nt B W1) := ⟨by obtain ⟨_, _, hM, _⟩ := HT.out.step1 hs1; exact ⟨hM.r, hM.n⟩⟩; clear hs1)
      | (go_at_call 54; refine (cR B _ b HR1.out.1 HR1.out.2).mono ?_; rintro r W2 ⟨rfl, hs2⟩; have hSc : Hid3 (W2.cell? ⟨w.heap.size, 3, none⟩ = some (.int .u8 ow) ∧ W2.cell? ⟨w.heap.size, 5, none⟩ = some (.int .u32 id) ∧ W2.cell? ⟨w.heap.size, 6, none⟩ = some (.int .u32 ot)) := ⟨⟨cell_stay hSb.out.1 hs2.ap (by omega), cell_stay hSb.out.2.1 hs2.ap (by omega), cell_stay hSb.out.2.2 hs2.ap (by omega)⟩⟩; have HM : Hid3 (Mv B w W2 L b s' s') := ⟨(Mv.mk' HT.out HS1.out hs2).pre HX.out⟩; clear hs2)))
    all_goals (
      go_wp2
      go_ret
      exact ⟨rfl, _, HM.out, HLe.out⟩)
  · have hcz : ¬ (300 : Int) < (n.size : Int) := by omega
    subst hc2
    clear hc1 hm
    go_enter Tryd.func26, Tryd.ntmps26
    go_wp2_with fail
    go_region_held3 (fun w' => w'.cell? ⟨w.heap.size, 3, none⟩ = some (.int .u8 ow) ∧ w'.cell? ⟨w.heap.size, 5, none⟩ = some (.int .u32 id) ∧ w'.cell? ⟨w.heap.size, 6, none⟩ = some (.int .u32 ot)) (with_reducible (first | exact hSa.out | exact hSb.out | exact hSc.out)) ((first
      | (go_at_call 17; refine cT.mono ?_; rintro r W1 ⟨rfl, hs1⟩; have hSb : Hid3 (W1.cell? ⟨w.heap.size, 3, none⟩ = some (.int .u8 ow) ∧ W1.cell? ⟨w.heap.size, 5, none⟩ = some (.int .u32 id) ∧ W1.cell? ⟨w.heap.size, 6, none⟩ = some (.int .u32 ot)) := ⟨⟨cell_far HT0.out hs1.ap hSa.out.1, cell_far HT0.out hs1.ap hSa.out.2.1, cell_far HT0.out hs1.ap hSa.out.2.2⟩⟩; have HS1 := Hid3.mk hs1; have HR1 : Hid3 (Rt B W1 b s ∧ Nt B W1) := ⟨by obtain ⟨_, _, hM, _⟩ := HT.out.step1 hs1; exact ⟨hM.r, hM.n⟩⟩; clear hs1)
      | (go_at_call 54; refine (cR B _ b HR1.out.1 HR1.out.2).mono ?_; rintro r W2 ⟨rfl, hs2⟩; have hSc : Hid3 (W2.cell? ⟨w.heap.size, 3, none⟩ = some (.int .u8 ow) ∧ W2.cell? ⟨w.heap.size, 5, none⟩ = some (.int .u32 id) ∧ W2.cell? ⟨w.heap.size, 6, none⟩ = some (.int .u32 ot)) := ⟨⟨cell_stay hSb.out.1 hs2.ap (by omega), cell_stay hSb.out.2.1 hs2.ap (by omega), cell_stay hSb.out.2.2 hs2.ap (by omega)⟩⟩; have HM : Hid3 (Mv B w W2 L b s' s') := ⟨(Mv.mk' HT.out HS1.out hs2).pre HX.out⟩; clear hs2)))
    all_goals (
      go_wp2
      go_ret
      exact ⟨rfl, _, HM.out, HLe.out⟩)
set_option maxHeartbeats 4000000 in
theorem do_3 (B b : Nat) (L : Lo) (s : Xt) (a c : Int) (ow tw id ot : Nat) (n : ByteArray) (rt : BitVec 8) (w : World) (h : Mx B w L b s s) (hl : s.last < 1000000) : Calls Tryd.prog 26 #[.pointer (some ⟨L.t, 0, none⟩), .pointer (some ⟨b, 0, none⟩), .agg #[.int .i64 3, .int .i64 a, .int .i64 c, .int .u8 ow, .int .u8 tw, .int .u32 id, .int .u32 ot, .string n, .int .u8 rt.toNat]] w (DoR B w L b s) := by
  obtain ⟨m, hm⟩ : ∃ m, shortS n = m := ⟨_, rfl⟩
  have hms : m.size ≤ 1000 := by have := shortS_size n; rw [hm] at this; omega
  have hcs := short_cases n
  rw [hm] at hcs
  have hX : Below w.heap.size w (w.alloc (.cells #[.int .i64 3, .int .i64 a, .int .i64 c, .int .u8 ow, .int .u8 tw, .int .u32 id, .int .u32 ot, .string m, .int .u8 rt.toNat] 58)).drew := (below_new w _).drew
  have x3 : (w.alloc (.cells #[.int .i64 3, .int .i64 a, .int .i64 c, .int .u8 ow, .int .u8 tw, .int .u32 id, .int .u32 ot, .string m, .int .u8 rt.toNat] 58)).drew.cell? ⟨w.heap.size, 3, none⟩ = some (.int .u8 ow) := box_cell w [.int .i64 3, .int .i64 a, .int .i64 c, .int .u8 ow, .int .u8 tw, .int .u32 id, .int .u32 ot, .string m, .int .u8 rt.toNat] 58 3 _ rfl
  have x5 : (w.alloc (.cells #[.int .i64 3, .int .i64 a, .int .i64 c, .int .u8 ow, .int .u8 tw, .int .u32 id, .int .u32 ot, .string m, .int .u8 rt.toNat] 58)).drew.cell? ⟨w.heap.size, 5, none⟩ = some (.int .u32 id) := box_cell w [.int .i64 3, .int .i64 a, .int .i64 c, .int .u8 ow, .int .u8 tw, .int .u32 id, .int .u32 ot, .string m, .int .u8 rt.toNat] 58 5 _ rfl
  have HT := Hid3.mk (h.low hX)
  have HX := Hid3.mk hX
  have HT0 := Hid3.mk h.t
  have hBX := HT.out.sz
  obtain ⟨e, s', bb⟩ := free_both s ow id
  have cT := bb.p B _ L HT.out.t hBX
  have cR := bb.r
  have HLe := Hid3.mk bb.n
  have hl1 := h.t.lt (.inl rfl)
  have hl2 := h.r.lt
  have hSa : Hid3 ((w.alloc (.cells #[.int .i64 3, .int .i64 a, .int .i64 c, .int .u8 ow, .int .u8 tw, .int .u32 id, .int .u32 ot, .string m, .int .u8 rt.toNat] 58)).drew.cell? ⟨w.heap.size, 3, none⟩ = some (.int .u8 ow) ∧ (w.alloc (.cells #[.int .i64 3, .int .i64 a, .int .i64 c, .int .u8 ow, .int .u8 tw, .int .u32 id, .int .u32 ot, .string m, .int .u8 rt.toNat] 58)).drew.cell? ⟨w.heap.size, 5, none⟩ = some (.int .u32 id)) := ⟨⟨x3, x5⟩⟩
  have hee : (e == e) = true := by simp
  clear h hX bb hl hms x3 x5
  rcases hcs with ⟨hc1, hc2⟩ | ⟨hc1, hc2⟩
  · have hcz : (300 : Int) < (n.size : Int) := by omega
    clear hc1 hm
    go_enter Tryd.func26, Tryd.ntmps26
    go_wp2_with fail
    go_region_held3 (fun w' => w'.cell? ⟨w.heap.size, 3, none⟩ = some (.int .u8 ow) ∧ w'.cell? ⟨w.heap.size, 5, none⟩ = some (.int .u32 id)) (with_reducible (first | exact hSa.out | exact hSb.out | exact hSc.out)) ((first
      | (go_at_call 18; refine cT.mono ?_; rintro r W1 ⟨rfl, hs1⟩; have hSb : Hid3 (W1.cell? ⟨w.heap.size, 3, none⟩ = some (.int .u8 ow) ∧ W1.cell? ⟨w.heap.size, 5, none⟩ = some (.int .u32 id)) := ⟨⟨cell_far HT0.out hs1.ap hSa.out.1, cell_far HT0.out hs1.ap hSa.out.2⟩⟩; have HS1 := Hid3.mk hs1; have HR1 : Hid3 (Rt B W1 b s ∧ Nt B W1) := ⟨by obtain ⟨_, _, hM, _⟩ := HT.out.step1 hs1; exact ⟨hM.r, hM.n⟩⟩; clear hs1)
      | (go_at_call 55; refine (cR B _ b HR1.out.1 HR1.out.2).mono ?_; rintro r W2 ⟨rfl, hs2⟩; have hSc : Hid3 (W2.cell? ⟨w.heap.size, 3, none⟩ = some (.int .u8 ow) ∧ W2.cell? ⟨w.heap.size, 5, none⟩ = some (.int .u32 id)) := ⟨⟨cell_stay hSb.out.1 hs2.ap (by omega), cell_stay hSb.out.2 hs2.ap (by omega)⟩⟩; have HM : Hid3 (Mv B w W2 L b s' s') := ⟨(Mv.mk' HT.out HS1.out hs2).pre HX.out⟩; clear hs2)))
    all_goals (
      go_wp2
      go_ret
      exact ⟨rfl, _, HM.out, HLe.out⟩)
  · have hcz : ¬ (300 : Int) < (n.size : Int) := by omega
    subst hc2
    clear hc1 hm
    go_enter Tryd.func26, Tryd.ntmps26
    go_wp2_with fail
    go_region_held3 (fun w' => w'.cell? ⟨w.heap.size, 3, none⟩ = some (.int .u8 ow) ∧ w'.cell? ⟨w.heap.size, 5, none⟩ = some (.int .u32 id)) (with_reducible (first | exact hSa.out | exact hSb.out | exact hSc.out)) ((first
      | (go_at_call 18; refine cT.mono ?_; rintro r W1 ⟨rfl, hs1⟩; have hSb : Hid3 (W1.cell? ⟨w.heap.size, 3, none⟩ = some (.int .u8 ow) ∧ W1.cell? ⟨w.heap.size, 5, none⟩ = some (.int .u32 id)) := ⟨⟨cell_far HT0.out hs1.ap hSa.out.1, cell_far HT0.out hs1.ap hSa.out.2⟩⟩; have HS1 := Hid3.mk hs1; have HR1 : Hid3 (Rt B W1 b s ∧ Nt B W1) := ⟨by obtain ⟨_, _, hM, _⟩ := HT.out.step1 hs1; exact ⟨hM.r, hM.n⟩⟩; clear hs1)
      | (go_at_call 55; refine (cR B _ b HR1.out.1 HR1.out.2).mono ?_; rintro r W2 ⟨rfl, hs2⟩; have hSc : Hid3 (W2.cell? ⟨w.heap.size, 3, none⟩ = some (.int .u8 ow) ∧ W2.cell? ⟨w.heap.size, 5, none⟩ = some (.int .u32 id)) := ⟨⟨cell_stay hSb.out.1 hs2.ap (by omega), cell_stay hSb.out.2 hs2.ap (by omega)⟩⟩; have HM : Hid3 (Mv B w W2 L b s' s') := ⟨(Mv.mk' HT.out HS1.out hs2).pre HX.out⟩; clear hs2)))
    all_goals (
      go_wp2
      go_ret
      exact ⟨rfl, _, HM.out, HLe.out⟩)
set_option maxHeartbeats 4000000 in
theorem do_4 (B b : Nat) (L : Lo) (s : Xt) (a c : Int) (ow tw id ot : Nat) (n : ByteArray) (rt : BitVec 8) (w : World) (h : Mx B w L b s s) (hl : s.last < 1000000) : Calls Tryd.prog 26 #[.pointer (some ⟨L.t, 0, none⟩), .pointer (some ⟨b, 0, none⟩), .agg #[.int .i64 4, .int .i64 a, .int .i64 c, .int .u8 ow, .int .u8 tw, .int .u32 id, .int .u32 ot, .string n, .int .u8 rt.toNat]] w (DoR B w L b s) := by
  obtain ⟨m, hm⟩ : ∃ m, shortS n = m := ⟨_, rfl⟩
  have hms : m.size ≤ 1000 := by have := shortS_size n; rw [hm] at this; omega
  have hcs := short_cases n
  rw [hm] at hcs
  have hX : Below w.heap.size w (w.alloc (.cells #[.int .i64 4, .int .i64 a, .int .i64 c, .int .u8 ow, .int .u8 tw, .int .u32 id, .int .u32 ot, .string m, .int .u8 rt.toNat] 58)).drew := (below_new w _).drew
  have x3 : (w.alloc (.cells #[.int .i64 4, .int .i64 a, .int .i64 c, .int .u8 ow, .int .u8 tw, .int .u32 id, .int .u32 ot, .string m, .int .u8 rt.toNat] 58)).drew.cell? ⟨w.heap.size, 3, none⟩ = some (.int .u8 ow) := box_cell w [.int .i64 4, .int .i64 a, .int .i64 c, .int .u8 ow, .int .u8 tw, .int .u32 id, .int .u32 ot, .string m, .int .u8 rt.toNat] 58 3 _ rfl
  have x5 : (w.alloc (.cells #[.int .i64 4, .int .i64 a, .int .i64 c, .int .u8 ow, .int .u8 tw, .int .u32 id, .int .u32 ot, .string m, .int .u8 rt.toNat] 58)).drew.cell? ⟨w.heap.size, 5, none⟩ = some (.int .u32 id) := box_cell w [.int .i64 4, .int .i64 a, .int .i64 c, .int .u8 ow, .int .u8 tw, .int .u32 id, .int .u32 ot, .string m, .int .u8 rt.toNat] 58 5 _ rfl
  have x4 : (w.alloc (.cells #[.int .i64 4, .int .i64 a, .int .i64 c, .int .u8 ow, .int .u8 tw, .int .u32 id, .int .u32 ot, .string m, .int .u8 rt.toNat] 58)).drew.cell? ⟨w.heap.size, 4, none⟩ = some (.int .u8 tw) := box_cell w [.int .i64 4, .int .i64 a, .int .i64 c, .int .u8 ow, .int .u8 tw, .int .u32 id, .int .u32 ot, .string m, .int .u8 rt.toNat] 58 4 _ rfl
  have HT := Hid3.mk (h.low hX)
  have HX := Hid3.mk hX
  have HT0 := Hid3.mk h.t
  have hBX := HT.out.sz
  obtain ⟨e, s', bb⟩ := give_both s ow id tw
  have cT := bb.p B _ L HT.out.t hBX
  have cR := bb.r
  have HLe := Hid3.mk bb.n
  have hl1 := h.t.lt (.inl rfl)
  have hl2 := h.r.lt
  have hSa : Hid3 ((w.alloc (.cells #[.int .i64 4, .int .i64 a, .int .i64 c, .int .u8 ow, .int .u8 tw, .int .u32 id, .int .u32 ot, .string m, .int .u8 rt.toNat] 58)).drew.cell? ⟨w.heap.size, 3, none⟩ = some (.int .u8 ow) ∧ (w.alloc (.cells #[.int .i64 4, .int .i64 a, .int .i64 c, .int .u8 ow, .int .u8 tw, .int .u32 id, .int .u32 ot, .string m, .int .u8 rt.toNat] 58)).drew.cell? ⟨w.heap.size, 5, none⟩ = some (.int .u32 id) ∧ (w.alloc (.cells #[.int .i64 4, .int .i64 a, .int .i64 c, .int .u8 ow, .int .u8 tw, .int .u32 id, .int .u32 ot, .string m, .int .u8 rt.toNat] 58)).drew.cell? ⟨w.heap.size, 4, none⟩ = some (.int .u8 tw)) := ⟨⟨x3, x5, x4⟩⟩
  have hee : (e == e) = true := by simp
  clear h hX bb hl hms x3 x5 x4
  rcases hcs with ⟨hc1, hc2⟩ | ⟨hc1, hc2⟩
  · have hcz : (300 : Int) < (n.size : Int) := by omega
    clear hc1 hm
    go_enter Tryd.func26, Tryd.ntmps26
    go_wp2_with fail
    go_region_held3 (fun w' => w'.cell? ⟨w.heap.size, 3, none⟩ = some (.int .u8 ow) ∧ w'.cell? ⟨w.heap.size, 5, none⟩ = some (.int .u32 id) ∧ w'.cell? ⟨w.heap.size, 4, none⟩ = some (.int .u8 tw)) (with_reducible (first | exact hSa.out | exact hSb.out | exact hSc.out)) ((first
      | (go_at_call 19; refine cT.mono ?_; rintro r W1 ⟨rfl, hs1⟩; have hSb : Hid3 (W1.cell? ⟨w.heap.size, 3, none⟩ = some (.int .u8 ow) ∧ W1.cell? ⟨w.heap.size, 5, none⟩ = some (.int .u32 id) ∧ W1.cell? ⟨w.heap.size, 4, none⟩ = some (.int .u8 tw)) := ⟨⟨cell_far HT0.out hs1.ap hSa.out.1, cell_far HT0.out hs1.ap hSa.out.2.1, cell_far HT0.out hs1.ap hSa.out.2.2⟩⟩; have HS1 := Hid3.mk hs1; have HR1 : Hid3 (Rt B W1 b s ∧ Nt B W1) := ⟨by obtain ⟨_, _, hM, _⟩ := HT.out.step1 hs1; exact ⟨hM.r, hM.n⟩⟩; clear hs1)
      | (go_at_call 56; refine (cR B _ b HR1.out.1 HR1.out.2).mono ?_; rintro r W2 ⟨rfl, hs2⟩; have hSc : Hid3 (W2.cell? ⟨w.heap.size, 3, none⟩ = some (.int .u8 ow) ∧ W2.cell? ⟨w.heap.size, 5, none⟩ = some (.int .u32 id) ∧ W2.cell? ⟨w.heap.size, 4, none⟩ = some (.int .u8 tw)) := ⟨⟨cell_stay hSb.out.1 hs2.ap (by omega), cell_stay hSb.out.2.1 hs2.ap (by omega), cell_stay hSb.out.2.2 hs2.ap (by omega)⟩⟩; have HM : Hid3 (Mv B w W2 L b s' s') := ⟨(Mv.mk' HT.out HS1.out hs2).pre HX.out⟩; clear hs2)))
    all_goals (
      go_wp2
      go_ret
      exact ⟨rfl, _, HM.out, HLe.out⟩)
  · have hcz : ¬ (300 : Int) < (n.size : Int) := by omega
    subst hc2
    clear hc1 hm
    go_enter Tryd.func26, Tryd.ntmps26
    go_wp2_with fail
    go_region_held3 (fun w' => w'.cell? ⟨w.heap.size, 3, none⟩ = some (.int .u8 ow) ∧ w'.cell? ⟨w.heap.size, 5, none⟩ = some (.int .u32 id) ∧ w'.cell? ⟨w.heap.size, 4, none⟩ = some (.int .u8 tw)) (with_reducible (first | exact hSa.out | exact hSb.out | exact hSc.out)) ((first
      | (go_at_call 19; refine cT.mono ?_; rintro r W1 ⟨rfl, hs1⟩; have hSb : Hid3 (W1.cell? ⟨w.heap.size, 3, none⟩ = some (.int .u8 ow) ∧ W1.cell? ⟨w.heap.size, 5, none⟩ = some (.int .u32 id) ∧ W1.cell? ⟨w.heap.size, 4, none⟩ = some (.int .u8 tw)) := ⟨⟨cell_far HT0.out hs1.ap hSa.out.1, cell_far HT0.out hs1.ap hSa.out.2.1, cell_far HT0.out hs1.ap hSa.out.2.2⟩⟩; have HS1 := Hid3.mk hs1; have HR1 : Hid3 (Rt B W1 b s ∧ Nt B W1) := ⟨by obtain ⟨_, _, hM, _⟩ := HT.out.step1 hs1; exact ⟨hM.r, hM.n⟩⟩; clear hs1)
      | (go_at_call 56; refine (cR B _ b HR1.out.1 HR1.out.2).mono ?_; rintro r W2 ⟨rfl, hs2⟩; have hSc : Hid3 (W2.cell? ⟨w.heap.size, 3, none⟩ = some (.int .u8 ow) ∧ W2.cell? ⟨w.heap.size, 5, none⟩ = some (.int .u32 id) ∧ W2.cell? ⟨w.heap.size, 4, none⟩ = some (.int .u8 tw)) := ⟨⟨cell_stay hSb.out.1 hs2.ap (by omega), cell_stay hSb.out.2.1 hs2.ap (by omega), cell_stay hSb.out.2.2 hs2.ap (by omega)⟩⟩; have HM : Hid3 (Mv B w W2 L b s' s') := ⟨(Mv.mk' HT.out HS1.out hs2).pre HX.out⟩; clear hs2)))
    all_goals (
      go_wp2
      go_ret
      exact ⟨rfl, _, HM.out, HLe.out⟩)
set_option maxHeartbeats 4000000 in
theorem do_5 (B b : Nat) (L : Lo) (s : Xt) (a c : Int) (ow tw id ot : Nat) (n : ByteArray) (rt : BitVec 8) (w : World) (h : Mx B w L b s s) (hl : s.last < 1000000) : Calls Tryd.prog 26 #[.pointer (some ⟨L.t, 0, none⟩), .pointer (some ⟨b, 0, none⟩), .agg #[.int .i64 5, .int .i64 a, .int .i64 c, .int .u8 ow, .int .u8 tw, .int .u32 id, .int .u32 ot, .string n, .int .u8 rt.toNat]] w (DoR B w L b s) := by
  obtain ⟨m, hm⟩ : ∃ m, shortS n = m := ⟨_, rfl⟩
  have hms : m.size ≤ 1000 := by have := shortS_size n; rw [hm] at this; omega
  have hcs := short_cases n
  rw [hm] at hcs
  have hX : Below w.heap.size w (w.alloc (.cells #[.int .i64 5, .int .i64 a, .int .i64 c, .int .u8 ow, .int .u8 tw, .int .u32 id, .int .u32 ot, .string m, .int .u8 rt.toNat] 58)).drew := (below_new w _).drew
  have x3 : (w.alloc (.cells #[.int .i64 5, .int .i64 a, .int .i64 c, .int .u8 ow, .int .u8 tw, .int .u32 id, .int .u32 ot, .string m, .int .u8 rt.toNat] 58)).drew.cell? ⟨w.heap.size, 3, none⟩ = some (.int .u8 ow) := box_cell w [.int .i64 5, .int .i64 a, .int .i64 c, .int .u8 ow, .int .u8 tw, .int .u32 id, .int .u32 ot, .string m, .int .u8 rt.toNat] 58 3 _ rfl
  have x5 : (w.alloc (.cells #[.int .i64 5, .int .i64 a, .int .i64 c, .int .u8 ow, .int .u8 tw, .int .u32 id, .int .u32 ot, .string m, .int .u8 rt.toNat] 58)).drew.cell? ⟨w.heap.size, 5, none⟩ = some (.int .u32 id) := box_cell w [.int .i64 5, .int .i64 a, .int .i64 c, .int .u8 ow, .int .u8 tw, .int .u32 id, .int .u32 ot, .string m, .int .u8 rt.toNat] 58 5 _ rfl
  have x1 : (w.alloc (.cells #[.int .i64 5, .int .i64 a, .int .i64 c, .int .u8 ow, .int .u8 tw, .int .u32 id, .int .u32 ot, .string m, .int .u8 rt.toNat] 58)).drew.cell? ⟨w.heap.size, 1, none⟩ = some (.int .i64 a) := box_cell w [.int .i64 5, .int .i64 a, .int .i64 c, .int .u8 ow, .int .u8 tw, .int .u32 id, .int .u32 ot, .string m, .int .u8 rt.toNat] 58 1 _ rfl
  have HT := Hid3.mk (h.low hX)
  have HX := Hid3.mk hX
  have HT0 := Hid3.mk h.t
  have hBX := HT.out.sz
  obtain ⟨e, s', bb⟩ := grow_both s h.t.ok ow id a
  have cT := bb.p B _ L HT.out.t hBX
  have cR := bb.r
  have HLe := Hid3.mk bb.n
  have hl1 := h.t.lt (.inl rfl)
  have hl2 := h.r.lt
  have hSa : Hid3 ((w.alloc (.cells #[.int .i64 5, .int .i64 a, .int .i64 c, .int .u8 ow, .int .u8 tw, .int .u32 id, .int .u32 ot, .string m, .int .u8 rt.toNat] 58)).drew.cell? ⟨w.heap.size, 3, none⟩ = some (.int .u8 ow) ∧ (w.alloc (.cells #[.int .i64 5, .int .i64 a, .int .i64 c, .int .u8 ow, .int .u8 tw, .int .u32 id, .int .u32 ot, .string m, .int .u8 rt.toNat] 58)).drew.cell? ⟨w.heap.size, 5, none⟩ = some (.int .u32 id) ∧ (w.alloc (.cells #[.int .i64 5, .int .i64 a, .int .i64 c, .int .u8 ow, .int .u8 tw, .int .u32 id, .int .u32 ot, .string m, .int .u8 rt.toNat] 58)).drew.cell? ⟨w.heap.size, 1, none⟩ = some (.int .i64 a)) := ⟨⟨x3, x5, x1⟩⟩
  have hee : (e == e) = true := by simp
  clear h hX bb hl hms x3 x5 x1
  rcases hcs with ⟨hc1, hc2⟩ | ⟨hc1, hc2⟩
  · have hcz : (300 : Int) < (n.size : Int) := by omega
    clear hc1 hm
    go_enter Tryd.func26, Tryd.ntmps26
    go_wp2_with fail
    go_region_held3 (fun w' => w'.cell? ⟨w.heap.size, 3, none⟩ = some (.int .u8 ow) ∧ w'.cell? ⟨w.heap.size, 5, none⟩ = some (.int .u32 id) ∧ w'.cell? ⟨w.heap.size, 1, none⟩ = some (.int .i64 a)) (with_reducible (first | exact hSa.out | exact hSb.out | exact hSc.out)) ((first
      | (go_at_call 20; refine cT.mono ?_; rintro r W1 ⟨rfl, hs1⟩; have hSb : Hid3 (W1.cell? ⟨w.heap.size, 3, none⟩ = some (.int .u8 ow) ∧ W1.cell? ⟨w.heap.size, 5, none⟩ = some (.int .u32 id) ∧ W1.cell? ⟨w.heap.size, 1, none⟩ = some (.int .i64 a)) := ⟨⟨cell_far HT0.out hs1.ap hSa.out.1, cell_far HT0.out hs1.ap hSa.out.2.1, cell_far HT0.out hs1.ap hSa.out.2.2⟩⟩; have HS1 := Hid3.mk hs1; have HR1 : Hid3 (Rt B W1 b s ∧ Nt B W1) := ⟨by obtain ⟨_, _, hM, _⟩ := HT.out.step1 hs1; exact ⟨hM.r, hM.n⟩⟩; clear hs1)
      | (go_at_call 57; refine (cR B _ b HR1.out.1 HR1.out.2).mono ?_; rintro r W2 ⟨rfl, hs2⟩; have hSc : Hid3 (W2.cell? ⟨w.heap.size, 3, none⟩ = some (.int .u8 ow) ∧ W2.cell? ⟨w.heap.size, 5, none⟩ = some (.int .u32 id) ∧ W2.cell? ⟨w.heap.size, 1, none⟩ = some (.int .i64 a)) := ⟨⟨cell_stay hSb.out.1 hs2.ap (by omega), cell_stay hSb.out.2.1 hs2.ap (by omega), cell_stay hSb.out.2.2 hs2.ap (by omega)⟩⟩; have HM : Hid3 (Mv B w W2 L b s' s') := ⟨(Mv.mk' HT.out HS1.out hs2).pre HX.out⟩; clear hs2)))
    all_goals (
      go_wp2
      go_ret
      exact ⟨rfl, _, HM.out, HLe.out⟩)
  · have hcz : ¬ (300 : Int) < (n.size : Int) := by omega
    subst hc2
    clear hc1 hm
    go_enter Tryd.func26, Tryd.ntmps26
    go_wp2_with fail
    go_region_held3 (fun w' => w'.cell? ⟨w.heap.size, 3, none⟩ = some (.int .u8 ow) ∧ w'.cell? ⟨w.heap.size, 5, none⟩ = some (.int .u32 id) ∧ w'.cell? ⟨w.heap.size, 1, none⟩ = some (.int .i64 a)) (with_reducible (first | exact hSa.out | exact hSb.out | exact hSc.out)) ((first
      | (go_at_call 20; refine cT.mono ?_; rintro r W1 ⟨rfl, hs1⟩; have hSb : Hid3 (W1.cell? ⟨w.heap.size, 3, none⟩ = some (.int .u8 ow) ∧ W1.cell? ⟨w.heap.size, 5, none⟩ = some (.int .u32 id) ∧ W1.cell? ⟨w.heap.size, 1, none⟩ = some (.int .i64 a)) := ⟨⟨cell_far HT0.out hs1.ap hSa.out.1, cell_far HT0.out hs1.ap hSa.out.2.1, cell_far HT0.out hs1.ap hSa.out.2.2⟩⟩; have HS1 := Hid3.mk hs1; have HR1 : Hid3 (Rt B W1 b s ∧ Nt B W1) := ⟨by obtain ⟨_, _, hM, _⟩ := HT.out.step1 hs1; exact ⟨hM.r, hM.n⟩⟩; clear hs1)
      | (go_at_call 57; refine (cR B _ b HR1.out.1 HR1.out.2).mono ?_; rintro r W2 ⟨rfl, hs2⟩; have hSc : Hid3 (W2.cell? ⟨w.heap.size, 3, none⟩ = some (.int .u8 ow) ∧ W2.cell? ⟨w.heap.size, 5, none⟩ = some (.int .u32 id) ∧ W2.cell? ⟨w.heap.size, 1, none⟩ = some (.int .i64 a)) := ⟨⟨cell_stay hSb.out.1 hs2.ap (by omega), cell_stay hSb.out.2.1 hs2.ap (by omega), cell_stay hSb.out.2.2 hs2.ap (by omega)⟩⟩; have HM : Hid3 (Mv B w W2 L b s' s') := ⟨(Mv.mk' HT.out HS1.out hs2).pre HX.out⟩; clear hs2)))
    all_goals (
      go_wp2
      go_ret
      exact ⟨rfl, _, HM.out, HLe.out⟩)
set_option maxHeartbeats 2000000 in
theorem do_else (B b : Nat) (L : Lo) (s : Xt) (k : Int) (a c : Int) (ow tw id ot : Nat) (n : ByteArray) (rt : BitVec 8) (w : World) (h : Mx B w L b s s) (hl : s.last < 1000000) (h0 : k ≠ 0) (h1 : k ≠ 1) (h2 : k ≠ 2) (h3 : k ≠ 3) (h4 : k ≠ 4) (h5 : k ≠ 5) : Calls Tryd.prog 26 #[.pointer (some ⟨L.t, 0, none⟩), .pointer (some ⟨b, 0, none⟩), .agg #[.int .i64 k, .int .i64 a, .int .i64 c, .int .u8 ow, .int .u8 tw, .int .u32 id, .int .u32 ot, .string n, .int .u8 rt.toNat]] w (DoR B w L b s) := by
  obtain ⟨m, hm⟩ : ∃ m, shortS n = m := ⟨_, rfl⟩
  have hcs := short_cases n
  rw [hm] at hcs
  have HM : Hid3 (Mv B w (w.alloc (.cells #[.int .i64 k, .int .i64 a, .int .i64 c, .int .u8 ow, .int .u8 tw, .int .u32 id, .int .u32 ot, .string m, .int .u8 rt.toNat] 58)) L b s s) := ⟨Mv.same h (below_new w _)⟩
  clear h hl
  rcases hcs with ⟨hc1, hc2⟩ | ⟨hc1, hc2⟩
  · have hcz : (300 : Int) < (n.size : Int) := by omega
    clear hc1 hm
    go_enter Tryd.func26, Tryd.ntmps26
    go_wp2
    go_ret
    exact ⟨rfl, s, HM.out, Nx.refl s⟩
  · have hcz : ¬ (300 : Int) < (n.size : Int) := by omega
    subst hc2
    clear hc1 hm
    go_enter Tryd.func26, Tryd.ntmps26
    go_wp2
    go_ret
    exact ⟨rfl, s, HM.out, Nx.refl s⟩
theorem do_any (B b : Nat) (L : Lo) (s : Xt) (d : Dd) (w : World) (h : Mx B w L b s s) (hl : s.last < 1000000) : Calls Tryd.prog 26 #[.pointer (some ⟨L.t, 0, none⟩), .pointer (some ⟨b, 0, none⟩), d.V] w (DoR B w L b s) := by
  obtain ⟨k, a, c, ow, tw, id, ot, n, rt, ha⟩ := d
  by_cases h0 : k = 0
  · subst h0; exact do_0 B b L s a c ow tw id ot n rt w h hl ha
  by_cases h1 : k = 1
  · subst h1; exact do_1 B b L s a c ow tw id ot n rt w h hl
  by_cases h2 : k = 2
  · subst h2; exact do_2 B b L s a c ow tw id ot n rt w h hl
  by_cases h3 : k = 3
  · subst h3; exact do_3 B b L s a c ow tw id ot n rt w h hl
  by_cases h4 : k = 4
  · subst h4; exact do_4 B b L s a c ow tw id ot n rt w h hl
  by_cases h5 : k = 5
  · subst h5; exact do_5 B b L s a c ow tw id ot n rt w h hl
  exact do_else B b L s k a c ow tw id ot n rt w h hl h0 h1 h2 h3 h4 h5
end Go.Proofs.YtmepnnlmhlndmaaDoor
