/- ExtentNone: the walk. -/
import Derived.Test.YtmepnnlmhlndmabExNi
import Derived.Test.YtmepnnlmhlndmabEyC
import Derived.Test.YtmepnnlmhlndmabEzQ
namespace Go.Proofs.Ytmepnnlmhlndmab
open Go.RowKit Go.Shelf Go.Maps
set_option linter.unusedVariables false
set_option maxRecDepth 100000
theorem eqGuardE : Try.prog.eqGuardType Try.prog.depth 33 = false := by kernel_rfl
set_option maxHeartbeats 2000000 in
theorem eqCk (k : Nat) (w : World) (n m : ByteArray) (r q : Int) : (Op.equalIn (k + 1 + 1) 24 (.agg #[.string n, .int .u8 r]) (.agg #[.string m, .int .u8 q])).run Try.prog w = .ok (n.toList == m.toList && r == q) w := by
  rw [Op.equalIn]
  simp only [Sem.run_bind, run_underlying Try.underlying24, Result.andThen_ok]
  cases h0 : (n.toList == m.toList) <;> by_cases h1 : r = q <;> simp [go_sem, h0, h1]
set_option maxHeartbeats 4000000 in
theorem eqE (w : World) (i s l o : Int) (n : ByteArray) (r : Int) : (Op.equalIn 10000 33 (.agg #[.int .u32 i, .int .i64 s, .int .i64 l, .int .u8 o, .string n, .int .u8 r]) (.agg #[.int .u32 i, .int .i64 s, .int .i64 l, .int .u8 o, .string n, .int .u8 r])).run Try.prog w = .ok true w := by
  have hC := fun W => eqCk (9996 + 1) W n n r r
  show (Op.equalIn (9996 + 1 + 1 + 1 + 1) 33 _ _).run Try.prog w = _
  rw [Op.equalIn]
  simp only [Sem.run_bind, run_underlying Try.underlying33, Result.andThen_ok]
  simp [go_sem, hC]
theorem had_nil (ow id : Int) (w : World) : Calls Try.prog 25 #[.pointer none, .int .u8 ow, .int .u32 id] w fun e w' => e = .returned (.tuple #[.pointer none, .int .i64 1]) ∧ Below w.heap.size w w' := by
  go_enter Try.func25, Try.ntmps25
  go_wp2
  go_ret2
  exact ⟨rfl, Below.refl _ _⟩
theorem alloc_nil (ow st k : Int) (n : ByteArray) (r : Int) (w : World) : Calls Try.prog 4 #[.pointer none, .int .u8 ow, .int .i64 st, .int .i64 k, .agg #[.string n, .int .u8 r]] w fun e w' => e = .returned (.tuple #[.int .u32 0, .int .i64 1]) ∧ Below w.heap.size w w' := by
  go_enter Try.func4, Try.ntmps4
  go_wp2
  go_ret2
  exact ⟨rfl, by first | exact Below.refl _ _ | exact below_new w _ | exact ((Below.refl _ w).alloc (Nat.le_refl _) _).alloc (by simp) _⟩
theorem split_nil (ow id a : Int) (w : World) : Calls Try.prog 5 #[.pointer none, .int .u8 ow, .int .u32 id, .int .i64 a] w fun e w' => e = .returned (.tuple #[.int .u32 0, .int .i64 1]) ∧ Below w.heap.size w w' := by
  have c := had_nil ow id w
  go_enter Try.func5, Try.ntmps5
  go_wp2_with fail
  refine c.mono ?_
  rintro e W1 ⟨rfl, hB⟩
  have HB := Hid3.mk hB
  clear c hB
  go_wp2
  go_ret2
  exact ⟨rfl, HB.out⟩
theorem merge_nil (ow a b : Int) (w : World) : Calls Try.prog 10 #[.pointer none, .int .u8 ow, .int .u32 a, .int .u32 b] w fun e w' => e = .returned (.int .i64 1) ∧ Below w.heap.size w w' := by
  have c := had_nil ow a w
  go_enter Try.func10, Try.ntmps10
  go_wp2_with fail
  refine c.mono ?_
  rintro e W1 ⟨rfl, hB⟩
  have HB := Hid3.mk hB
  clear c hB
  go_wp2
  go_ret
  exact ⟨rfl, HB.out⟩
theorem free_nil (ow a : Int) (w : World) : Calls Try.prog 11 #[.pointer none, .int .u8 ow, .int .u32 a] w fun e w' => e = .returned (.int .i64 1) ∧ Below w.heap.size w w' := by
  have c := had_nil ow a w
  go_enter Try.func11, Try.ntmps11
  go_wp2_with fail
  refine c.mono ?_
  rintro e W1 ⟨rfl, hB⟩
  have HB := Hid3.mk hB
  clear c hB
  go_wp2
  go_ret
  exact ⟨rfl, HB.out⟩
theorem give_nil (ow a tw : Int) (w : World) : Calls Try.prog 12 #[.pointer none, .int .u8 ow, .int .u32 a, .int .u8 tw] w fun e w' => e = .returned (.int .i64 1) ∧ Below w.heap.size w w' := by
  have c := had_nil ow a w
  go_enter Try.func12, Try.ntmps12
  go_wp2_with fail
  refine c.mono ?_
  rintro e W1 ⟨rfl, hB⟩
  have HB := Hid3.mk hB
  clear c hB
  go_wp2
  go_ret
  exact ⟨rfl, HB.out⟩
theorem grow_nil (ow a b : Int) (w : World) : Calls Try.prog 13 #[.pointer none, .int .u8 ow, .int .u32 a, .int .i64 b] w fun e w' => e = .returned (.int .i64 1) ∧ Below w.heap.size w w' := by
  have c := had_nil ow a w
  go_enter Try.func13, Try.ntmps13
  go_wp2_with fail
  refine c.mono ?_
  rintro e W1 ⟨rfl, hB⟩
  have HB := Hid3.mk hB
  clear c hB
  go_wp2
  go_ret
  exact ⟨rfl, HB.out⟩
theorem room_nil (m : Int) (w : World) : Calls Try.prog 8 #[.pointer none, .int .i64 m] w fun e w' => e = .returned (.tuple #[.int .i64 0, .int .i64 1]) ∧ Below w.heap.size w w' := by
  have HB : Hid3 (Below w.heap.size w (((w.alloc (.cells #[.int .i64 m] 3)).alloc (.cells #[.int .i64 0] 3)).alloc (.cells #[.int .i64 1] 28))) := ⟨(((Below.refl _ w).alloc (Nat.le_refl _) _).alloc (by simp) _).alloc (by simp; omega) _⟩
  go_enter Try.func8, Try.ntmps8
  go_wp2
  refine bodyPost_ret (v := .tuple #[.int .i64 0, .int .i64 1]) (by simp [results, Try.f8, go_sem]) rfl ?_
  exact ⟨rfl, HB.out⟩
theorem left_nil (w : World) : Calls Try.prog 16 #[.pointer none] w fun e w' => e = .returned (.int .i64 0) ∧ Below w.heap.size w w' := by
  go_enter Try.func16, Try.ntmps16
  go_wp2
  go_ret
  exact ⟨rfl, Below.refl _ _⟩
theorem fork_nil (w : World) : Calls Try.prog 17 #[.pointer none] w fun e w' => e = .returned (.pointer none) ∧ Below w.heap.size w w' := by
  go_enter Try.func17, Try.ntmps17
  go_wp2
  go_ret
  exact ⟨rfl, Below.refl _ _⟩
/-- A deed, as it is handed over. -/
structure Dn where
  k : Int
  a : Int
  c : Int
  ow : Int
  tw : Int
  id : Int
  ot : Int
  n : ByteArray
  r : Int
def Dn.vs (d : Dn) : List Value := [.int .i64 d.k, .int .i64 d.a, .int .i64 d.c, .int .u8 d.ow, .int .u8 d.tw, .int .u32 d.id, .int .u32 d.ot, .string d.n, .int .u8 d.r]
def Dn.V (d : Dn) : Value := .agg #[.int .i64 d.k, .int .i64 d.a, .int .i64 d.c, .int .u8 d.ow, .int .u8 d.tw, .int .u32 d.id, .int .u32 d.ot, .string d.n, .int .u8 d.r]
structure Kn (w W : World) (d : Dn) : Prop where
  bl : Below w.heap.size w W
  c : Cl W w.heap.size 26 d.vs
theorem Kn.low {w W W' : World} {d : Dn} (h : Kn w W d) (k : Below W.heap.size W W') : Kn w W' d := ⟨h.bl.trans (k.mono h.bl.size), h.c.below k⟩
structure Kz (w W : World) (d : Dn) (p q : Nat) : Prop where
  k : Kn w W d
  p : Cl W p 33 [.int .u32 0, .int .i64 0, .int .i64 0, .int .u8 0, .string ⟨#[]⟩, .int .u8 0]
  q : Cl W q 33 [.int .u32 0, .int .i64 0, .int .i64 0, .int .u8 0, .string ⟨#[]⟩, .int .u8 0]
theorem Kz.low {w W W' : World} {d : Dn} {p q : Nat} (h : Kz w W d p q) (k : Below W.heap.size W W') : Kz w W' d p q := ⟨h.k.low k, h.p.below k, h.q.below k⟩
theorem Dn.new (d : Dn) (w : World) : Kn w (w.alloc (.cells #[.int .i64 d.k, .int .i64 d.a, .int .i64 d.c, .int .u8 d.ow, .int .u8 d.tw, .int .u32 d.id, .int .u32 d.ot, .string d.n, .int .u8 d.r] 26)) d := ⟨below_new w _, Cl.new w _ d.vs⟩
set_option maxHeartbeats 8000000 in
theorem none_bad (d : Dn) (n : Int) (w : World) (hn : n < 1 ∨ 64 < n) : Calls Try.prog 3 #[d.V, .int .i64 n] w fun e w' => e = .returned (.bool true) ∧ Below w.heap.size w w' := by
  have K0 := Hid3.mk (d.new w)
  have eG := eqGuardE
  have eM := fun W => eqE W 0 0 0 0 ⟨#[]⟩ 0
  have hz0 : (w.alloc (.cells #[.int .i64 d.k, .int .i64 d.a, .int .i64 d.c, .int .u8 d.ow, .int .u8 d.tw, .int .u32 d.id, .int .u32 d.ot, .string d.n, .int .u8 d.r] 26)).heap.size = w.heap.size + 1 := by simp
  unfold Dn.V
  go_enter Try.func3, Try.ntmps3
  have c0 := alloc_nil d.ow d.a d.c d.n d.r (w.alloc (.cells #[.int .i64 d.k, .int .i64 d.a, .int .i64 d.c, .int .u8 d.ow, .int .u8 d.tw, .int .u32 d.id, .int .u32 d.ot, .string d.n, .int .u8 d.r] 26))
  go_wp2_with fail
  refine c0.mono ?_
  rintro e W1 ⟨rfl, hb⟩
  have K1 := Hid3.mk (K0.out.low hb)
  clear c0 hb K0 hz0
  have x1 := K1.out.c.cell 1
  have x2 := K1.out.c.cell 2
  have x3 := K1.out.c.cell 3
  have x4 := K1.out.c.cell 4
  have x5 := K1.out.c.cell 5
  have x6 := K1.out.c.cell 6
  have x7 := K1.out.c.cell 7
  have x8 := K1.out.c.cell 8
  have xl := K1.out.c.lt
  simp only [List.getElem?_cons_zero, List.getElem?_cons_succ, Dn.vs] at x1 x2 x3 x4 x5 x6 x7 x8
  have c1 := split_nil d.ow d.id d.a W1
  go_wp2_with fail
  refine c1.mono ?_
  rintro e W2 ⟨rfl, hb⟩
  have K2 := Hid3.mk (K1.out.low hb)
  clear c1 hb K1 x1 x2 x3 x4 x5 x6 x7 x8 xl
  have x1 := K2.out.c.cell 1
  have x2 := K2.out.c.cell 2
  have x3 := K2.out.c.cell 3
  have x4 := K2.out.c.cell 4
  have x5 := K2.out.c.cell 5
  have x6 := K2.out.c.cell 6
  have x7 := K2.out.c.cell 7
  have x8 := K2.out.c.cell 8
  have xl := K2.out.c.lt
  simp only [List.getElem?_cons_zero, List.getElem?_cons_succ, Dn.vs] at x1 x2 x3 x4 x5 x6 x7 x8
  have c2 := get_nil d.id W2
  have hE : exV zEx = .agg #[.int .u32 0, .int .i64 0, .int .i64 0, .int .u8 0, .string ⟨#[]⟩, .int .u8 0] := rfl
  rw [hE] at c2
  go_wp2_with fail
  refine c2.mono ?_
  rintro e W3 ⟨rfl, hb⟩
  have K3 := Hid3.mk (K2.out.low hb)
  have hb2 := below_new W3 (.cells #[.int .u32 0, .int .i64 0, .int .i64 0, .int .u8 0, .string ⟨#[]⟩, .int .u8 0] 33)
  have Z3 := Hid3.mk (Cl.new W3 33 [.int .u32 0, .int .i64 0, .int .i64 0, .int .u8 0, .string ⟨#[]⟩, .int .u8 0])
  have K4 := Hid3.mk (K3.out.low hb2)
  have c3 := at_nil d.a (W3.alloc (.cells #[.int .u32 0, .int .i64 0, .int .i64 0, .int .u8 0, .string ⟨#[]⟩, .int .u8 0] 33))
  rw [hE] at c3
  clear c2 hb hb2 K2 x1 x2 x3 x4 x5 x6 x7 x8 xl
  have x1 := K3.out.c.cell 1
  have x2 := K3.out.c.cell 2
  have x3 := K3.out.c.cell 3
  have x4 := K3.out.c.cell 4
  have x5 := K3.out.c.cell 5
  have x6 := K3.out.c.cell 6
  have x7 := K3.out.c.cell 7
  have x8 := K3.out.c.cell 8
  have xl := K3.out.c.lt
  simp only [List.getElem?_cons_zero, List.getElem?_cons_succ, Dn.vs] at x1 x2 x3 x4 x5 x6 x7 x8
  go_wp2_with fail
  refine c3.mono ?_
  rintro e W5 ⟨rfl, hb⟩
  have K5 := Hid3.mk (K4.out.low hb)
  have Z5 := Hid3.mk (Z3.out.below hb)
  generalize W3.heap.size = p at *
  have hb2 := below_new W5 (.cells #[.int .u32 0, .int .i64 0, .int .i64 0, .int .u8 0, .string ⟨#[]⟩, .int .u8 0] 33)
  have K6 : Hid3 (Kz w (W5.alloc (.cells #[.int .u32 0, .int .i64 0, .int .i64 0, .int .u8 0, .string ⟨#[]⟩, .int .u8 0] 33)) d p W5.heap.size) := ⟨⟨K5.out.low hb2, Z5.out.below hb2, Cl.new W5 33 [.int .u32 0, .int .i64 0, .int .i64 0, .int .u8 0, .string ⟨#[]⟩, .int .u8 0]⟩⟩
  have c4 := room_nil d.a (W5.alloc (.cells #[.int .u32 0, .int .i64 0, .int .i64 0, .int .u8 0, .string ⟨#[]⟩, .int .u8 0] 33))
  clear c3 hb hb2 K3 K4 Z3 x1 x2 x3 x4 x5 x6 x7 x8 xl
  have x1 := K5.out.c.cell 1
  have x2 := K5.out.c.cell 2
  have x3 := K5.out.c.cell 3
  have x4 := K5.out.c.cell 4
  have x5 := K5.out.c.cell 5
  have x6 := K5.out.c.cell 6
  have x7 := K5.out.c.cell 7
  have x8 := K5.out.c.cell 8
  have xl := K5.out.c.lt
  simp only [List.getElem?_cons_zero, List.getElem?_cons_succ, Dn.vs] at x1 x2 x3 x4 x5 x6 x7 x8
  go_wp2_with fail
  refine c4.mono ?_
  rintro e W7 ⟨rfl, hb⟩
  have K7 := Hid3.mk (K6.out.low hb)
  clear c4 hb K5 K6 Z5 hE x1 x2 x3 x4 x5 x6 x7 x8 xl
  generalize W5.heap.size = q at *
  have c7 := live_any W7
  have x1 := K7.out.k.c.cell 1
  have x2 := K7.out.k.c.cell 2
  have x3 := K7.out.k.c.cell 3
  have x4 := K7.out.k.c.cell 4
  have x5 := K7.out.k.c.cell 5
  have x6 := K7.out.k.c.cell 6
  have x7 := K7.out.k.c.cell 7
  have x8 := K7.out.k.c.cell 8
  have xl := K7.out.k.c.lt
  simp only [List.getElem?_cons_zero, List.getElem?_cons_succ, Dn.vs] at x1 x2 x3 x4 x5 x6 x7 x8
  have p0 := K7.out.p.cell 0
  have p1 := K7.out.p.cell 1
  have p2 := K7.out.p.cell 2
  have p3 := K7.out.p.cell 3
  have p4 := K7.out.p.cell 4
  have p5 := K7.out.p.cell 5
  have pl := K7.out.p.lt
  have q0 := K7.out.q.cell 0
  have q1 := K7.out.q.cell 1
  have q2 := K7.out.q.cell 2
  have q3 := K7.out.q.cell 3
  have q4 := K7.out.q.cell 4
  have q5 := K7.out.q.cell 5
  have ql := K7.out.q.lt
  simp only [List.getElem?_cons_zero, List.getElem?_cons_succ] at p0 p1 p2 p3 p4 p5 q0 q1 q2 q3 q4 q5
  go_wp2_with fail
  refine c7.mono ?_
  rintro e W8 ⟨rfl, hb⟩
  have K8 := Hid3.mk (K7.out.low hb)
  clear c7 hb K7 x1 x2 x3 x4 x5 x6 x7 x8 xl p0 p1 p2 p3 p4 p5 pl q0 q1 q2 q3 q4 q5 ql
  have c8 := merge_nil d.ow d.id d.ot W8
  have x1 := K8.out.k.c.cell 1
  have x2 := K8.out.k.c.cell 2
  have x3 := K8.out.k.c.cell 3
  have x4 := K8.out.k.c.cell 4
  have x5 := K8.out.k.c.cell 5
  have x6 := K8.out.k.c.cell 6
  have x7 := K8.out.k.c.cell 7
  have x8 := K8.out.k.c.cell 8
  have xl := K8.out.k.c.lt
  simp only [List.getElem?_cons_zero, List.getElem?_cons_succ, Dn.vs] at x1 x2 x3 x4 x5 x6 x7 x8
  have p0 := K8.out.p.cell 0
  have p1 := K8.out.p.cell 1
  have p2 := K8.out.p.cell 2
  have p3 := K8.out.p.cell 3
  have p4 := K8.out.p.cell 4
  have p5 := K8.out.p.cell 5
  have pl := K8.out.p.lt
  have q0 := K8.out.q.cell 0
  have q1 := K8.out.q.cell 1
  have q2 := K8.out.q.cell 2
  have q3 := K8.out.q.cell 3
  have q4 := K8.out.q.cell 4
  have q5 := K8.out.q.cell 5
  have ql := K8.out.q.lt
  simp only [List.getElem?_cons_zero, List.getElem?_cons_succ] at p0 p1 p2 p3 p4 p5 q0 q1 q2 q3 q4 q5
  go_wp2_with fail
  refine c8.mono ?_
  rintro e W9 ⟨rfl, hb⟩
  have K9 := Hid3.mk (K8.out.low hb)
  clear c8 hb K8 x1 x2 x3 x4 x5 x6 x7 x8 xl p0 p1 p2 p3 p4 p5 pl q0 q1 q2 q3 q4 q5 ql
  have c9 := free_nil d.ow d.id W9
  have x1 := K9.out.k.c.cell 1
  have x2 := K9.out.k.c.cell 2
  have x3 := K9.out.k.c.cell 3
  have x4 := K9.out.k.c.cell 4
  have x5 := K9.out.k.c.cell 5
  have x6 := K9.out.k.c.cell 6
  have x7 := K9.out.k.c.cell 7
  have x8 := K9.out.k.c.cell 8
  have xl := K9.out.k.c.lt
  simp only [List.getElem?_cons_zero, List.getElem?_cons_succ, Dn.vs] at x1 x2 x3 x4 x5 x6 x7 x8
  have p0 := K9.out.p.cell 0
  have p1 := K9.out.p.cell 1
  have p2 := K9.out.p.cell 2
  have p3 := K9.out.p.cell 3
  have p4 := K9.out.p.cell 4
  have p5 := K9.out.p.cell 5
  have pl := K9.out.p.lt
  have q0 := K9.out.q.cell 0
  have q1 := K9.out.q.cell 1
  have q2 := K9.out.q.cell 2
  have q3 := K9.out.q.cell 3
  have q4 := K9.out.q.cell 4
  have q5 := K9.out.q.cell 5
  have ql := K9.out.q.lt
  simp only [List.getElem?_cons_zero, List.getElem?_cons_succ] at p0 p1 p2 p3 p4 p5 q0 q1 q2 q3 q4 q5
  go_wp2_with fail
  refine c9.mono ?_
  rintro e W10 ⟨rfl, hb⟩
  have K10 := Hid3.mk (K9.out.low hb)
  clear c9 hb K9 x1 x2 x3 x4 x5 x6 x7 x8 xl p0 p1 p2 p3 p4 p5 pl q0 q1 q2 q3 q4 q5 ql
  have c10 := give_nil d.ow d.id d.tw W10
  have x1 := K10.out.k.c.cell 1
  have x2 := K10.out.k.c.cell 2
  have x3 := K10.out.k.c.cell 3
  have x4 := K10.out.k.c.cell 4
  have x5 := K10.out.k.c.cell 5
  have x6 := K10.out.k.c.cell 6
  have x7 := K10.out.k.c.cell 7
  have x8 := K10.out.k.c.cell 8
  have xl := K10.out.k.c.lt
  simp only [List.getElem?_cons_zero, List.getElem?_cons_succ, Dn.vs] at x1 x2 x3 x4 x5 x6 x7 x8
  have p0 := K10.out.p.cell 0
  have p1 := K10.out.p.cell 1
  have p2 := K10.out.p.cell 2
  have p3 := K10.out.p.cell 3
  have p4 := K10.out.p.cell 4
  have p5 := K10.out.p.cell 5
  have pl := K10.out.p.lt
  have q0 := K10.out.q.cell 0
  have q1 := K10.out.q.cell 1
  have q2 := K10.out.q.cell 2
  have q3 := K10.out.q.cell 3
  have q4 := K10.out.q.cell 4
  have q5 := K10.out.q.cell 5
  have ql := K10.out.q.lt
  simp only [List.getElem?_cons_zero, List.getElem?_cons_succ] at p0 p1 p2 p3 p4 p5 q0 q1 q2 q3 q4 q5
  go_wp2_with fail
  refine c10.mono ?_
  rintro e W11 ⟨rfl, hb⟩
  have K11 := Hid3.mk (K10.out.low hb)
  clear c10 hb K10 x1 x2 x3 x4 x5 x6 x7 x8 xl p0 p1 p2 p3 p4 p5 pl q0 q1 q2 q3 q4 q5 ql
  have c11 := grow_nil d.ow d.id d.a W11
  have x1 := K11.out.k.c.cell 1
  have x2 := K11.out.k.c.cell 2
  have x3 := K11.out.k.c.cell 3
  have x4 := K11.out.k.c.cell 4
  have x5 := K11.out.k.c.cell 5
  have x6 := K11.out.k.c.cell 6
  have x7 := K11.out.k.c.cell 7
  have x8 := K11.out.k.c.cell 8
  have xl := K11.out.k.c.lt
  simp only [List.getElem?_cons_zero, List.getElem?_cons_succ, Dn.vs] at x1 x2 x3 x4 x5 x6 x7 x8
  have p0 := K11.out.p.cell 0
  have p1 := K11.out.p.cell 1
  have p2 := K11.out.p.cell 2
  have p3 := K11.out.p.cell 3
  have p4 := K11.out.p.cell 4
  have p5 := K11.out.p.cell 5
  have pl := K11.out.p.lt
  have q0 := K11.out.q.cell 0
  have q1 := K11.out.q.cell 1
  have q2 := K11.out.q.cell 2
  have q3 := K11.out.q.cell 3
  have q4 := K11.out.q.cell 4
  have q5 := K11.out.q.cell 5
  have ql := K11.out.q.lt
  simp only [List.getElem?_cons_zero, List.getElem?_cons_succ] at p0 p1 p2 p3 p4 p5 q0 q1 q2 q3 q4 q5
  go_wp2_with fail
  refine c11.mono ?_
  rintro e W12 ⟨rfl, hb⟩
  have K12 := Hid3.mk (K11.out.low hb)
  clear c11 hb K11 x1 x2 x3 x4 x5 x6 x7 x8 xl p0 p1 p2 p3 p4 p5 pl q0 q1 q2 q3 q4 q5 ql
  have c12 := list_nil W12
  have x1 := K12.out.k.c.cell 1
  have x2 := K12.out.k.c.cell 2
  have x3 := K12.out.k.c.cell 3
  have x4 := K12.out.k.c.cell 4
  have x5 := K12.out.k.c.cell 5
  have x6 := K12.out.k.c.cell 6
  have x7 := K12.out.k.c.cell 7
  have x8 := K12.out.k.c.cell 8
  have xl := K12.out.k.c.lt
  simp only [List.getElem?_cons_zero, List.getElem?_cons_succ, Dn.vs] at x1 x2 x3 x4 x5 x6 x7 x8
  have p0 := K12.out.p.cell 0
  have p1 := K12.out.p.cell 1
  have p2 := K12.out.p.cell 2
  have p3 := K12.out.p.cell 3
  have p4 := K12.out.p.cell 4
  have p5 := K12.out.p.cell 5
  have pl := K12.out.p.lt
  have q0 := K12.out.q.cell 0
  have q1 := K12.out.q.cell 1
  have q2 := K12.out.q.cell 2
  have q3 := K12.out.q.cell 3
  have q4 := K12.out.q.cell 4
  have q5 := K12.out.q.cell 5
  have ql := K12.out.q.lt
  simp only [List.getElem?_cons_zero, List.getElem?_cons_succ] at p0 p1 p2 p3 p4 p5 q0 q1 q2 q3 q4 q5
  go_wp2_with fail
  refine c12.mono ?_
  rintro e W13 ⟨rfl, hb⟩
  have K13 := Hid3.mk (K12.out.low hb)
  clear c12 hb K12 x1 x2 x3 x4 x5 x6 x7 x8 xl p0 p1 p2 p3 p4 p5 pl q0 q1 q2 q3 q4 q5 ql
  have c13 := owned_nil d.ow W13
  have x1 := K13.out.k.c.cell 1
  have x2 := K13.out.k.c.cell 2
  have x3 := K13.out.k.c.cell 3
  have x4 := K13.out.k.c.cell 4
  have x5 := K13.out.k.c.cell 5
  have x6 := K13.out.k.c.cell 6
  have x7 := K13.out.k.c.cell 7
  have x8 := K13.out.k.c.cell 8
  have xl := K13.out.k.c.lt
  simp only [List.getElem?_cons_zero, List.getElem?_cons_succ, Dn.vs] at x1 x2 x3 x4 x5 x6 x7 x8
  have p0 := K13.out.p.cell 0
  have p1 := K13.out.p.cell 1
  have p2 := K13.out.p.cell 2
  have p3 := K13.out.p.cell 3
  have p4 := K13.out.p.cell 4
  have p5 := K13.out.p.cell 5
  have pl := K13.out.p.lt
  have q0 := K13.out.q.cell 0
  have q1 := K13.out.q.cell 1
  have q2 := K13.out.q.cell 2
  have q3 := K13.out.q.cell 3
  have q4 := K13.out.q.cell 4
  have q5 := K13.out.q.cell 5
  have ql := K13.out.q.lt
  simp only [List.getElem?_cons_zero, List.getElem?_cons_succ] at p0 p1 p2 p3 p4 p5 q0 q1 q2 q3 q4 q5
  go_wp2_with fail
  refine c13.mono ?_
  rintro e W14 ⟨rfl, hb⟩
  have K14 := Hid3.mk (K13.out.low hb)
  clear c13 hb K13 x1 x2 x3 x4 x5 x6 x7 x8 xl p0 p1 p2 p3 p4 p5 pl q0 q1 q2 q3 q4 q5 ql
  have c14 := left_nil W14
  have x1 := K14.out.k.c.cell 1
  have x2 := K14.out.k.c.cell 2
  have x3 := K14.out.k.c.cell 3
  have x4 := K14.out.k.c.cell 4
  have x5 := K14.out.k.c.cell 5
  have x6 := K14.out.k.c.cell 6
  have x7 := K14.out.k.c.cell 7
  have x8 := K14.out.k.c.cell 8
  have xl := K14.out.k.c.lt
  simp only [List.getElem?_cons_zero, List.getElem?_cons_succ, Dn.vs] at x1 x2 x3 x4 x5 x6 x7 x8
  have p0 := K14.out.p.cell 0
  have p1 := K14.out.p.cell 1
  have p2 := K14.out.p.cell 2
  have p3 := K14.out.p.cell 3
  have p4 := K14.out.p.cell 4
  have p5 := K14.out.p.cell 5
  have pl := K14.out.p.lt
  have q0 := K14.out.q.cell 0
  have q1 := K14.out.q.cell 1
  have q2 := K14.out.q.cell 2
  have q3 := K14.out.q.cell 3
  have q4 := K14.out.q.cell 4
  have q5 := K14.out.q.cell 5
  have ql := K14.out.q.lt
  simp only [List.getElem?_cons_zero, List.getElem?_cons_succ] at p0 p1 p2 p3 p4 p5 q0 q1 q2 q3 q4 q5
  go_wp2_with fail
  refine c14.mono ?_
  rintro e W15 ⟨rfl, hb⟩
  have K15 := Hid3.mk (K14.out.low hb)
  clear c14 hb K14 x1 x2 x3 x4 x5 x6 x7 x8 xl p0 p1 p2 p3 p4 p5 pl q0 q1 q2 q3 q4 q5 ql
  have c15 := fork_nil W15
  have x1 := K15.out.k.c.cell 1
  have x2 := K15.out.k.c.cell 2
  have x3 := K15.out.k.c.cell 3
  have x4 := K15.out.k.c.cell 4
  have x5 := K15.out.k.c.cell 5
  have x6 := K15.out.k.c.cell 6
  have x7 := K15.out.k.c.cell 7
  have x8 := K15.out.k.c.cell 8
  have xl := K15.out.k.c.lt
  simp only [List.getElem?_cons_zero, List.getElem?_cons_succ, Dn.vs] at x1 x2 x3 x4 x5 x6 x7 x8
  have p0 := K15.out.p.cell 0
  have p1 := K15.out.p.cell 1
  have p2 := K15.out.p.cell 2
  have p3 := K15.out.p.cell 3
  have p4 := K15.out.p.cell 4
  have p5 := K15.out.p.cell 5
  have pl := K15.out.p.lt
  have q0 := K15.out.q.cell 0
  have q1 := K15.out.q.cell 1
  have q2 := K15.out.q.cell 2
  have q3 := K15.out.q.cell 3
  have q4 := K15.out.q.cell 4
  have q5 := K15.out.q.cell 5
  have ql := K15.out.q.lt
  simp only [List.getElem?_cons_zero, List.getElem?_cons_succ] at p0 p1 p2 p3 p4 p5 q0 q1 q2 q3 q4 q5
  go_wp2_with fail
  refine c15.mono ?_
  rintro e W16 ⟨rfl, hb⟩
  have K16 := Hid3.mk (K15.out.low hb)
  clear c15 hb K15 x1 x2 x3 x4 x5 x6 x7 x8 xl p0 p1 p2 p3 p4 p5 pl q0 q1 q2 q3 q4 q5 ql
  have c16 := new_no n W16 hn
  have hd : (decide (n < 1) = true) ∨ (decide (n < 1) = false ∧ decide (64 < n) = true) := by
    by_cases h : n < 1
    · exact .inl (decide_eq_true h)
    · exact .inr ⟨decide_eq_false h, decide_eq_true (by omega)⟩
  clear hn
  have x1 := K16.out.k.c.cell 1
  have x2 := K16.out.k.c.cell 2
  have x3 := K16.out.k.c.cell 3
  have x4 := K16.out.k.c.cell 4
  have x5 := K16.out.k.c.cell 5
  have x6 := K16.out.k.c.cell 6
  have x7 := K16.out.k.c.cell 7
  have x8 := K16.out.k.c.cell 8
  have xl := K16.out.k.c.lt
  simp only [List.getElem?_cons_zero, List.getElem?_cons_succ, Dn.vs] at x1 x2 x3 x4 x5 x6 x7 x8
  have p0 := K16.out.p.cell 0
  have p1 := K16.out.p.cell 1
  have p2 := K16.out.p.cell 2
  have p3 := K16.out.p.cell 3
  have p4 := K16.out.p.cell 4
  have p5 := K16.out.p.cell 5
  have pl := K16.out.p.lt
  have q0 := K16.out.q.cell 0
  have q1 := K16.out.q.cell 1
  have q2 := K16.out.q.cell 2
  have q3 := K16.out.q.cell 3
  have q4 := K16.out.q.cell 4
  have q5 := K16.out.q.cell 5
  have ql := K16.out.q.lt
  simp only [List.getElem?_cons_zero, List.getElem?_cons_succ] at p0 p1 p2 p3 p4 p5 q0 q1 q2 q3 q4 q5
  go_wp2_with fail
  refine c16.mono ?_
  rintro e W17 ⟨rfl, rfl⟩
  have HB := Hid3.mk K16.out.k.bl
  clear c16 K16 x1 x2 x3 x4 x5 x6 x7 x8 xl p0 p1 p2 p3 p4 p5 pl q0 q1 q2 q3 q4 q5 ql
  rcases hd with h1 | ⟨h1, h2⟩
  all_goals
    go_wp2
    go_ret
    exact ⟨rfl, HB.out⟩
set_option maxHeartbeats 8000000 in
theorem none_good (d : Dn) (m : Nat) (w : World) (h1 : 1 ≤ m) (h2 : m ≤ 64) : Calls Try.prog 3 #[d.V, .int .i64 m] w fun e w' => e = .returned (.bool true) ∧ Below w.heap.size w w' := by
  have cN := fun W => new_ok m W h1 h2
  obtain ⟨n, hnn⟩ : ∃ n : Int, (m : Int) = n := ⟨_, rfl⟩
  rw [hnn] at cN ⊢
  have d1 : decide (n < 1) = false := decide_eq_false (by omega)
  have d2 : decide (64 < n) = false := decide_eq_false (by omega)
  clear hnn h1 h2
  have K0 := Hid3.mk (d.new w)
  have eG := eqGuardE
  have eM := fun W => eqE W 0 0 0 0 ⟨#[]⟩ 0
  have hz0 : (w.alloc (.cells #[.int .i64 d.k, .int .i64 d.a, .int .i64 d.c, .int .u8 d.ow, .int .u8 d.tw, .int .u32 d.id, .int .u32 d.ot, .string d.n, .int .u8 d.r] 26)).heap.size = w.heap.size + 1 := by simp
  unfold Dn.V
  go_enter Try.func3, Try.ntmps3
  have c0 := alloc_nil d.ow d.a d.c d.n d.r (w.alloc (.cells #[.int .i64 d.k, .int .i64 d.a, .int .i64 d.c, .int .u8 d.ow, .int .u8 d.tw, .int .u32 d.id, .int .u32 d.ot, .string d.n, .int .u8 d.r] 26))
  go_wp2_with fail
  refine c0.mono ?_
  rintro e W1 ⟨rfl, hb⟩
  have K1 := Hid3.mk (K0.out.low hb)
  clear c0 hb K0 hz0
  have x1 := K1.out.c.cell 1
  have x2 := K1.out.c.cell 2
  have x3 := K1.out.c.cell 3
  have x4 := K1.out.c.cell 4
  have x5 := K1.out.c.cell 5
  have x6 := K1.out.c.cell 6
  have x7 := K1.out.c.cell 7
  have x8 := K1.out.c.cell 8
  have xl := K1.out.c.lt
  simp only [List.getElem?_cons_zero, List.getElem?_cons_succ, Dn.vs] at x1 x2 x3 x4 x5 x6 x7 x8
  have c1 := split_nil d.ow d.id d.a W1
  go_wp2_with fail
  refine c1.mono ?_
  rintro e W2 ⟨rfl, hb⟩
  have K2 := Hid3.mk (K1.out.low hb)
  clear c1 hb K1 x1 x2 x3 x4 x5 x6 x7 x8 xl
  have x1 := K2.out.c.cell 1
  have x2 := K2.out.c.cell 2
  have x3 := K2.out.c.cell 3
  have x4 := K2.out.c.cell 4
  have x5 := K2.out.c.cell 5
  have x6 := K2.out.c.cell 6
  have x7 := K2.out.c.cell 7
  have x8 := K2.out.c.cell 8
  have xl := K2.out.c.lt
  simp only [List.getElem?_cons_zero, List.getElem?_cons_succ, Dn.vs] at x1 x2 x3 x4 x5 x6 x7 x8
  have c2 := get_nil d.id W2
  have hE : exV zEx = .agg #[.int .u32 0, .int .i64 0, .int .i64 0, .int .u8 0, .string ⟨#[]⟩, .int .u8 0] := rfl
  rw [hE] at c2
  go_wp2_with fail
  refine c2.mono ?_
  rintro e W3 ⟨rfl, hb⟩
  have K3 := Hid3.mk (K2.out.low hb)
  have hb2 := below_new W3 (.cells #[.int .u32 0, .int .i64 0, .int .i64 0, .int .u8 0, .string ⟨#[]⟩, .int .u8 0] 33)
  have Z3 := Hid3.mk (Cl.new W3 33 [.int .u32 0, .int .i64 0, .int .i64 0, .int .u8 0, .string ⟨#[]⟩, .int .u8 0])
  have K4 := Hid3.mk (K3.out.low hb2)
  have c3 := at_nil d.a (W3.alloc (.cells #[.int .u32 0, .int .i64 0, .int .i64 0, .int .u8 0, .string ⟨#[]⟩, .int .u8 0] 33))
  rw [hE] at c3
  clear c2 hb hb2 K2 x1 x2 x3 x4 x5 x6 x7 x8 xl
  have x1 := K3.out.c.cell 1
  have x2 := K3.out.c.cell 2
  have x3 := K3.out.c.cell 3
  have x4 := K3.out.c.cell 4
  have x5 := K3.out.c.cell 5
  have x6 := K3.out.c.cell 6
  have x7 := K3.out.c.cell 7
  have x8 := K3.out.c.cell 8
  have xl := K3.out.c.lt
  simp only [List.getElem?_cons_zero, List.getElem?_cons_succ, Dn.vs] at x1 x2 x3 x4 x5 x6 x7 x8
  go_wp2_with fail
  refine c3.mono ?_
  rintro e W5 ⟨rfl, hb⟩
  have K5 := Hid3.mk (K4.out.low hb)
  have Z5 := Hid3.mk (Z3.out.below hb)
  generalize W3.heap.size = p at *
  have hb2 := below_new W5 (.cells #[.int .u32 0, .int .i64 0, .int .i64 0, .int .u8 0, .string ⟨#[]⟩, .int .u8 0] 33)
  have K6 : Hid3 (Kz w (W5.alloc (.cells #[.int .u32 0, .int .i64 0, .int .i64 0, .int .u8 0, .string ⟨#[]⟩, .int .u8 0] 33)) d p W5.heap.size) := ⟨⟨K5.out.low hb2, Z5.out.below hb2, Cl.new W5 33 [.int .u32 0, .int .i64 0, .int .i64 0, .int .u8 0, .string ⟨#[]⟩, .int .u8 0]⟩⟩
  have c4 := room_nil d.a (W5.alloc (.cells #[.int .u32 0, .int .i64 0, .int .i64 0, .int .u8 0, .string ⟨#[]⟩, .int .u8 0] 33))
  clear c3 hb hb2 K3 K4 Z3 x1 x2 x3 x4 x5 x6 x7 x8 xl
  have x1 := K5.out.c.cell 1
  have x2 := K5.out.c.cell 2
  have x3 := K5.out.c.cell 3
  have x4 := K5.out.c.cell 4
  have x5 := K5.out.c.cell 5
  have x6 := K5.out.c.cell 6
  have x7 := K5.out.c.cell 7
  have x8 := K5.out.c.cell 8
  have xl := K5.out.c.lt
  simp only [List.getElem?_cons_zero, List.getElem?_cons_succ, Dn.vs] at x1 x2 x3 x4 x5 x6 x7 x8
  go_wp2_with fail
  refine c4.mono ?_
  rintro e W7 ⟨rfl, hb⟩
  have K7 := Hid3.mk (K6.out.low hb)
  clear c4 hb K5 K6 Z5 hE x1 x2 x3 x4 x5 x6 x7 x8 xl
  generalize W5.heap.size = q at *
  have c7 := live_any W7
  have x1 := K7.out.k.c.cell 1
  have x2 := K7.out.k.c.cell 2
  have x3 := K7.out.k.c.cell 3
  have x4 := K7.out.k.c.cell 4
  have x5 := K7.out.k.c.cell 5
  have x6 := K7.out.k.c.cell 6
  have x7 := K7.out.k.c.cell 7
  have x8 := K7.out.k.c.cell 8
  have xl := K7.out.k.c.lt
  simp only [List.getElem?_cons_zero, List.getElem?_cons_succ, Dn.vs] at x1 x2 x3 x4 x5 x6 x7 x8
  have p0 := K7.out.p.cell 0
  have p1 := K7.out.p.cell 1
  have p2 := K7.out.p.cell 2
  have p3 := K7.out.p.cell 3
  have p4 := K7.out.p.cell 4
  have p5 := K7.out.p.cell 5
  have pl := K7.out.p.lt
  have q0 := K7.out.q.cell 0
  have q1 := K7.out.q.cell 1
  have q2 := K7.out.q.cell 2
  have q3 := K7.out.q.cell 3
  have q4 := K7.out.q.cell 4
  have q5 := K7.out.q.cell 5
  have ql := K7.out.q.lt
  simp only [List.getElem?_cons_zero, List.getElem?_cons_succ] at p0 p1 p2 p3 p4 p5 q0 q1 q2 q3 q4 q5
  go_wp2_with fail
  refine c7.mono ?_
  rintro e W8 ⟨rfl, hb⟩
  have K8 := Hid3.mk (K7.out.low hb)
  clear c7 hb K7 x1 x2 x3 x4 x5 x6 x7 x8 xl p0 p1 p2 p3 p4 p5 pl q0 q1 q2 q3 q4 q5 ql
  have c8 := merge_nil d.ow d.id d.ot W8
  have x1 := K8.out.k.c.cell 1
  have x2 := K8.out.k.c.cell 2
  have x3 := K8.out.k.c.cell 3
  have x4 := K8.out.k.c.cell 4
  have x5 := K8.out.k.c.cell 5
  have x6 := K8.out.k.c.cell 6
  have x7 := K8.out.k.c.cell 7
  have x8 := K8.out.k.c.cell 8
  have xl := K8.out.k.c.lt
  simp only [List.getElem?_cons_zero, List.getElem?_cons_succ, Dn.vs] at x1 x2 x3 x4 x5 x6 x7 x8
  have p0 := K8.out.p.cell 0
  have p1 := K8.out.p.cell 1
  have p2 := K8.out.p.cell 2
  have p3 := K8.out.p.cell 3
  have p4 := K8.out.p.cell 4
  have p5 := K8.out.p.cell 5
  have pl := K8.out.p.lt
  have q0 := K8.out.q.cell 0
  have q1 := K8.out.q.cell 1
  have q2 := K8.out.q.cell 2
  have q3 := K8.out.q.cell 3
  have q4 := K8.out.q.cell 4
  have q5 := K8.out.q.cell 5
  have ql := K8.out.q.lt
  simp only [List.getElem?_cons_zero, List.getElem?_cons_succ] at p0 p1 p2 p3 p4 p5 q0 q1 q2 q3 q4 q5
  go_wp2_with fail
  refine c8.mono ?_
  rintro e W9 ⟨rfl, hb⟩
  have K9 := Hid3.mk (K8.out.low hb)
  clear c8 hb K8 x1 x2 x3 x4 x5 x6 x7 x8 xl p0 p1 p2 p3 p4 p5 pl q0 q1 q2 q3 q4 q5 ql
  have c9 := free_nil d.ow d.id W9
  have x1 := K9.out.k.c.cell 1
  have x2 := K9.out.k.c.cell 2
  have x3 := K9.out.k.c.cell 3
  have x4 := K9.out.k.c.cell 4
  have x5 := K9.out.k.c.cell 5
  have x6 := K9.out.k.c.cell 6
  have x7 := K9.out.k.c.cell 7
  have x8 := K9.out.k.c.cell 8
  have xl := K9.out.k.c.lt
  simp only [List.getElem?_cons_zero, List.getElem?_cons_succ, Dn.vs] at x1 x2 x3 x4 x5 x6 x7 x8
  have p0 := K9.out.p.cell 0
  have p1 := K9.out.p.cell 1
  have p2 := K9.out.p.cell 2
  have p3 := K9.out.p.cell 3
  have p4 := K9.out.p.cell 4
  have p5 := K9.out.p.cell 5
  have pl := K9.out.p.lt
  have q0 := K9.out.q.cell 0
  have q1 := K9.out.q.cell 1
  have q2 := K9.out.q.cell 2
  have q3 := K9.out.q.cell 3
  have q4 := K9.out.q.cell 4
  have q5 := K9.out.q.cell 5
  have ql := K9.out.q.lt
  simp only [List.getElem?_cons_zero, List.getElem?_cons_succ] at p0 p1 p2 p3 p4 p5 q0 q1 q2 q3 q4 q5
  go_wp2_with fail
  refine c9.mono ?_
  rintro e W10 ⟨rfl, hb⟩
  have K10 := Hid3.mk (K9.out.low hb)
  clear c9 hb K9 x1 x2 x3 x4 x5 x6 x7 x8 xl p0 p1 p2 p3 p4 p5 pl q0 q1 q2 q3 q4 q5 ql
  have c10 := give_nil d.ow d.id d.tw W10
  have x1 := K10.out.k.c.cell 1
  have x2 := K10.out.k.c.cell 2
  have x3 := K10.out.k.c.cell 3
  have x4 := K10.out.k.c.cell 4
  have x5 := K10.out.k.c.cell 5
  have x6 := K10.out.k.c.cell 6
  have x7 := K10.out.k.c.cell 7
  have x8 := K10.out.k.c.cell 8
  have xl := K10.out.k.c.lt
  simp only [List.getElem?_cons_zero, List.getElem?_cons_succ, Dn.vs] at x1 x2 x3 x4 x5 x6 x7 x8
  have p0 := K10.out.p.cell 0
  have p1 := K10.out.p.cell 1
  have p2 := K10.out.p.cell 2
  have p3 := K10.out.p.cell 3
  have p4 := K10.out.p.cell 4
  have p5 := K10.out.p.cell 5
  have pl := K10.out.p.lt
  have q0 := K10.out.q.cell 0
  have q1 := K10.out.q.cell 1
  have q2 := K10.out.q.cell 2
  have q3 := K10.out.q.cell 3
  have q4 := K10.out.q.cell 4
  have q5 := K10.out.q.cell 5
  have ql := K10.out.q.lt
  simp only [List.getElem?_cons_zero, List.getElem?_cons_succ] at p0 p1 p2 p3 p4 p5 q0 q1 q2 q3 q4 q5
  go_wp2_with fail
  refine c10.mono ?_
  rintro e W11 ⟨rfl, hb⟩
  have K11 := Hid3.mk (K10.out.low hb)
  clear c10 hb K10 x1 x2 x3 x4 x5 x6 x7 x8 xl p0 p1 p2 p3 p4 p5 pl q0 q1 q2 q3 q4 q5 ql
  have c11 := grow_nil d.ow d.id d.a W11
  have x1 := K11.out.k.c.cell 1
  have x2 := K11.out.k.c.cell 2
  have x3 := K11.out.k.c.cell 3
  have x4 := K11.out.k.c.cell 4
  have x5 := K11.out.k.c.cell 5
  have x6 := K11.out.k.c.cell 6
  have x7 := K11.out.k.c.cell 7
  have x8 := K11.out.k.c.cell 8
  have xl := K11.out.k.c.lt
  simp only [List.getElem?_cons_zero, List.getElem?_cons_succ, Dn.vs] at x1 x2 x3 x4 x5 x6 x7 x8
  have p0 := K11.out.p.cell 0
  have p1 := K11.out.p.cell 1
  have p2 := K11.out.p.cell 2
  have p3 := K11.out.p.cell 3
  have p4 := K11.out.p.cell 4
  have p5 := K11.out.p.cell 5
  have pl := K11.out.p.lt
  have q0 := K11.out.q.cell 0
  have q1 := K11.out.q.cell 1
  have q2 := K11.out.q.cell 2
  have q3 := K11.out.q.cell 3
  have q4 := K11.out.q.cell 4
  have q5 := K11.out.q.cell 5
  have ql := K11.out.q.lt
  simp only [List.getElem?_cons_zero, List.getElem?_cons_succ] at p0 p1 p2 p3 p4 p5 q0 q1 q2 q3 q4 q5
  go_wp2_with fail
  refine c11.mono ?_
  rintro e W12 ⟨rfl, hb⟩
  have K12 := Hid3.mk (K11.out.low hb)
  clear c11 hb K11 x1 x2 x3 x4 x5 x6 x7 x8 xl p0 p1 p2 p3 p4 p5 pl q0 q1 q2 q3 q4 q5 ql
  have c12 := list_nil W12
  have x1 := K12.out.k.c.cell 1
  have x2 := K12.out.k.c.cell 2
  have x3 := K12.out.k.c.cell 3
  have x4 := K12.out.k.c.cell 4
  have x5 := K12.out.k.c.cell 5
  have x6 := K12.out.k.c.cell 6
  have x7 := K12.out.k.c.cell 7
  have x8 := K12.out.k.c.cell 8
  have xl := K12.out.k.c.lt
  simp only [List.getElem?_cons_zero, List.getElem?_cons_succ, Dn.vs] at x1 x2 x3 x4 x5 x6 x7 x8
  have p0 := K12.out.p.cell 0
  have p1 := K12.out.p.cell 1
  have p2 := K12.out.p.cell 2
  have p3 := K12.out.p.cell 3
  have p4 := K12.out.p.cell 4
  have p5 := K12.out.p.cell 5
  have pl := K12.out.p.lt
  have q0 := K12.out.q.cell 0
  have q1 := K12.out.q.cell 1
  have q2 := K12.out.q.cell 2
  have q3 := K12.out.q.cell 3
  have q4 := K12.out.q.cell 4
  have q5 := K12.out.q.cell 5
  have ql := K12.out.q.lt
  simp only [List.getElem?_cons_zero, List.getElem?_cons_succ] at p0 p1 p2 p3 p4 p5 q0 q1 q2 q3 q4 q5
  go_wp2_with fail
  refine c12.mono ?_
  rintro e W13 ⟨rfl, hb⟩
  have K13 := Hid3.mk (K12.out.low hb)
  clear c12 hb K12 x1 x2 x3 x4 x5 x6 x7 x8 xl p0 p1 p2 p3 p4 p5 pl q0 q1 q2 q3 q4 q5 ql
  have c13 := owned_nil d.ow W13
  have x1 := K13.out.k.c.cell 1
  have x2 := K13.out.k.c.cell 2
  have x3 := K13.out.k.c.cell 3
  have x4 := K13.out.k.c.cell 4
  have x5 := K13.out.k.c.cell 5
  have x6 := K13.out.k.c.cell 6
  have x7 := K13.out.k.c.cell 7
  have x8 := K13.out.k.c.cell 8
  have xl := K13.out.k.c.lt
  simp only [List.getElem?_cons_zero, List.getElem?_cons_succ, Dn.vs] at x1 x2 x3 x4 x5 x6 x7 x8
  have p0 := K13.out.p.cell 0
  have p1 := K13.out.p.cell 1
  have p2 := K13.out.p.cell 2
  have p3 := K13.out.p.cell 3
  have p4 := K13.out.p.cell 4
  have p5 := K13.out.p.cell 5
  have pl := K13.out.p.lt
  have q0 := K13.out.q.cell 0
  have q1 := K13.out.q.cell 1
  have q2 := K13.out.q.cell 2
  have q3 := K13.out.q.cell 3
  have q4 := K13.out.q.cell 4
  have q5 := K13.out.q.cell 5
  have ql := K13.out.q.lt
  simp only [List.getElem?_cons_zero, List.getElem?_cons_succ] at p0 p1 p2 p3 p4 p5 q0 q1 q2 q3 q4 q5
  go_wp2_with fail
  refine c13.mono ?_
  rintro e W14 ⟨rfl, hb⟩
  have K14 := Hid3.mk (K13.out.low hb)
  clear c13 hb K13 x1 x2 x3 x4 x5 x6 x7 x8 xl p0 p1 p2 p3 p4 p5 pl q0 q1 q2 q3 q4 q5 ql
  have c14 := left_nil W14
  have x1 := K14.out.k.c.cell 1
  have x2 := K14.out.k.c.cell 2
  have x3 := K14.out.k.c.cell 3
  have x4 := K14.out.k.c.cell 4
  have x5 := K14.out.k.c.cell 5
  have x6 := K14.out.k.c.cell 6
  have x7 := K14.out.k.c.cell 7
  have x8 := K14.out.k.c.cell 8
  have xl := K14.out.k.c.lt
  simp only [List.getElem?_cons_zero, List.getElem?_cons_succ, Dn.vs] at x1 x2 x3 x4 x5 x6 x7 x8
  have p0 := K14.out.p.cell 0
  have p1 := K14.out.p.cell 1
  have p2 := K14.out.p.cell 2
  have p3 := K14.out.p.cell 3
  have p4 := K14.out.p.cell 4
  have p5 := K14.out.p.cell 5
  have pl := K14.out.p.lt
  have q0 := K14.out.q.cell 0
  have q1 := K14.out.q.cell 1
  have q2 := K14.out.q.cell 2
  have q3 := K14.out.q.cell 3
  have q4 := K14.out.q.cell 4
  have q5 := K14.out.q.cell 5
  have ql := K14.out.q.lt
  simp only [List.getElem?_cons_zero, List.getElem?_cons_succ] at p0 p1 p2 p3 p4 p5 q0 q1 q2 q3 q4 q5
  go_wp2_with fail
  refine c14.mono ?_
  rintro e W15 ⟨rfl, hb⟩
  have K15 := Hid3.mk (K14.out.low hb)
  clear c14 hb K14 x1 x2 x3 x4 x5 x6 x7 x8 xl p0 p1 p2 p3 p4 p5 pl q0 q1 q2 q3 q4 q5 ql
  have c15 := fork_nil W15
  have x1 := K15.out.k.c.cell 1
  have x2 := K15.out.k.c.cell 2
  have x3 := K15.out.k.c.cell 3
  have x4 := K15.out.k.c.cell 4
  have x5 := K15.out.k.c.cell 5
  have x6 := K15.out.k.c.cell 6
  have x7 := K15.out.k.c.cell 7
  have x8 := K15.out.k.c.cell 8
  have xl := K15.out.k.c.lt
  simp only [List.getElem?_cons_zero, List.getElem?_cons_succ, Dn.vs] at x1 x2 x3 x4 x5 x6 x7 x8
  have p0 := K15.out.p.cell 0
  have p1 := K15.out.p.cell 1
  have p2 := K15.out.p.cell 2
  have p3 := K15.out.p.cell 3
  have p4 := K15.out.p.cell 4
  have p5 := K15.out.p.cell 5
  have pl := K15.out.p.lt
  have q0 := K15.out.q.cell 0
  have q1 := K15.out.q.cell 1
  have q2 := K15.out.q.cell 2
  have q3 := K15.out.q.cell 3
  have q4 := K15.out.q.cell 4
  have q5 := K15.out.q.cell 5
  have ql := K15.out.q.lt
  simp only [List.getElem?_cons_zero, List.getElem?_cons_succ] at p0 p1 p2 p3 p4 p5 q0 q1 q2 q3 q4 q5
  go_wp2_with fail
  refine c15.mono ?_
  rintro e W16 ⟨rfl, hb⟩
  have K16 := Hid3.mk (K15.out.low hb)
  clear c15 hb K15 x1 x2 x3 x4 x5 x6 x7 x8 xl p0 p1 p2 p3 p4 p5 pl q0 q1 q2 q3 q4 q5 ql
  have c16 := cN W16
  have x1 := K16.out.k.c.cell 1
  have x2 := K16.out.k.c.cell 2
  have x3 := K16.out.k.c.cell 3
  have x4 := K16.out.k.c.cell 4
  have x5 := K16.out.k.c.cell 5
  have x6 := K16.out.k.c.cell 6
  have x7 := K16.out.k.c.cell 7
  have x8 := K16.out.k.c.cell 8
  have xl := K16.out.k.c.lt
  simp only [List.getElem?_cons_zero, List.getElem?_cons_succ, Dn.vs] at x1 x2 x3 x4 x5 x6 x7 x8
  have p0 := K16.out.p.cell 0
  have p1 := K16.out.p.cell 1
  have p2 := K16.out.p.cell 2
  have p3 := K16.out.p.cell 3
  have p4 := K16.out.p.cell 4
  have p5 := K16.out.p.cell 5
  have pl := K16.out.p.lt
  have q0 := K16.out.q.cell 0
  have q1 := K16.out.q.cell 1
  have q2 := K16.out.q.cell 2
  have q3 := K16.out.q.cell 3
  have q4 := K16.out.q.cell 4
  have q5 := K16.out.q.cell 5
  have ql := K16.out.q.lt
  simp only [List.getElem?_cons_zero, List.getElem?_cons_succ] at p0 p1 p2 p3 p4 p5 q0 q1 q2 q3 q4 q5
  go_wp2_with fail
  refine c16.mono ?_
  rintro e W17 ⟨rfl, _, hb⟩
  have HB := Hid3.mk (K16.out.k.bl.trans (hb.mono K16.out.k.bl.size))
  clear c16 cN K16 hb x1 x2 x3 x4 x5 x6 x7 x8 xl p0 p1 p2 p3 p4 p5 pl q0 q1 q2 q3 q4 q5 ql
  go_wp2
  go_ret
  exact ⟨rfl, HB.out⟩
theorem none_law (d : Dn) (n : Int) (w : World) : Calls Try.prog 3 #[d.V, .int .i64 n] w fun e w' => e = .returned (.bool true) ∧ Below w.heap.size w w' := by
  by_cases h : n < 1 ∨ 64 < n
  · exact none_bad d n w h
  · have := none_good d n.toNat w (by omega) (by omega)
    rw [show ((n.toNat : Nat) : Int) = n by omega] at this
    exact this
end Go.Proofs.Ytmepnnlmhlndmab
