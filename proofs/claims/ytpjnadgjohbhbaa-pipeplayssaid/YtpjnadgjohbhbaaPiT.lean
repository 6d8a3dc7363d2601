/- The program's Fork; live; a deed on both pipes; do both tell the same? -/
import Derived.Test.YtpjnadgjohbhbaaPiS
import Derived.Deep.WholeRow
namespace Go.Proofs.Ytpjnadgjohbhbaa
open Go.RowKit Go.Maps
set_option linter.unusedVariables false
set_option maxRecDepth 100000
theorem wpList_stores {ops : Array Oper} {rest : List Oper} {o : Oper} {a : Act} {w w' : World} {Q : Exit → Act → World → Prop} (hgd : o.guard = none) (ty : TypeId) (p x : Operand) (ho : o.op = .store ty p x) (v u : Value) (hp : a.eval p = v) (hx : a.eval x = u) (hL : (Instr.storeAt ty v u).run Try.prog w = .ok () w')
    (h : wpList Try.prog ops Q rest (a.put o.dst undef) w') : wpList Try.prog ops Q (o :: rest) a w :=
  wpList_plain hgd fun K hK => by
    unfold Oper.wp execOp
    simp only [ho, hp, hx, Sem.run_bind, hL, Result.andThen_ok, Sem.run_pure]
    exact hK _ _ h
set_option maxHeartbeats 400000 in
theorem fork_any (B b : Nat) (T : List UInt8) (rd wr : Nat) (w : World) (h : Pp B w b T rd wr) (hB : B ≤ w.heap.size) : Calls Try.prog 20 #[.pointer (some ⟨b, 0, none⟩)] w fun r w' => r = .returned (.pointer (some ⟨w.heap.size, 0, none⟩)) ∧ Pp B w' w.heap.size T rd wr ∧ Below w.heap.size w w' := by
  obtain ⟨C, f, h1, h2⟩ := h.ex
  have hc := h2.hc
  have H : Hid3 (Pp B (w.alloc (.cells (piCs C f T.length rd wr).toArray 55)) w.heap.size T rd wr ∧ Below w.heap.size w (w.alloc (.cells (piCs C f T.length rd wr).toArray 55))) := ⟨⟨hB, h.hr, h.hw, C, f, Cl.new w _ _, h2⟩, below_new w _⟩
  have hH : w.heap[b]? = some (.cells (piCs C f T.length rd wr).toArray 55 (0, 0)) := h1
  have hsz : (piCs C f T.length rd wr).toArray.size = 28 := by unfold piCs; rw [List.size_toArray, List.length_append, bCs_length, hc]; rfl
  have hi0 : (Try.prog.info? 55).map (·.size) = some 28 := by kernel_rfl
  have hi : (Try.prog.info? 55).map (·.size) = some (piCs C f T.length rd wr).toArray.size := by rw [hsz]; exact hi0
  have ho : (piCs C f T.length rd wr).toArray.all (·.oneCell') = true := by
    rw [List.all_toArray, List.all_eq_true]
    intro v hv
    unfold piCs at hv
    rcases List.mem_append.1 hv with e | e
    · exact bCs_one C v e
    · simp at e
      rcases e with rfl | rfl | rfl | rfl <;> rfl
  generalize (piCs C f T.length rd wr).toArray = D at *
  clear h h1 h2 hc hB hi0
  go_enter Try.func20, Try.ntmps20
  go_wp2_with (first | (refine wpList_load_row rfl 55 _ rfl b rfl 55 D (0, 0) _ hH Try.underlying55 rfl hi ?_) | (refine wpList_stores rfl 55 _ _ rfl _ (.agg D) rfl rfl (run_storeAt_new w 55 _ D hi (by rw [hsz]; rfl) ho) ?_))
  go_ret
  exact ⟨rfl, H.out⟩
/-- A pipe that no other block of the world is. -/
theorem PStp.below {B : Nat} {w w' W : World} {b : Nat} {T : List UInt8} {rd wr : Nat} (h : PStp B W w' b T rd wr) (hB : B ≤ W.heap.size) : Below B W w' := h.ap.below B (fun k e => by rw [e]; exact h.p.g) hB
set_option maxHeartbeats 4000000 in
theorem live_any (w : World) : Calls Try.prog 10 #[] w fun r w' => r = .returned (.bool true) ∧ Below w.heap.size w w' := by
  have cN := new_any w
  go_enter Try.func10, Try.ntmps10
  go_wp2_with fail
  refine cN.mono ?_
  rintro r W0 ⟨rfl, hP, hB0⟩
  have HB := Hid3.mk hB0
  have c1 := open_any _ _ _ 0 0 true W0 hP
  rw [show openE (cnt true 0 0) = 0 from rfl, show setR true 0 (openC (cnt true 0 0)) = 0 from rfl, show setW true 0 (openC (cnt true 0 0)) = 1 from rfl] at c1
  clear cN hP hB0
  go_wp2_with fail
  refine c1.mono ?_
  rintro r W1 ⟨rfl, hS⟩
  have HB1 := Hid3.mk (HB.out.trans (hS.below (w := w) HB.out.size))
  have c2 := open_any _ _ _ 0 1 false W1 hS.p
  rw [show openE (cnt false 0 1) = 0 from rfl, show setR false 0 (openC (cnt false 0 1)) = 1 from rfl, show setW false 1 (openC (cnt false 0 1)) = 1 from rfl] at c2
  clear c1 hS HB
  go_wp2_with fail
  refine c2.mono ?_
  rintro r W2 ⟨rfl, hS⟩
  have HB2 := Hid3.mk (HB1.out.trans (hS.below (w := w) HB1.out.size))
  have c3 := write_any _ _ _ 1 1 [104, 101, 108, 108, 111] (by decide) W2 hS.p
  rw [show wrN ([] : List UInt8).length 1 ([104, 101, 108, 108, 111] : List UInt8).length = 5 from rfl, show wrE ([] : List UInt8).length 1 ([104, 101, 108, 108, 111] : List UInt8).length = 0 from rfl, show ([] : List UInt8) ++ List.take 5 [104, 101, 108, 108, 111] = [104, 101, 108, 108, 111] from rfl] at c3
  clear c2 hS HB1
  go_wp2_with fail
  refine c3.mono ?_
  rintro r W3 ⟨rfl, hS⟩
  have HB3 := Hid3.mk (HB2.out.trans (hS.below (w := w) HB2.out.size))
  have c4 := read_any _ _ _ 1 1 2 W3 hS.p
  rw [show rdE ([104, 101, 108, 108, 111] : List UInt8).length 1 2 = 0 from rfl, show List.take (2 : Int).toNat ([104, 101, 108, 108, 111] : List UInt8) = [104, 101] from rfl, show List.drop (2 : Int).toNat ([104, 101, 108, 108, 111] : List UInt8) = [108, 108, 111] from rfl] at c4
  clear c3 hS HB2
  go_wp2_with fail
  refine c4.mono ?_
  rintro r W4 ⟨rfl, hS⟩
  have HB4 := Hid3.mk (HB3.out.trans (hS.below (w := w) HB3.out.size))
  have c5 := text_any _ _ _ 1 1 W4 hS.p
  clear c4 hS HB3
  go_wp2_with fail
  refine c5.mono ?_
  rintro r W5 ⟨rfl, hb⟩
  have HB5 := Hid3.mk (HB4.out.trans (hb.mono HB4.out.size))
  clear c5 hb HB4
  go_wp2
  go_ret
  exact ⟨rfl, HB5.out⟩
/-- Both pipes. -/
structure Two (B : Nat) (w : World) (b rb : Nat) (T : List UInt8) (rd wr : Nat) : Prop where
  p : Pp B w b T rd wr
  r : Rp B w rb T rd wr
theorem Two.ne {B : Nat} {w : World} {b rb : Nat} {T : List UInt8} {rd wr : Nat} (h : Two B w b rb T rd wr) : b ≠ rb := by
  obtain ⟨C, f, h1, h2⟩ := h.p.ex
  exact h1.ne h.r.c (by decide)
theorem Two.below {B : Nat} {w w' : World} {b rb : Nat} {T : List UInt8} {rd wr : Nat} (h : Two B w b rb T rd wr) (k : Below w.heap.size w w') : Two B w' b rb T rd wr := ⟨h.p.below k, h.r.below k⟩
theorem Two.stay {B : Nat} {w w' : World} {b rb : Nat} {T : List UInt8} {rd wr : Nat} {X : Nat → Prop} (h : Two B w b rb T rd wr) (k : Apart X w w') (h1 : ¬ X b) (h2 : ¬ X rb) : Two B w' b rb T rd wr := ⟨h.p.stay k h1, h.r.stay k h2⟩
/-- What a deed on both comes to. -/
structure Mv (B : Nat) (w w' : World) (b rb : Nat) (T : List UInt8) (rd wr : Nat) : Prop where
  two : Two B w' b rb T rd wr
  ap : Apart (fun k => k = b ∨ k = rb) w w'
theorem Mv.same {B : Nat} {w w' : World} {b rb : Nat} {T : List UInt8} {rd wr : Nat} (h : Two B w b rb T rd wr) (k : Below w.heap.size w w') : Mv B w w' b rb T rd wr := ⟨h.below k, Apart.of_below k⟩
theorem Mv.mk' {B : Nat} {w w1 w2 : World} {b rb : Nat} {T T' : List UInt8} {rd wr rd' wr' : Nat} (h : Two B w b rb T rd wr) (h1 : PStp B w w1 b T' rd' wr') (h2 : RStp B w1 w2 rb T' rd' wr') : Mv B w w2 b rb T' rd' wr' :=
  ⟨⟨h1.p.stay h2.ap h.ne, h2.p⟩, (h1.ap.wide (fun i _ e => .inl e)).trans (h2.ap.wide (fun i _ e => .inr e))⟩
theorem Mv.pre {B : Nat} {w w1 w2 : World} {b rb : Nat} {T : List UInt8} {rd wr : Nat} (h : Below w.heap.size w w1) (k : Mv B w1 w2 b rb T rd wr) : Mv B w w2 b rb T rd wr := ⟨k.two, (Apart.of_below h).trans k.ap⟩
theorem Mv.below {B : Nat} {w w' : World} {b rb : Nat} {T : List UInt8} {rd wr : Nat} (h : Mv B w w' b rb T rd wr) (hB : B ≤ w.heap.size) : Below B w w' := h.ap.below B (fun k e => e.elim (fun e => e ▸ h.two.p.g) (fun e => e ▸ h.two.r.g)) hB
/-- A deed: kind, number, on, text. -/
structure Dd where
  k : Int
  n : Int
  on : Bool
  s : List UInt8
def ddV (d : Dd) : Value := .agg #[.int .i64 d.k, .int .i64 d.n, .bool d.on, .string ⟨d.s.toArray⟩]
theorem cell_stay {w w' : World} {X : Nat → Prop} {g j : Nat} {v : Value} (h : w.cell? ⟨g, j, none⟩ = some v) (k : Apart X w w') (hx : ¬ X g) : w'.cell? ⟨g, j, none⟩ = some v := by
  rw [World.cell?_of_block (w := w) (k.block g (World.block_lt_of_cell? w _ h) hx)]
  exact h
set_option maxHeartbeats 2000000 in
theorem do_0 (B b rb : Nat) (T : List UInt8) (rd wr : Nat) (n : Int) (on : Bool) (s : List UInt8) (w : World) (h : Two B w b rb T rd wr) : Calls Try.prog 22 #[.pointer (some ⟨b, 0, none⟩), .pointer (some ⟨rb, 0, none⟩), .agg #[.int .i64 0, .int .i64 n, .bool on, .string ⟨s.toArray⟩]] w fun r w' => r = .returned (.bool true) ∧ ∃ T' rd' wr', Mv B w w' b rb T' rd' wr' := by
  have hX : Below w.heap.size w (w.alloc (.cells #[.int .i64 0, .int .i64 n, .bool on, .string ⟨s.toArray⟩] 47)).drew := below_newd w _
  have hbx := heap_alloc_new w (.cells #[.int .i64 0, .int .i64 n, .bool on, .string ⟨s.toArray⟩] 47)
  have x2 : (w.alloc (.cells #[.int .i64 0, .int .i64 n, .bool on, .string ⟨s.toArray⟩] 47)).drew.cell? ⟨w.heap.size, 2, none⟩ = some (.bool on) := by
    show (w.alloc (.cells #[.int .i64 0, .int .i64 n, .bool on, .string ⟨s.toArray⟩] 47)).cell? ⟨w.heap.size, 2, none⟩ = _
    rw [Lib.cell_of_heap hbx]; rfl
  have HT := Hid3.mk (h.below hX)
  have HX := Hid3.mk hX
  have hSa := Hid3.mk x2
  have hl1 := h.p.lt
  have hl2 := h.r.lt
  have cT := fun W (hV : Pp B W b T rd wr) => open_any B b T rd wr on W hV
  have cR := fun W (hV : Rp B W rb T rd wr) => ropen_any B rb T rd wr on W hV
  generalize setR on rd (openC (cnt on rd wr)) = rd' at *
  generalize setW on wr (openC (cnt on rd wr)) = wr' at *
  generalize openE (cnt on rd wr) = z at *
  have hzz : (z == z) = true := by simp
  clear h hX hbx x2
  go_enter Try.func22, Try.ntmps22
  go_wp2_with fail
  go_region_held3 (fun w' => w'.cell? ⟨w.heap.size, 2, none⟩ = some (.bool on)) (with_reducible (first | exact hSa.out | exact hSb.out | exact hSc.out)) ((first
    | (go_at_call 13; refine (cT _ HT.out.p).mono ?_; rintro r W1 ⟨rfl, hs1⟩; have hSb : Hid3 (W1.cell? ⟨w.heap.size, 2, none⟩ = some (.bool on)) := ⟨cell_stay hSa.out hs1.ap (by omega)⟩; have HS1 := Hid3.mk hs1; have HR1 : Hid3 (Rp B W1 rb T rd wr) := ⟨HT.out.r.stay hs1.ap HT.out.ne.symm⟩; clear hs1)
    | (go_at_call 33; refine (cR _ HR1.out).mono ?_; rintro r W2 ⟨rfl, hs2⟩; have hSc : Hid3 (W2.cell? ⟨w.heap.size, 2, none⟩ = some (.bool on)) := ⟨cell_stay hSb.out hs2.ap (by omega)⟩; have HM : Hid3 (Mv B w W2 b rb T rd' wr') := ⟨(Mv.mk' HT.out HS1.out hs2).pre HX.out⟩; clear hs2)))
  all_goals (
    go_wp2
    go_ret
    exact ⟨rfl, _, _, _, HM.out⟩)
set_option maxHeartbeats 2000000 in
theorem do_1 (B b rb : Nat) (T : List UInt8) (rd wr : Nat) (n : Int) (on : Bool) (s : List UInt8) (w : World) (h : Two B w b rb T rd wr) : Calls Try.prog 22 #[.pointer (some ⟨b, 0, none⟩), .pointer (some ⟨rb, 0, none⟩), .agg #[.int .i64 1, .int .i64 n, .bool on, .string ⟨s.toArray⟩]] w fun r w' => r = .returned (.bool true) ∧ ∃ T' rd' wr', Mv B w w' b rb T' rd' wr' := by
  have hX : Below w.heap.size w (w.alloc (.cells #[.int .i64 1, .int .i64 n, .bool on, .string ⟨s.toArray⟩] 47)).drew := below_newd w _
  have hbx := heap_alloc_new w (.cells #[.int .i64 1, .int .i64 n, .bool on, .string ⟨s.toArray⟩] 47)
  have x2 : (w.alloc (.cells #[.int .i64 1, .int .i64 n, .bool on, .string ⟨s.toArray⟩] 47)).drew.cell? ⟨w.heap.size, 2, none⟩ = some (.bool on) := by
    show (w.alloc (.cells #[.int .i64 1, .int .i64 n, .bool on, .string ⟨s.toArray⟩] 47)).cell? ⟨w.heap.size, 2, none⟩ = _
    rw [Lib.cell_of_heap hbx]; rfl
  have HT := Hid3.mk (h.below hX)
  have HX := Hid3.mk hX
  have hSa := Hid3.mk x2
  have hl1 := h.p.lt
  have hl2 := h.r.lt
  have cT := fun W (hV : Pp B W b T rd wr) => close_any B b T rd wr on W hV
  have cR := fun W (hV : Rp B W rb T rd wr) => rclose_any B rb T rd wr on W hV
  generalize setR on rd (cnt on rd wr - 1) = rd' at *
  generalize setW on wr (cnt on rd wr - 1) = wr' at *
  generalize closeE (cnt on rd wr) = z at *
  have hzz : (z == z) = true := by simp
  clear h hX hbx x2
  go_enter Try.func22, Try.ntmps22
  go_wp2_with fail
  go_region_held3 (fun w' => w'.cell? ⟨w.heap.size, 2, none⟩ = some (.bool on)) (with_reducible (first | exact hSa.out | exact hSb.out | exact hSc.out)) ((first
    | (go_at_call 19; refine (cT _ HT.out.p).mono ?_; rintro r W1 ⟨rfl, hs1⟩; have hSb : Hid3 (W1.cell? ⟨w.heap.size, 2, none⟩ = some (.bool on)) := ⟨cell_stay hSa.out hs1.ap (by omega)⟩; have HS1 := Hid3.mk hs1; have HR1 : Hid3 (Rp B W1 rb T rd wr) := ⟨HT.out.r.stay hs1.ap HT.out.ne.symm⟩; clear hs1)
    | (go_at_call 34; refine (cR _ HR1.out).mono ?_; rintro r W2 ⟨rfl, hs2⟩; have hSc : Hid3 (W2.cell? ⟨w.heap.size, 2, none⟩ = some (.bool on)) := ⟨cell_stay hSb.out hs2.ap (by omega)⟩; have HM : Hid3 (Mv B w W2 b rb T rd' wr') := ⟨(Mv.mk' HT.out HS1.out hs2).pre HX.out⟩; clear hs2)))
  all_goals (
    go_wp2
    go_ret
    exact ⟨rfl, _, _, _, HM.out⟩)
set_option maxHeartbeats 2000000 in
theorem do_2 (B b rb : Nat) (T : List UInt8) (rd wr : Nat) (n : Int) (on : Bool) (s : List UInt8) (w : World) (h : Two B w b rb T rd wr) : Calls Try.prog 22 #[.pointer (some ⟨b, 0, none⟩), .pointer (some ⟨rb, 0, none⟩), .agg #[.int .i64 2, .int .i64 n, .bool on, .string ⟨s.toArray⟩]] w fun r w' => r = .returned (.bool true) ∧ ∃ T' rd' wr', Mv B w w' b rb T' rd' wr' := by
  have hX : Below w.heap.size w (w.alloc (.cells #[.int .i64 2, .int .i64 n, .bool on, .string ⟨s.toArray⟩] 47)) := below_new w _
  have hbx := heap_alloc_new w (.cells #[.int .i64 2, .int .i64 n, .bool on, .string ⟨s.toArray⟩] 47)
  have x2 : (w.alloc (.cells #[.int .i64 2, .int .i64 n, .bool on, .string ⟨s.toArray⟩] 47)).cell? ⟨w.heap.size, 3, none⟩ = some (.string ⟨s.toArray⟩) := by
    rw [Lib.cell_of_heap hbx]; rfl
  have HT := Hid3.mk (h.below hX)
  have HX := Hid3.mk hX
  have hSa := Hid3.mk x2
  have hl1 := h.p.lt
  have hl2 := h.r.lt
  have cS := fun W => short_any s W
  have cT := fun W (hV : Pp B W b T rd wr) => write_any B b T rd wr (s.take 100) (short_le s) W hV
  have cR := fun W (hV : Rp B W rb T rd wr) => rwrite_any B rb T rd wr (s.take 100) (short_le s) W hV
  generalize wrN T.length rd (s.take 100).length = N at *
  generalize wrE T.length rd (s.take 100).length = z at *
  generalize T ++ (s.take 100).take N = T' at *
  generalize s.take 100 = s' at *
  have hNN : ((N : Int) == (N : Int)) = true := by simp
  have hzz : (z == z) = true := by simp
  clear h hX hbx x2
  go_enter Try.func22, Try.ntmps22
  go_wp2_with fail
  refine (cS _).mono ?_
  rintro r W9 ⟨rfl, hW9⟩
  rw [hW9]
  clear hW9
  go_wp2_with fail
  refine (cT _ HT.out.p).mono ?_
  rintro r W1 ⟨rfl, hs1⟩
  have x3 := cell_stay hSa.out hs1.ap (by omega)
  have HS1 := Hid3.mk hs1
  have HR1 : Hid3 (Rp B W1 rb T rd wr) := ⟨HT.out.r.stay hs1.ap HT.out.ne.symm⟩
  clear hs1
  go_wp2_with fail
  refine (cS _).mono ?_
  rintro r W9 ⟨rfl, hW9⟩
  rw [hW9]
  clear hW9
  go_wp2_with fail
  refine (cR _ HR1.out).mono ?_
  rintro r W2 ⟨rfl, hs2⟩
  have HM : Hid3 (Mv B w W2 b rb T' rd wr) := ⟨(Mv.mk' HT.out HS1.out hs2).pre HX.out⟩
  clear hs2
  go_wp2
  go_ret
  exact ⟨rfl, _, _, _, HM.out⟩
set_option maxHeartbeats 2000000 in
theorem do_3 (B b rb : Nat) (T : List UInt8) (rd wr : Nat) (n : Int) (on : Bool) (s : List UInt8) (w : World) (h : Two B w b rb T rd wr) : Calls Try.prog 22 #[.pointer (some ⟨b, 0, none⟩), .pointer (some ⟨rb, 0, none⟩), .agg #[.int .i64 3, .int .i64 n, .bool on, .string ⟨s.toArray⟩]] w fun r w' => r = .returned (.bool true) ∧ ∃ T' rd' wr', Mv B w w' b rb T' rd' wr' := by
  have hX : Below w.heap.size w (w.alloc (.cells #[.int .i64 3, .int .i64 n, .bool on, .string ⟨s.toArray⟩] 47)) := below_new w _
  have hbx := heap_alloc_new w (.cells #[.int .i64 3, .int .i64 n, .bool on, .string ⟨s.toArray⟩] 47)
  have x2 : (w.alloc (.cells #[.int .i64 3, .int .i64 n, .bool on, .string ⟨s.toArray⟩] 47)).cell? ⟨w.heap.size, 1, none⟩ = some (.int .i64 n) := by
    rw [Lib.cell_of_heap hbx]; rfl
  have HT := Hid3.mk (h.below hX)
  have HX := Hid3.mk hX
  have hSa := Hid3.mk x2
  have hl1 := h.p.lt
  have hl2 := h.r.lt
  have cT := fun W (hV : Pp B W b T rd wr) => read_any B b T rd wr n W hV
  have cR := fun W (hV : Rp B W rb T rd wr) => rread_any B rb T rd wr n W hV
  generalize rdE T.length wr n = z at *
  generalize T.drop n.toNat = T' at *
  generalize T.take n.toNat = s' at *
  have hNN : (s' == s') = true := by simp
  have hzz : (z == z) = true := by simp
  clear h hX hbx x2
  go_enter Try.func22, Try.ntmps22
  go_wp2_with fail
  refine (cT _ HT.out.p).mono ?_
  rintro r W1 ⟨rfl, hs1⟩
  have x3 := cell_stay hSa.out hs1.ap (by omega)
  have HS1 := Hid3.mk hs1
  have HR1 : Hid3 (Rp B W1 rb T rd wr) := ⟨HT.out.r.stay hs1.ap HT.out.ne.symm⟩
  clear hs1
  go_wp2_with fail
  refine (cR _ HR1.out).mono ?_
  rintro r W2 ⟨rfl, hs2⟩
  have HM : Hid3 (Mv B w W2 b rb T' rd wr) := ⟨(Mv.mk' HT.out HS1.out hs2).pre HX.out⟩
  clear hs2
  go_wp2
  go_ret
  exact ⟨rfl, _, _, _, HM.out⟩
set_option maxHeartbeats 1000000 in
theorem do_else (B b rb : Nat) (T : List UInt8) (rd wr : Nat) (k n : Int) (on : Bool) (s : List UInt8) (w : World) (h : Two B w b rb T rd wr) (h0 : k ≠ 0) (h1 : k ≠ 1) (h2 : k ≠ 2) (h3 : k ≠ 3) : Calls Try.prog 22 #[.pointer (some ⟨b, 0, none⟩), .pointer (some ⟨rb, 0, none⟩), .agg #[.int .i64 k, .int .i64 n, .bool on, .string ⟨s.toArray⟩]] w fun r w' => r = .returned (.bool true) ∧ ∃ T' rd' wr', Mv B w w' b rb T' rd' wr' := by
  have HM : Hid3 (Mv B w (w.alloc (.cells #[.int .i64 k, .int .i64 n, .bool on, .string ⟨s.toArray⟩] 47)) b rb T rd wr) := ⟨Mv.same h (below_new w _)⟩
  have e0 : (k == 0) = false := by simpa using h0
  have e1 : (k == 1) = false := by simpa using h1
  have e2 : (k == 2) = false := by simpa using h2
  have e3 : (k == 3) = false := by simpa using h3
  clear h
  go_enter Try.func22, Try.ntmps22
  go_wp2
  go_ret
  exact ⟨rfl, _, _, _, HM.out⟩
theorem do_any (B b rb : Nat) (T : List UInt8) (rd wr : Nat) (d : Dd) (w : World) (h : Two B w b rb T rd wr) : Calls Try.prog 22 #[.pointer (some ⟨b, 0, none⟩), .pointer (some ⟨rb, 0, none⟩), ddV d] w fun r w' => r = .returned (.bool true) ∧ ∃ T' rd' wr', Mv B w w' b rb T' rd' wr' := by
  obtain ⟨k, n, on, s⟩ := d
  unfold ddV
  simp only
  by_cases h0 : k = 0
  · subst h0; exact do_0 B b rb T rd wr n on s w h
  by_cases h1 : k = 1
  · subst h1; exact do_1 B b rb T rd wr n on s w h
  by_cases h2 : k = 2
  · subst h2; exact do_2 B b rb T rd wr n on s w h
  by_cases h3 : k = 3
  · subst h3; exact do_3 B b rb T rd wr n on s w h
  exact do_else B b rb T rd wr k n on s w h h0 h1 h2 h3
set_option maxHeartbeats 1000000 in
theorem same_any (B b rb : Nat) (T : List UInt8) (rd wr : Nat) (w : World) (h : Two B w b rb T rd wr) : Calls Try.prog 11 #[.pointer (some ⟨b, 0, none⟩), .pointer (some ⟨rb, 0, none⟩)] w fun r w' => r = .returned (.bool true) ∧ Below w.heap.size w w' := by
  have c1 := text_any B b T rd wr w h.p
  have HT := Hid3.mk h
  have hTT : (T == T) = true := by simp
  clear h
  go_enter Try.func11, Try.ntmps11
  go_wp2_with fail
  refine c1.mono ?_
  rintro r W1 ⟨rfl, hb⟩
  have HB := Hid3.mk hb
  have c2 := rtext_any B rb T rd wr W1 (HT.out.below hb).r
  have c3 := count_any B b T rd wr true W1 (HT.out.below hb).p
  have c4 := rcount_any B rb T rd wr true W1 (HT.out.below hb).r
  have c5 := count_any B b T rd wr false W1 (HT.out.below hb).p
  have c6 := rcount_any B rb T rd wr false W1 (HT.out.below hb).r
  generalize cnt true rd wr = x at *
  generalize cnt false rd wr = y at *
  have hxx : ((x : Int) == (x : Int)) = true := by simp
  have hyy : ((y : Int) == (y : Int)) = true := by simp
  clear c1 hb
  have H3 := Hid3.mk c3
  have H4 := Hid3.mk c4
  have H5 := Hid3.mk c5
  have H6 := Hid3.mk c6
  clear c3 c4 c5 c6
  go_wp2_with fail
  refine c2.mono ?_
  rintro r W2 ⟨rfl, hW⟩
  rw [hW]
  clear c2 hW
  go_wp2_with fail
  refine H3.out.mono ?_
  rintro r W2 ⟨rfl, hW⟩
  rw [hW]
  clear hW
  go_wp2_with fail
  refine H4.out.mono ?_
  rintro r W2 ⟨rfl, hW⟩
  rw [hW]
  clear hW
  go_wp2_with fail
  refine H5.out.mono ?_
  rintro r W2 ⟨rfl, hW⟩
  rw [hW]
  clear hW
  go_wp2_with fail
  refine H6.out.mono ?_
  rintro r W2 ⟨rfl, hW⟩
  rw [hW]
  clear hW
  go_wp2
  go_ret
  exact ⟨rfl, HB.out⟩
end Go.Proofs.Ytpjnadgjohbhbaa
