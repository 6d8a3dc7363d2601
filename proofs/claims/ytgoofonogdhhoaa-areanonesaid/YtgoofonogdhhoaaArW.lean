/- A deed on both: the law's do. -/
import Derived.Test.YtgoofonogdhhoaaArV
namespace Go.Proofs.Ytgoofonogdhhoaa
open Go.RowKit Go.Maps
set_option linter.unusedVariables false
set_option maxRecDepth 100000
abbrev SB (b : Nat) (u wd : Int) (W : World) : Prop := W.cell? ⟨b, 1, none⟩ = some (.int .u8 u) ∧ W.cell? ⟨b, 2, none⟩ = some (.int .u16 wd)
theorem SB.stay {b : Nat} {u wd : Int} {X : Nat → Prop} {W W' : World} (h : SB b u wd W) (k : Apart X W W') (hx : ¬ X b) : SB b u wd W' := by
  have hb := k.block b (World.block_lt_of_cell? W _ h.1) hx
  refine ⟨?_, ?_⟩ <;> rw [World.cell?_of_block (w := W) hb]
  · exact h.1
  · exact h.2
abbrev SR (b : Nat) (s0 s1 s2 s3 s4 s5 s6 s7 s8 : Int) (W : World) : Prop := W.cell? ⟨b, 3, none⟩ = some (.int .u16 s0) ∧ W.cell? ⟨b, 4, none⟩ = some (.int .u16 s1) ∧ W.cell? ⟨b, 5, none⟩ = some (.int .u16 s2) ∧ W.cell? ⟨b, 6, none⟩ = some (.int .u16 s3) ∧ W.cell? ⟨b, 7, none⟩ = some (.int .u16 s4) ∧ W.cell? ⟨b, 8, none⟩ = some (.int .u16 s5) ∧ W.cell? ⟨b, 9, none⟩ = some (.int .u16 s6) ∧ W.cell? ⟨b, 10, none⟩ = some (.int .u16 s7) ∧ W.cell? ⟨b, 11, none⟩ = some (.int .u16 s8)
theorem SR.stay {b : Nat} {s0 s1 s2 s3 s4 s5 s6 s7 s8 : Int} {X : Nat → Prop} {W W' : World} (h : SR b s0 s1 s2 s3 s4 s5 s6 s7 s8 W) (k : Apart X W W') (hx : ¬ X b) : SR b s0 s1 s2 s3 s4 s5 s6 s7 s8 W' := by
  have hb := k.block b (World.block_lt_of_cell? W _ h.1) hx
  obtain ⟨h0, h1, h2, h3, h4, h5, h6, h7, h8⟩ := h
  refine ⟨?_, ?_, ?_, ?_, ?_, ?_, ?_, ?_, ?_⟩ <;> (rw [World.cell?_of_block (w := W) hb]; assumption)
set_option maxHeartbeats 2000000 in
theorem do_0 (B ab rb : Nat) (q : Ar) (u wd : Int) (s : Rg) (w : World) (h : Two B w ab rb q) (h0 : 0 ≤ u) : Calls Try.prog 23 #[.pointer (some ⟨ab, 0, none⟩), .pointer (some ⟨rb, 0, none⟩), (⟨0, u, wd, s⟩ : Dd).V] w fun r w' => r = .returned (.bool true) ∧ Mv B w w' ab rb (enQ u wd q) := by
  obtain ⟨s0, s1, s2, s3, s4, s5, s6, s7, s8⟩ := s
  have hX : Below w.heap.size w (w.alloc (.cells #[.int .i64 0, .int .u8 u, .int .u16 wd, .int .u16 s0, .int .u16 s1, .int .u16 s2, .int .u16 s3, .int .u16 s4, .int .u16 s5, .int .u16 s6, .int .u16 s7, .int .u16 s8] 37)).drew := below_newd w _
  have HT : Hid3 (Two B (w.alloc (.cells #[.int .i64 0, .int .u8 u, .int .u16 wd, .int .u16 s0, .int .u16 s1, .int .u16 s2, .int .u16 s3, .int .u16 s4, .int .u16 s5, .int .u16 s6, .int .u16 s7, .int .u16 s8] 37)).drew ab rb q) := ⟨h.below hX⟩
  have HX : Hid3 (Below w.heap.size w (w.alloc (.cells #[.int .i64 0, .int .u8 u, .int .u16 wd, .int .u16 s0, .int .u16 s1, .int .u16 s2, .int .u16 s3, .int .u16 s4, .int .u16 s5, .int .u16 s6, .int .u16 s7, .int .u16 s8] 37)).drew) := ⟨hX⟩
  have hla := h.t.lt
  have hlr := h.r.lt
  have hnV : ¬ XB ab w.heap.size := fun e => by have e' : w.heap.size = ab := e; omega
  have hnR : ¬ XB rb w.heap.size := fun e => by have e' : w.heap.size = rb := e; omega
  have hSa : Hid3 (SB w.heap.size u wd (w.alloc (.cells #[.int .i64 0, .int .u8 u, .int .u16 wd, .int .u16 s0, .int .u16 s1, .int .u16 s2, .int .u16 s3, .int .u16 s4, .int .u16 s5, .int .u16 s6, .int .u16 s7, .int .u16 s8] 37)).drew) := ⟨(Cl.new w 37 [.int .i64 0, .int .u8 u, .int .u16 wd, .int .u16 s0, .int .u16 s1, .int .u16 s2, .int .u16 s3, .int .u16 s4, .int .u16 s5, .int .u16 s6, .int .u16 s7, .int .u16 s8]).cell 1, (Cl.new w 37 [.int .i64 0, .int .u8 u, .int .u16 wd, .int .u16 s0, .int .u16 s1, .int .u16 s2, .int .u16 s3, .int .u16 s4, .int .u16 s5, .int .u16 s6, .int .u16 s7, .int .u16 s8]).cell 2⟩
  have cT := fun W (hV : Ac B W ab q) => dentry_any B ab q u wd W hV h0
  have cR := fun W (hV : Rr B W rb q) => rdentry_any B rb q u wd W hV h0
  generalize enQ u wd q = q' at *
  generalize enE u = z at *
  have hzz : (z == z) = true := by simp
  clear h hX
  change Calls _ _ #[_, _, .agg #[.int .i64 0, .int .u8 u, .int .u16 wd, .int .u16 s0, .int .u16 s1, .int .u16 s2, .int .u16 s3, .int .u16 s4, .int .u16 s5, .int .u16 s6, .int .u16 s7, .int .u16 s8]] _ _
  go_enter Try.func23, Try.ntmps23
  go_wp2_with fail
  go_region_held3 (fun w' => w'.cell? ⟨w.heap.size, 1, none⟩ = some (.int .u8 u) ∧ w'.cell? ⟨w.heap.size, 2, none⟩ = some (.int .u16 wd)) (with_reducible (first | exact hSa.out | exact hSb.out | exact hSc.out)) ((first
    | (go_at_call 20; refine (cT _ HT.out.t).mono ?_; rintro r W1 ⟨rfl, hs1⟩; have hSb : Hid3 (SB w.heap.size u wd W1) := ⟨hSa.out.stay hs1.ap hnV⟩; have HS1 : Hid3 (AStp B (w.alloc (.cells #[.int .i64 0, .int .u8 u, .int .u16 wd, .int .u16 s0, .int .u16 s1, .int .u16 s2, .int .u16 s3, .int .u16 s4, .int .u16 s5, .int .u16 s6, .int .u16 s7, .int .u16 s8] 37)).drew W1 ab q') := ⟨hs1⟩; have HR1 : Hid3 (Rr B W1 rb q) := ⟨HT.out.rstay hs1.ap⟩; clear hs1)
    | (go_at_call 40; refine (cR _ HR1.out).mono ?_; rintro r W2 ⟨rfl, hs2⟩; have hSc : Hid3 (SB w.heap.size u wd W2) := ⟨hSb.out.stay hs2.ap hnR⟩; have HM : Hid3 (Mv B w W2 ab rb q') := ⟨(Mv.mk' HT.out HS1.out hs2).pre HX.out⟩; clear hs2)))
  all_goals (
    go_wp2
    go_ret
    exact ⟨rfl, HM.out⟩)
set_option maxHeartbeats 2000000 in
theorem do_1 (B ab rb : Nat) (q : Ar) (u wd : Int) (s : Rg) (w : World) (h : Two B w ab rb q) (h0 : 0 ≤ u) : Calls Try.prog 23 #[.pointer (some ⟨ab, 0, none⟩), .pointer (some ⟨rb, 0, none⟩), (⟨1, u, wd, s⟩ : Dd).V] w fun r w' => r = .returned (.bool true) ∧ Mv B w w' ab rb (uQ u wd q) := by
  obtain ⟨s0, s1, s2, s3, s4, s5, s6, s7, s8⟩ := s
  have hX : Below w.heap.size w (w.alloc (.cells #[.int .i64 1, .int .u8 u, .int .u16 wd, .int .u16 s0, .int .u16 s1, .int .u16 s2, .int .u16 s3, .int .u16 s4, .int .u16 s5, .int .u16 s6, .int .u16 s7, .int .u16 s8] 37)).drew := below_newd w _
  have HT : Hid3 (Two B (w.alloc (.cells #[.int .i64 1, .int .u8 u, .int .u16 wd, .int .u16 s0, .int .u16 s1, .int .u16 s2, .int .u16 s3, .int .u16 s4, .int .u16 s5, .int .u16 s6, .int .u16 s7, .int .u16 s8] 37)).drew ab rb q) := ⟨h.below hX⟩
  have HX : Hid3 (Below w.heap.size w (w.alloc (.cells #[.int .i64 1, .int .u8 u, .int .u16 wd, .int .u16 s0, .int .u16 s1, .int .u16 s2, .int .u16 s3, .int .u16 s4, .int .u16 s5, .int .u16 s6, .int .u16 s7, .int .u16 s8] 37)).drew) := ⟨hX⟩
  have hla := h.t.lt
  have hlr := h.r.lt
  have hnV : ¬ XB ab w.heap.size := fun e => by have e' : w.heap.size = ab := e; omega
  have hnR : ¬ XB rb w.heap.size := fun e => by have e' : w.heap.size = rb := e; omega
  have hSa : Hid3 (SB w.heap.size u wd (w.alloc (.cells #[.int .i64 1, .int .u8 u, .int .u16 wd, .int .u16 s0, .int .u16 s1, .int .u16 s2, .int .u16 s3, .int .u16 s4, .int .u16 s5, .int .u16 s6, .int .u16 s7, .int .u16 s8] 37)).drew) := ⟨(Cl.new w 37 [.int .i64 1, .int .u8 u, .int .u16 wd, .int .u16 s0, .int .u16 s1, .int .u16 s2, .int .u16 s3, .int .u16 s4, .int .u16 s5, .int .u16 s6, .int .u16 s7, .int .u16 s8]).cell 1, (Cl.new w 37 [.int .i64 1, .int .u8 u, .int .u16 wd, .int .u16 s0, .int .u16 s1, .int .u16 s2, .int .u16 s3, .int .u16 s4, .int .u16 s5, .int .u16 s6, .int .u16 s7, .int .u16 s8]).cell 2⟩
  have cT := fun W (hV : Ac B W ab q) => dup_any B ab q u wd W hV h0
  have cR := fun W (hV : Rr B W rb q) => rdup_any B rb q u wd W hV h0
  generalize uQ u wd q = q' at *
  generalize upE u q = z at *
  have hzz : (z == z) = true := by simp
  clear h hX
  change Calls _ _ #[_, _, .agg #[.int .i64 1, .int .u8 u, .int .u16 wd, .int .u16 s0, .int .u16 s1, .int .u16 s2, .int .u16 s3, .int .u16 s4, .int .u16 s5, .int .u16 s6, .int .u16 s7, .int .u16 s8]] _ _
  go_enter Try.func23, Try.ntmps23
  go_wp2_with fail
  go_region_held3 (fun w' => w'.cell? ⟨w.heap.size, 1, none⟩ = some (.int .u8 u) ∧ w'.cell? ⟨w.heap.size, 2, none⟩ = some (.int .u16 wd)) (with_reducible (first | exact hSa.out | exact hSb.out | exact hSc.out)) ((first
    | (go_at_call 15; refine (cT _ HT.out.t).mono ?_; rintro r W1 ⟨rfl, hs1⟩; have hSb : Hid3 (SB w.heap.size u wd W1) := ⟨hSa.out.stay hs1.ap hnV⟩; have HS1 : Hid3 (AStp B (w.alloc (.cells #[.int .i64 1, .int .u8 u, .int .u16 wd, .int .u16 s0, .int .u16 s1, .int .u16 s2, .int .u16 s3, .int .u16 s4, .int .u16 s5, .int .u16 s6, .int .u16 s7, .int .u16 s8] 37)).drew W1 ab q') := ⟨hs1⟩; have HR1 : Hid3 (Rr B W1 rb q) := ⟨HT.out.rstay hs1.ap⟩; clear hs1)
    | (go_at_call 41; refine (cR _ HR1.out).mono ?_; rintro r W2 ⟨rfl, hs2⟩; have hSc : Hid3 (SB w.heap.size u wd W2) := ⟨hSb.out.stay hs2.ap hnR⟩; have HM : Hid3 (Mv B w W2 ab rb q') := ⟨(Mv.mk' HT.out HS1.out hs2).pre HX.out⟩; clear hs2)))
  all_goals (
    go_wp2
    go_ret
    exact ⟨rfl, HM.out⟩)
set_option maxHeartbeats 2000000 in
theorem do_2 (B ab rb : Nat) (q : Ar) (u wd : Int) (s : Rg) (w : World) (h : Two B w ab rb q) (h0 : 0 ≤ u) : Calls Try.prog 23 #[.pointer (some ⟨ab, 0, none⟩), .pointer (some ⟨rb, 0, none⟩), (⟨2, u, wd, s⟩ : Dd).V] w fun r w' => r = .returned (.bool true) ∧ Mv B w w' ab rb (retQ q) := by
  obtain ⟨s0, s1, s2, s3, s4, s5, s6, s7, s8⟩ := s
  have hX : Below w.heap.size w (w.alloc (.cells #[.int .i64 2, .int .u8 u, .int .u16 wd, .int .u16 s0, .int .u16 s1, .int .u16 s2, .int .u16 s3, .int .u16 s4, .int .u16 s5, .int .u16 s6, .int .u16 s7, .int .u16 s8] 37)) := below_new w _
  have HT : Hid3 (Two B (w.alloc (.cells #[.int .i64 2, .int .u8 u, .int .u16 wd, .int .u16 s0, .int .u16 s1, .int .u16 s2, .int .u16 s3, .int .u16 s4, .int .u16 s5, .int .u16 s6, .int .u16 s7, .int .u16 s8] 37)) ab rb q) := ⟨h.below hX⟩
  have HX : Hid3 (Below w.heap.size w (w.alloc (.cells #[.int .i64 2, .int .u8 u, .int .u16 wd, .int .u16 s0, .int .u16 s1, .int .u16 s2, .int .u16 s3, .int .u16 s4, .int .u16 s5, .int .u16 s6, .int .u16 s7, .int .u16 s8] 37))) := ⟨hX⟩
  have hla := h.t.lt
  have hlr := h.r.lt
  have hnV : ¬ XB ab w.heap.size := fun e => by have e' : w.heap.size = ab := e; omega
  have hnR : ¬ XB rb w.heap.size := fun e => by have e' : w.heap.size = rb := e; omega
  have cT := dret_any B ab q _ HT.out.t
  have cR := fun W (hV : Rr B W rb q) => rdret_any B rb q W hV
  generalize retQ q = q' at *
  generalize retE q = z at *
  have hzz : (z == z) = true := by simp
  clear h hX
  change Calls _ _ #[_, _, .agg #[.int .i64 2, .int .u8 u, .int .u16 wd, .int .u16 s0, .int .u16 s1, .int .u16 s2, .int .u16 s3, .int .u16 s4, .int .u16 s5, .int .u16 s6, .int .u16 s7, .int .u16 s8]] _ _
  go_enter Try.func23, Try.ntmps23
  go_wp2_with fail
  refine cT.mono ?_
  rintro r W1 ⟨rfl, hs1⟩
  have HR1 : Hid3 (Rr B W1 rb q) := ⟨HT.out.rstay hs1.ap⟩
  have HS1 : Hid3 (AStp B (w.alloc (.cells #[.int .i64 2, .int .u8 u, .int .u16 wd, .int .u16 s0, .int .u16 s1, .int .u16 s2, .int .u16 s3, .int .u16 s4, .int .u16 s5, .int .u16 s6, .int .u16 s7, .int .u16 s8] 37)) W1 ab q') := ⟨hs1⟩
  clear hs1 cT
  go_wp2_with fail
  refine (cR _ HR1.out).mono ?_
  rintro r W2 ⟨rfl, hs2⟩
  have HM : Hid3 (Mv B w W2 ab rb q') := ⟨(Mv.mk' HT.out HS1.out hs2).pre HX.out⟩
  clear hs2 cR
  go_wp2
  go_ret
  exact ⟨rfl, HM.out⟩
set_option maxHeartbeats 2000000 in
theorem do_4 (B ab rb : Nat) (q : Ar) (u wd : Int) (s : Rg) (w : World) (h : Two B w ab rb q) (h0 : 0 ≤ u) : Calls Try.prog 23 #[.pointer (some ⟨ab, 0, none⟩), .pointer (some ⟨rb, 0, none⟩), (⟨4, u, wd, s⟩ : Dd).V] w fun r w' => r = .returned (.bool true) ∧ Mv B w w' ab rb (killQ q) := by
  obtain ⟨s0, s1, s2, s3, s4, s5, s6, s7, s8⟩ := s
  have hX : Below w.heap.size w (w.alloc (.cells #[.int .i64 4, .int .u8 u, .int .u16 wd, .int .u16 s0, .int .u16 s1, .int .u16 s2, .int .u16 s3, .int .u16 s4, .int .u16 s5, .int .u16 s6, .int .u16 s7, .int .u16 s8] 37)) := below_new w _
  have HT : Hid3 (Two B (w.alloc (.cells #[.int .i64 4, .int .u8 u, .int .u16 wd, .int .u16 s0, .int .u16 s1, .int .u16 s2, .int .u16 s3, .int .u16 s4, .int .u16 s5, .int .u16 s6, .int .u16 s7, .int .u16 s8] 37)) ab rb q) := ⟨h.below hX⟩
  have HX : Hid3 (Below w.heap.size w (w.alloc (.cells #[.int .i64 4, .int .u8 u, .int .u16 wd, .int .u16 s0, .int .u16 s1, .int .u16 s2, .int .u16 s3, .int .u16 s4, .int .u16 s5, .int .u16 s6, .int .u16 s7, .int .u16 s8] 37))) := ⟨hX⟩
  have hla := h.t.lt
  have hlr := h.r.lt
  have hnV : ¬ XB ab w.heap.size := fun e => by have e' : w.heap.size = ab := e; omega
  have hnR : ¬ XB rb w.heap.size := fun e => by have e' : w.heap.size = rb := e; omega
  have cT := kill_any B ab q _ HT.out.t
  have cR := fun W (hV : Rr B W rb q) => rkill_any B rb q W hV
  generalize killQ q = q' at *
  generalize setE q = z at *
  have hzz : (z == z) = true := by simp
  clear h hX
  change Calls _ _ #[_, _, .agg #[.int .i64 4, .int .u8 u, .int .u16 wd, .int .u16 s0, .int .u16 s1, .int .u16 s2, .int .u16 s3, .int .u16 s4, .int .u16 s5, .int .u16 s6, .int .u16 s7, .int .u16 s8]] _ _
  go_enter Try.func23, Try.ntmps23
  go_wp2_with fail
  refine cT.mono ?_
  rintro r W1 ⟨rfl, hs1⟩
  have HR1 : Hid3 (Rr B W1 rb q) := ⟨HT.out.rstay hs1.ap⟩
  have HS1 : Hid3 (AStp B (w.alloc (.cells #[.int .i64 4, .int .u8 u, .int .u16 wd, .int .u16 s0, .int .u16 s1, .int .u16 s2, .int .u16 s3, .int .u16 s4, .int .u16 s5, .int .u16 s6, .int .u16 s7, .int .u16 s8] 37)) W1 ab q') := ⟨hs1⟩
  clear hs1 cT
  go_wp2_with fail
  refine (cR _ HR1.out).mono ?_
  rintro r W2 ⟨rfl, hs2⟩
  have HM : Hid3 (Mv B w W2 ab rb q') := ⟨(Mv.mk' HT.out HS1.out hs2).pre HX.out⟩
  clear hs2 cR
  go_wp2
  go_ret
  exact ⟨rfl, HM.out⟩
set_option maxHeartbeats 2000000 in
theorem do_3 (B ab rb : Nat) (q : Ar) (u wd : Int) (s : Rg) (w : World) (h : Two B w ab rb q) (h0 : 0 ≤ u) : Calls Try.prog 23 #[.pointer (some ⟨ab, 0, none⟩), .pointer (some ⟨rb, 0, none⟩), (⟨3, u, wd, s⟩ : Dd).V] w fun r w' => r = .returned (.bool true) ∧ Mv B w w' ab rb (setQ s q) := by
  obtain ⟨s0, s1, s2, s3, s4, s5, s6, s7, s8⟩ := s
  have hX : Below w.heap.size w (w.alloc (.cells #[.int .i64 3, .int .u8 u, .int .u16 wd, .int .u16 s0, .int .u16 s1, .int .u16 s2, .int .u16 s3, .int .u16 s4, .int .u16 s5, .int .u16 s6, .int .u16 s7, .int .u16 s8] 37)).drew := below_newd w _
  have HT : Hid3 (Two B (w.alloc (.cells #[.int .i64 3, .int .u8 u, .int .u16 wd, .int .u16 s0, .int .u16 s1, .int .u16 s2, .int .u16 s3, .int .u16 s4, .int .u16 s5, .int .u16 s6, .int .u16 s7, .int .u16 s8] 37)).drew ab rb q) := ⟨h.below hX⟩
  have HX : Hid3 (Below w.heap.size w (w.alloc (.cells #[.int .i64 3, .int .u8 u, .int .u16 wd, .int .u16 s0, .int .u16 s1, .int .u16 s2, .int .u16 s3, .int .u16 s4, .int .u16 s5, .int .u16 s6, .int .u16 s7, .int .u16 s8] 37)).drew) := ⟨hX⟩
  have hla := h.t.lt
  have hlr := h.r.lt
  have hnV : ¬ XB ab w.heap.size := fun e => by have e' : w.heap.size = ab := e; omega
  have hnR : ¬ XB rb w.heap.size := fun e => by have e' : w.heap.size = rb := e; omega
  have hSa : Hid3 (SR w.heap.size s0 s1 s2 s3 s4 s5 s6 s7 s8 (w.alloc (.cells #[.int .i64 3, .int .u8 u, .int .u16 wd, .int .u16 s0, .int .u16 s1, .int .u16 s2, .int .u16 s3, .int .u16 s4, .int .u16 s5, .int .u16 s6, .int .u16 s7, .int .u16 s8] 37)).drew) := ⟨(Cl.new w 37 [.int .i64 3, .int .u8 u, .int .u16 wd, .int .u16 s0, .int .u16 s1, .int .u16 s2, .int .u16 s3, .int .u16 s4, .int .u16 s5, .int .u16 s6, .int .u16 s7, .int .u16 s8]).cell 3, (Cl.new w 37 [.int .i64 3, .int .u8 u, .int .u16 wd, .int .u16 s0, .int .u16 s1, .int .u16 s2, .int .u16 s3, .int .u16 s4, .int .u16 s5, .int .u16 s6, .int .u16 s7, .int .u16 s8]).cell 4, (Cl.new w 37 [.int .i64 3, .int .u8 u, .int .u16 wd, .int .u16 s0, .int .u16 s1, .int .u16 s2, .int .u16 s3, .int .u16 s4, .int .u16 s5, .int .u16 s6, .int .u16 s7, .int .u16 s8]).cell 5, (Cl.new w 37 [.int .i64 3, .int .u8 u, .int .u16 wd, .int .u16 s0, .int .u16 s1, .int .u16 s2, .int .u16 s3, .int .u16 s4, .int .u16 s5, .int .u16 s6, .int .u16 s7, .int .u16 s8]).cell 6, (Cl.new w 37 [.int .i64 3, .int .u8 u, .int .u16 wd, .int .u16 s0, .int .u16 s1, .int .u16 s2, .int .u16 s3, .int .u16 s4, .int .u16 s5, .int .u16 s6, .int .u16 s7, .int .u16 s8]).cell 7, (Cl.new w 37 [.int .i64 3, .int .u8 u, .int .u16 wd, .int .u16 s0, .int .u16 s1, .int .u16 s2, .int .u16 s3, .int .u16 s4, .int .u16 s5, .int .u16 s6, .int .u16 s7, .int .u16 s8]).cell 8, (Cl.new w 37 [.int .i64 3, .int .u8 u, .int .u16 wd, .int .u16 s0, .int .u16 s1, .int .u16 s2, .int .u16 s3, .int .u16 s4, .int .u16 s5, .int .u16 s6, .int .u16 s7, .int .u16 s8]).cell 9, (Cl.new w 37 [.int .i64 3, .int .u8 u, .int .u16 wd, .int .u16 s0, .int .u16 s1, .int .u16 s2, .int .u16 s3, .int .u16 s4, .int .u16 s5, .int .u16 s6, .int .u16 s7, .int .u16 s8]).cell 10, (Cl.new w 37 [.int .i64 3, .int .u8 u, .int .u16 wd, .int .u16 s0, .int .u16 s1, .int .u16 s2, .int .u16 s3, .int .u16 s4, .int .u16 s5, .int .u16 s6, .int .u16 s7, .int .u16 s8]).cell 11⟩
  have cT := fun W (hV : Ac B W ab q) => set_any B ab q ⟨s0, s1, s2, s3, s4, s5, s6, s7, s8⟩ W hV
  have cR := fun W (hV : Rr B W rb q) => rset_any B rb q ⟨s0, s1, s2, s3, s4, s5, s6, s7, s8⟩ W hV
  change ∀ W, Ac B W ab q → Calls _ _ #[_, .agg #[.int .u16 s0, .int .u16 s1, .int .u16 s2, .int .u16 s3, .int .u16 s4, .int .u16 s5, .int .u16 s6, .int .u16 s7, .int .u16 s8]] _ _ at cT
  change ∀ W, Rr B W rb q → Calls _ _ #[_, .agg #[.int .u16 s0, .int .u16 s1, .int .u16 s2, .int .u16 s3, .int .u16 s4, .int .u16 s5, .int .u16 s6, .int .u16 s7, .int .u16 s8]] _ _ at cR
  generalize setQ ⟨s0, s1, s2, s3, s4, s5, s6, s7, s8⟩ q = q' at *
  generalize setE q = z at *
  have hzz : (z == z) = true := by simp
  clear h hX
  change Calls _ _ #[_, _, .agg #[.int .i64 3, .int .u8 u, .int .u16 wd, .int .u16 s0, .int .u16 s1, .int .u16 s2, .int .u16 s3, .int .u16 s4, .int .u16 s5, .int .u16 s6, .int .u16 s7, .int .u16 s8]] _ _
  go_enter Try.func23, Try.ntmps23
  go_wp2_with fail
  go_region_held3 (fun w' => w'.cell? ⟨w.heap.size, 3, none⟩ = some (.int .u16 s0) ∧ w'.cell? ⟨w.heap.size, 4, none⟩ = some (.int .u16 s1) ∧ w'.cell? ⟨w.heap.size, 5, none⟩ = some (.int .u16 s2) ∧ w'.cell? ⟨w.heap.size, 6, none⟩ = some (.int .u16 s3) ∧ w'.cell? ⟨w.heap.size, 7, none⟩ = some (.int .u16 s4) ∧ w'.cell? ⟨w.heap.size, 8, none⟩ = some (.int .u16 s5) ∧ w'.cell? ⟨w.heap.size, 9, none⟩ = some (.int .u16 s6) ∧ w'.cell? ⟨w.heap.size, 10, none⟩ = some (.int .u16 s7) ∧ w'.cell? ⟨w.heap.size, 11, none⟩ = some (.int .u16 s8)) (with_reducible (first | exact hSa.out | exact hSb.out | exact hSc.out)) ((first
    | (go_at_call 17; refine (cT _ HT.out.t).mono ?_; rintro r W1 ⟨rfl, hs1⟩; have hSb : Hid3 (SR w.heap.size s0 s1 s2 s3 s4 s5 s6 s7 s8 W1) := ⟨SR.stay hSa.out hs1.ap hnV⟩; have HS1 : Hid3 (AStp B (w.alloc (.cells #[.int .i64 3, .int .u8 u, .int .u16 wd, .int .u16 s0, .int .u16 s1, .int .u16 s2, .int .u16 s3, .int .u16 s4, .int .u16 s5, .int .u16 s6, .int .u16 s7, .int .u16 s8] 37)).drew W1 ab q') := ⟨hs1⟩; have HR1 : Hid3 (Rr B W1 rb q) := ⟨HT.out.rstay hs1.ap⟩; clear hs1)
    | (go_at_call 43; refine (cR _ HR1.out).mono ?_; rintro r W2 ⟨rfl, hs2⟩; have hSc : Hid3 (SR w.heap.size s0 s1 s2 s3 s4 s5 s6 s7 s8 W2) := ⟨SR.stay hSb.out hs2.ap hnR⟩; have HM : Hid3 (Mv B w W2 ab rb q') := ⟨(Mv.mk' HT.out HS1.out hs2).pre HX.out⟩; clear hs2)))
  all_goals (
    go_wp2
    go_ret
    exact ⟨rfl, HM.out⟩)
set_option maxHeartbeats 1000000 in
theorem do_else (B ab rb : Nat) (q : Ar) (k u wd : Int) (s : Rg) (w : World) (h : Two B w ab rb q) (h0 : k ≠ 0) (h1 : k ≠ 1) (h2 : k ≠ 2) (h3 : k ≠ 3) (h4 : k ≠ 4) : Calls Try.prog 23 #[.pointer (some ⟨ab, 0, none⟩), .pointer (some ⟨rb, 0, none⟩), (⟨k, u, wd, s⟩ : Dd).V] w fun r w' => r = .returned (.bool true) ∧ Mv B w w' ab rb q := by
  obtain ⟨s0, s1, s2, s3, s4, s5, s6, s7, s8⟩ := s
  have HM : Hid3 (Mv B w (w.alloc (.cells #[.int .i64 k, .int .u8 u, .int .u16 wd, .int .u16 s0, .int .u16 s1, .int .u16 s2, .int .u16 s3, .int .u16 s4, .int .u16 s5, .int .u16 s6, .int .u16 s7, .int .u16 s8] 37)) ab rb q) := ⟨Mv.same h (below_new w _)⟩
  have e0 : (k == 0) = false := by simpa using h0
  have e1 : (k == 1) = false := by simpa using h1
  have e2 : (k == 2) = false := by simpa using h2
  have e3 : (k == 3) = false := by simpa using h3
  have e4 : (k == 4) = false := by simpa using h4
  clear h
  change Calls _ _ #[_, _, .agg #[.int .i64 k, .int .u8 u, .int .u16 wd, .int .u16 s0, .int .u16 s1, .int .u16 s2, .int .u16 s3, .int .u16 s4, .int .u16 s5, .int .u16 s6, .int .u16 s7, .int .u16 s8]] _ _
  go_enter Try.func23, Try.ntmps23
  go_wp2
  go_ret
  exact ⟨rfl, HM.out⟩
theorem do_any (B ab rb : Nat) (q : Ar) (d : Dd) (w : World) (h : Two B w ab rb q) (hd : d.Ok) : Calls Try.prog 23 #[.pointer (some ⟨ab, 0, none⟩), .pointer (some ⟨rb, 0, none⟩), d.V] w fun r w' => r = .returned (.bool true) ∧ Mv B w w' ab rb (doQ d q) := by
  obtain ⟨k, u, wd, s⟩ := d
  unfold doQ
  have hd : 0 ≤ u := hd
  simp only
  by_cases h0 : k = 0
  · subst h0; exact do_0 B ab rb q u wd s w h hd
  by_cases h1 : k = 1
  · subst h1; exact do_1 B ab rb q u wd s w h hd
  by_cases h2 : k = 2
  · subst h2; exact do_2 B ab rb q u wd s w h hd
  by_cases h3 : k = 3
  · subst h3; exact do_3 B ab rb q u wd s w h hd
  by_cases h4 : k = 4
  · subst h4; exact do_4 B ab rb q u wd s w h hd
  rw [if_neg h0, if_neg h1, if_neg h2, if_neg h3, if_neg h4]
  exact do_else B ab rb q k u wd s w h h0 h1 h2 h3 h4
end Go.Proofs.Ytgoofonogdhhoaa
