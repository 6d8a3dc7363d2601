/- A deed on both: the law's do. -/
import Derived.Test.YtgfiliodbggahaaQuV
namespace Go.Proofs.Ytgfiliodbggahaa
open Go.RowKit Go.Maps
set_option linter.unusedVariables false
set_option maxRecDepth 100000
/-- A deed: kind, place, environment, to whom. -/
abbrev Dd := Int × Int × Int × Int
def ddV (d : Dd) : Value := .agg #[.int .i64 d.1, .int .i64 d.2.1, .int .u8 d.2.2.1, .int .u8 d.2.2.2]
def DdOk (d : Dd) : Prop := 0 ≤ d.2.2.1 ∧ 0 ≤ d.2.2.2
theorem b4d {W : World} {b : Nat} {x0 x1 x2 x3 : Value} {t : TypeId} (h : W.heap[b]? = some (.cells #[x0, x1, x2, x3] t)) : W.cell? ⟨b, 0, none⟩ = some x0 ∧ W.cell? ⟨b, 1, none⟩ = some x1 ∧ W.cell? ⟨b, 2, none⟩ = some x2 ∧ W.cell? ⟨b, 3, none⟩ = some x3 :=
  ⟨by rw [Lib.cell_of_heap h]; rfl, by rw [Lib.cell_of_heap h]; rfl, by rw [Lib.cell_of_heap h]; rfl, by rw [Lib.cell_of_heap h]; rfl⟩
abbrev SB (b : Nat) (place env to : Int) (W : World) : Prop := W.cell? ⟨b, 1, none⟩ = some (.int .i64 place) ∧ W.cell? ⟨b, 2, none⟩ = some (.int .u8 env) ∧ W.cell? ⟨b, 3, none⟩ = some (.int .u8 to)
theorem SB.stay {b : Nat} {place env to : Int} {X : Nat → Prop} {W W' : World} (h : SB b place env to W) (k : Apart X W W') (hx : ¬ X b) : SB b place env to W' := by
  have hb := k.block b (World.block_lt_of_cell? W _ h.1) hx
  refine ⟨?_, ?_, ?_⟩ <;> rw [World.cell?_of_block (w := W) hb]
  · exact h.1
  · exact h.2.1
  · exact h.2.2
set_option maxHeartbeats 1000000 in
theorem do_0 (B vb pb rb : Nat) (q : Qs) (place env to : Int) (w : World) (h : Two B w vb pb rb q) (hq : q.Ok) (h0 : 0 ≤ env) (h1 : 0 ≤ to) : Calls Try.prog 24 #[.pointer (some ⟨vb, 0, none⟩), .pointer (some ⟨rb, 0, none⟩), .agg #[.int .i64 0, .int .i64 place, .int .u8 env, .int .u8 to]] w fun r w' => r = .returned (.bool true) ∧ Mv B w w' vb pb rb (tkQ env place q) := by
  have hX : Below w.heap.size w (w.alloc (.cells #[.int .i64 0, .int .i64 place, .int .u8 env, .int .u8 to] 42)).drew := below_newd w _
  have hbx := heap_alloc_new w (.cells #[.int .i64 0, .int .i64 place, .int .u8 env, .int .u8 to] 42)
  obtain ⟨_, x1, x2, x3⟩ := b4d hbx
  have HT : Hid3 (Two B (w.alloc (.cells #[.int .i64 0, .int .i64 place, .int .u8 env, .int .u8 to] 42)).drew vb pb rb q) := ⟨h.below hX⟩
  have HX : Hid3 (Below w.heap.size w (w.alloc (.cells #[.int .i64 0, .int .i64 place, .int .u8 env, .int .u8 to] 42)).drew) := ⟨hX⟩
  have HS : Hid3 (SB w.heap.size place env to (w.alloc (.cells #[.int .i64 0, .int .i64 place, .int .u8 env, .int .u8 to] 42)).drew) := ⟨x1, x2, x3⟩
  have hlv := h.t.v.lt
  have hlp := h.t.p.lt
  have hlr := h.r.r.lt
  have hnV : ¬ XV vb pb w.heap.size := by rintro (e | e) <;> omega
  have hnR : ¬ XR rb w.heap.size := fun e => by have e' : w.heap.size = rb := e; omega
  have cT := fun W (hV : Vec B W vb pb q) => dtake_any B vb pb q env place W hV hq h0
  have cR := fun W (hV : Rv B W rb q) => rdtake_any B rb q env place W hV hq h0
  generalize tkQ env place q = q' at *
  generalize tkE env place q = z at *
  have hzz : (z == z) = true := by simp
  clear h hX hbx hq
  go_enter Try.func24, Try.ntmps24
  go_wp2_with fail
  have hSa : Hid3 (SB w.heap.size place env to (w.alloc (.cells #[.int .i64 0, .int .i64 place, .int .u8 env, .int .u8 to] 42)).drew) := HS
  clear x1 x2 x3
  go_region_held3 (fun w' => w'.cell? ⟨w.heap.size, 1, none⟩ = some (.int .i64 place) ∧ w'.cell? ⟨w.heap.size, 2, none⟩ = some (.int .u8 env) ∧ w'.cell? ⟨w.heap.size, 3, none⟩ = some (.int .u8 to)) (with_reducible (first | exact hSa.out | exact hSb.out | exact hSc.out)) ((first
    | (go_at_call 15; refine (cT _ HT.out.t).mono ?_; rintro r W1 ⟨rfl, hs1⟩; have hSb : Hid3 (SB w.heap.size place env to W1) := ⟨hSa.out.stay hs1.ap hnV⟩; have HS1 : Hid3 (VStp B (w.alloc (.cells #[.int .i64 0, .int .i64 place, .int .u8 env, .int .u8 to] 42)).drew W1 vb pb q') := ⟨hs1⟩; have HR1 : Hid3 (Rv B W1 rb q) := ⟨HT.out.r.stay hs1.ap HT.out.nv⟩; clear hs1)
    | (go_at_call 35; refine (cR _ HR1.out).mono ?_; rintro r W2 ⟨rfl, hs2⟩; have hSc : Hid3 (SB w.heap.size place env to W2) := ⟨hSb.out.stay hs2.ap hnR⟩; have HM : Hid3 (Mv B w W2 vb pb rb q') := ⟨(Mv.mk' HT.out HS1.out hs2).pre HX.out⟩; clear hs2)))
  all_goals (
    go_wp2
    go_ret
    exact ⟨rfl, HM.out⟩)
set_option maxHeartbeats 1000000 in
theorem do_1 (B vb pb rb : Nat) (q : Qs) (place env to : Int) (w : World) (h : Two B w vb pb rb q) (hq : q.Ok) (h0 : 0 ≤ env) (h1 : 0 ≤ to) : Calls Try.prog 24 #[.pointer (some ⟨vb, 0, none⟩), .pointer (some ⟨rb, 0, none⟩), .agg #[.int .i64 1, .int .i64 place, .int .u8 env, .int .u8 to]] w fun r w' => r = .returned (.bool true) ∧ Mv B w w' vb pb rb (gvQ env place to q) := by
  have hX : Below w.heap.size w (w.alloc (.cells #[.int .i64 1, .int .i64 place, .int .u8 env, .int .u8 to] 42)).drew := below_newd w _
  have hbx := heap_alloc_new w (.cells #[.int .i64 1, .int .i64 place, .int .u8 env, .int .u8 to] 42)
  obtain ⟨_, x1, x2, x3⟩ := b4d hbx
  have HT : Hid3 (Two B (w.alloc (.cells #[.int .i64 1, .int .i64 place, .int .u8 env, .int .u8 to] 42)).drew vb pb rb q) := ⟨h.below hX⟩
  have HX : Hid3 (Below w.heap.size w (w.alloc (.cells #[.int .i64 1, .int .i64 place, .int .u8 env, .int .u8 to] 42)).drew) := ⟨hX⟩
  have HS : Hid3 (SB w.heap.size place env to (w.alloc (.cells #[.int .i64 1, .int .i64 place, .int .u8 env, .int .u8 to] 42)).drew) := ⟨x1, x2, x3⟩
  have hlv := h.t.v.lt
  have hlp := h.t.p.lt
  have hlr := h.r.r.lt
  have hnV : ¬ XV vb pb w.heap.size := by rintro (e | e) <;> omega
  have hnR : ¬ XR rb w.heap.size := fun e => by have e' : w.heap.size = rb := e; omega
  have cT := fun W (hV : Vec B W vb pb q) => dgive_any B vb pb q env place to W hV hq h0 h1
  have cR := fun W (hV : Rv B W rb q) => rdgive_any B rb q env place to W hV hq h0 h1
  generalize gvQ env place to q = q' at *
  generalize gvE env place to q = z at *
  have hzz : (z == z) = true := by simp
  clear h hX hbx hq
  go_enter Try.func24, Try.ntmps24
  go_wp2_with fail
  have hSa : Hid3 (SB w.heap.size place env to (w.alloc (.cells #[.int .i64 1, .int .i64 place, .int .u8 env, .int .u8 to] 42)).drew) := HS
  clear x1 x2 x3
  go_region_held3 (fun w' => w'.cell? ⟨w.heap.size, 1, none⟩ = some (.int .i64 place) ∧ w'.cell? ⟨w.heap.size, 2, none⟩ = some (.int .u8 env) ∧ w'.cell? ⟨w.heap.size, 3, none⟩ = some (.int .u8 to)) (with_reducible (first | exact hSa.out | exact hSb.out | exact hSc.out)) ((first
    | (go_at_call 20; refine (cT _ HT.out.t).mono ?_; rintro r W1 ⟨rfl, hs1⟩; have hSb : Hid3 (SB w.heap.size place env to W1) := ⟨hSa.out.stay hs1.ap hnV⟩; have HS1 : Hid3 (VStp B (w.alloc (.cells #[.int .i64 1, .int .i64 place, .int .u8 env, .int .u8 to] 42)).drew W1 vb pb q') := ⟨hs1⟩; have HR1 : Hid3 (Rv B W1 rb q) := ⟨HT.out.r.stay hs1.ap HT.out.nv⟩; clear hs1)
    | (go_at_call 36; refine (cR _ HR1.out).mono ?_; rintro r W2 ⟨rfl, hs2⟩; have hSc : Hid3 (SB w.heap.size place env to W2) := ⟨hSb.out.stay hs2.ap hnR⟩; have HM : Hid3 (Mv B w W2 vb pb rb q') := ⟨(Mv.mk' HT.out HS1.out hs2).pre HX.out⟩; clear hs2)))
  all_goals (
    go_wp2
    go_ret
    exact ⟨rfl, HM.out⟩)
set_option maxHeartbeats 1000000 in
theorem do_2 (B vb pb rb : Nat) (q : Qs) (place env to : Int) (w : World) (h : Two B w vb pb rb q) (hq : q.Ok) (h0 : 0 ≤ env) (h1 : 0 ≤ to) : Calls Try.prog 24 #[.pointer (some ⟨vb, 0, none⟩), .pointer (some ⟨rb, 0, none⟩), .agg #[.int .i64 2, .int .i64 place, .int .u8 env, .int .u8 to]] w fun r w' => r = .returned (.bool true) ∧ Mv B w w' vb pb rb (dpQ env place q) := by
  have hX : Below w.heap.size w (w.alloc (.cells #[.int .i64 2, .int .i64 place, .int .u8 env, .int .u8 to] 42)).drew := below_newd w _
  have hbx := heap_alloc_new w (.cells #[.int .i64 2, .int .i64 place, .int .u8 env, .int .u8 to] 42)
  obtain ⟨_, x1, x2, x3⟩ := b4d hbx
  have HT : Hid3 (Two B (w.alloc (.cells #[.int .i64 2, .int .i64 place, .int .u8 env, .int .u8 to] 42)).drew vb pb rb q) := ⟨h.below hX⟩
  have HX : Hid3 (Below w.heap.size w (w.alloc (.cells #[.int .i64 2, .int .i64 place, .int .u8 env, .int .u8 to] 42)).drew) := ⟨hX⟩
  have HS : Hid3 (SB w.heap.size place env to (w.alloc (.cells #[.int .i64 2, .int .i64 place, .int .u8 env, .int .u8 to] 42)).drew) := ⟨x1, x2, x3⟩
  have hlv := h.t.v.lt
  have hlp := h.t.p.lt
  have hlr := h.r.r.lt
  have hnV : ¬ XV vb pb w.heap.size := by rintro (e | e) <;> omega
  have hnR : ¬ XR rb w.heap.size := fun e => by have e' : w.heap.size = rb := e; omega
  have cT := fun W (hV : Vec B W vb pb q) => ddrop_any B vb pb q env place W hV hq h0
  have cR := fun W (hV : Rv B W rb q) => rddrop_any B rb q env place W hV hq h0
  generalize dpQ env place q = q' at *
  generalize dpE env place q = z at *
  have hzz : (z == z) = true := by simp
  clear h hX hbx hq
  go_enter Try.func24, Try.ntmps24
  go_wp2_with fail
  have hSa : Hid3 (SB w.heap.size place env to (w.alloc (.cells #[.int .i64 2, .int .i64 place, .int .u8 env, .int .u8 to] 42)).drew) := HS
  clear x1 x2 x3
  go_region_held3 (fun w' => w'.cell? ⟨w.heap.size, 1, none⟩ = some (.int .i64 place) ∧ w'.cell? ⟨w.heap.size, 2, none⟩ = some (.int .u8 env) ∧ w'.cell? ⟨w.heap.size, 3, none⟩ = some (.int .u8 to)) (with_reducible (first | exact hSa.out | exact hSb.out | exact hSc.out)) ((first
    | (go_at_call 21; refine (cT _ HT.out.t).mono ?_; rintro r W1 ⟨rfl, hs1⟩; have hSb : Hid3 (SB w.heap.size place env to W1) := ⟨hSa.out.stay hs1.ap hnV⟩; have HS1 : Hid3 (VStp B (w.alloc (.cells #[.int .i64 2, .int .i64 place, .int .u8 env, .int .u8 to] 42)).drew W1 vb pb q') := ⟨hs1⟩; have HR1 : Hid3 (Rv B W1 rb q) := ⟨HT.out.r.stay hs1.ap HT.out.nv⟩; clear hs1)
    | (go_at_call 37; refine (cR _ HR1.out).mono ?_; rintro r W2 ⟨rfl, hs2⟩; have hSc : Hid3 (SB w.heap.size place env to W2) := ⟨hSb.out.stay hs2.ap hnR⟩; have HM : Hid3 (Mv B w W2 vb pb rb q') := ⟨(Mv.mk' HT.out HS1.out hs2).pre HX.out⟩; clear hs2)))
  all_goals (
    go_wp2
    go_ret
    exact ⟨rfl, HM.out⟩)
set_option maxHeartbeats 1000000 in
theorem do_3 (B vb pb rb : Nat) (q : Qs) (place env to : Int) (w : World) (h : Two B w vb pb rb q) (hq : q.Ok) (h0 : 0 ≤ env) (h1 : 0 ≤ to) : Calls Try.prog 24 #[.pointer (some ⟨vb, 0, none⟩), .pointer (some ⟨rb, 0, none⟩), .agg #[.int .i64 3, .int .i64 place, .int .u8 env, .int .u8 to]] w fun r w' => r = .returned (.bool true) ∧ Mv B w w' vb pb rb (otQ env q) := by
  have hX : Below w.heap.size w (w.alloc (.cells #[.int .i64 3, .int .i64 place, .int .u8 env, .int .u8 to] 42)).drew := below_newd w _
  have hbx := heap_alloc_new w (.cells #[.int .i64 3, .int .i64 place, .int .u8 env, .int .u8 to] 42)
  obtain ⟨_, x1, x2, x3⟩ := b4d hbx
  have HT : Hid3 (Two B (w.alloc (.cells #[.int .i64 3, .int .i64 place, .int .u8 env, .int .u8 to] 42)).drew vb pb rb q) := ⟨h.below hX⟩
  have HX : Hid3 (Below w.heap.size w (w.alloc (.cells #[.int .i64 3, .int .i64 place, .int .u8 env, .int .u8 to] 42)).drew) := ⟨hX⟩
  have HS : Hid3 (SB w.heap.size place env to (w.alloc (.cells #[.int .i64 3, .int .i64 place, .int .u8 env, .int .u8 to] 42)).drew) := ⟨x1, x2, x3⟩
  have hlv := h.t.v.lt
  have hlp := h.t.p.lt
  have hlr := h.r.r.lt
  have hnV : ¬ XV vb pb w.heap.size := by rintro (e | e) <;> omega
  have hnR : ¬ XR rb w.heap.size := fun e => by have e' : w.heap.size = rb := e; omega
  have cT := fun W (hV : Vec B W vb pb q) => dout_any B vb pb q env W hV hq h0
  have cR := fun W (hV : Rv B W rb q) => rdout_any B rb q env W hV hq h0
  generalize otQ env q = q' at *
  generalize otE env q = z at *
  have hzz : (z == z) = true := by simp
  clear h hX hbx hq
  go_enter Try.func24, Try.ntmps24
  go_wp2_with fail
  have hSa : Hid3 (SB w.heap.size place env to (w.alloc (.cells #[.int .i64 3, .int .i64 place, .int .u8 env, .int .u8 to] 42)).drew) := HS
  clear x1 x2 x3
  go_region_held3 (fun w' => w'.cell? ⟨w.heap.size, 1, none⟩ = some (.int .i64 place) ∧ w'.cell? ⟨w.heap.size, 2, none⟩ = some (.int .u8 env) ∧ w'.cell? ⟨w.heap.size, 3, none⟩ = some (.int .u8 to)) (with_reducible (first | exact hSa.out | exact hSb.out | exact hSc.out)) ((first
    | (go_at_call 14; refine (cT _ HT.out.t).mono ?_; rintro r W1 ⟨rfl, hs1⟩; have hSb : Hid3 (SB w.heap.size place env to W1) := ⟨hSa.out.stay hs1.ap hnV⟩; have HS1 : Hid3 (VStp B (w.alloc (.cells #[.int .i64 3, .int .i64 place, .int .u8 env, .int .u8 to] 42)).drew W1 vb pb q') := ⟨hs1⟩; have HR1 : Hid3 (Rv B W1 rb q) := ⟨HT.out.r.stay hs1.ap HT.out.nv⟩; clear hs1)
    | (go_at_call 38; refine (cR _ HR1.out).mono ?_; rintro r W2 ⟨rfl, hs2⟩; have hSc : Hid3 (SB w.heap.size place env to W2) := ⟨hSb.out.stay hs2.ap hnR⟩; have HM : Hid3 (Mv B w W2 vb pb rb q') := ⟨(Mv.mk' HT.out HS1.out hs2).pre HX.out⟩; clear hs2)))
  all_goals (
    go_wp2
    go_ret
    exact ⟨rfl, HM.out⟩)
set_option maxHeartbeats 1000000 in
theorem do_4 (B vb pb rb : Nat) (q : Qs) (place env to : Int) (w : World) (h : Two B w vb pb rb q) (hq : q.Ok) (h0 : 0 ≤ env) (h1 : 0 ≤ to) : Calls Try.prog 24 #[.pointer (some ⟨vb, 0, none⟩), .pointer (some ⟨rb, 0, none⟩), .agg #[.int .i64 4, .int .i64 place, .int .u8 env, .int .u8 to]] w fun r w' => r = .returned (.bool true) ∧ Mv B w w' vb pb rb (ovQ env place q) := by
  have hX : Below w.heap.size w (w.alloc (.cells #[.int .i64 4, .int .i64 place, .int .u8 env, .int .u8 to] 42)).drew := below_newd w _
  have hbx := heap_alloc_new w (.cells #[.int .i64 4, .int .i64 place, .int .u8 env, .int .u8 to] 42)
  obtain ⟨_, x1, x2, x3⟩ := b4d hbx
  have HT : Hid3 (Two B (w.alloc (.cells #[.int .i64 4, .int .i64 place, .int .u8 env, .int .u8 to] 42)).drew vb pb rb q) := ⟨h.below hX⟩
  have HX : Hid3 (Below w.heap.size w (w.alloc (.cells #[.int .i64 4, .int .i64 place, .int .u8 env, .int .u8 to] 42)).drew) := ⟨hX⟩
  have HS : Hid3 (SB w.heap.size place env to (w.alloc (.cells #[.int .i64 4, .int .i64 place, .int .u8 env, .int .u8 to] 42)).drew) := ⟨x1, x2, x3⟩
  have hlv := h.t.v.lt
  have hlp := h.t.p.lt
  have hlr := h.r.r.lt
  have hnV : ¬ XV vb pb w.heap.size := by rintro (e | e) <;> omega
  have hnR : ¬ XR rb w.heap.size := fun e => by have e' : w.heap.size = rb := e; omega
  have cT := fun W (hV : Vec B W vb pb q) => dover_any B vb pb q env place W hV hq h0
  have cR := fun W (hV : Rv B W rb q) => rdover_any B rb q env place W hV hq h0
  generalize ovQ env place q = q' at *
  generalize ovE env place = z at *
  have hzz : (z == z) = true := by simp
  clear h hX hbx hq
  go_enter Try.func24, Try.ntmps24
  go_wp2_with fail
  have hSa : Hid3 (SB w.heap.size place env to (w.alloc (.cells #[.int .i64 4, .int .i64 place, .int .u8 env, .int .u8 to] 42)).drew) := HS
  clear x1 x2 x3
  go_region_held3 (fun w' => w'.cell? ⟨w.heap.size, 1, none⟩ = some (.int .i64 place) ∧ w'.cell? ⟨w.heap.size, 2, none⟩ = some (.int .u8 env) ∧ w'.cell? ⟨w.heap.size, 3, none⟩ = some (.int .u8 to)) (with_reducible (first | exact hSa.out | exact hSb.out | exact hSc.out)) ((first
    | (go_at_call 18; refine (cT _ HT.out.t).mono ?_; rintro r W1 ⟨rfl, hs1⟩; have hSb : Hid3 (SB w.heap.size place env to W1) := ⟨hSa.out.stay hs1.ap hnV⟩; have HS1 : Hid3 (VStp B (w.alloc (.cells #[.int .i64 4, .int .i64 place, .int .u8 env, .int .u8 to] 42)).drew W1 vb pb q') := ⟨hs1⟩; have HR1 : Hid3 (Rv B W1 rb q) := ⟨HT.out.r.stay hs1.ap HT.out.nv⟩; clear hs1)
    | (go_at_call 39; refine (cR _ HR1.out).mono ?_; rintro r W2 ⟨rfl, hs2⟩; have hSc : Hid3 (SB w.heap.size place env to W2) := ⟨hSb.out.stay hs2.ap hnR⟩; have HM : Hid3 (Mv B w W2 vb pb rb q') := ⟨(Mv.mk' HT.out HS1.out hs2).pre HX.out⟩; clear hs2)))
  all_goals (
    go_wp2
    go_ret
    exact ⟨rfl, HM.out⟩)
end Go.Proofs.Ytgfiliodbggahaa
