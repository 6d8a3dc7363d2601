/- A deed on both. -/
import Derived.Test.YtpmndhbcohjboaaRvW
import Derived.Test.YtpmndhbcohjboaaRvN
namespace Go.Proofs.Ytpmndhbcohjboaa
open Go.RowKit Go.Maps
set_option linter.unusedVariables false
set_option maxRecDepth 100000
/-- A deed's cells. -/
structure SD (c : Nat) (n h e f : Int) (W : World) : Prop where
  c1 : W.cell? ⟨c, 1, none⟩ = some (.int .i64 n)
  c2 : W.cell? ⟨c, 2, none⟩ = some (.int .i64 h)
  c3 : W.cell? ⟨c, 3, none⟩ = some (.int .u8 e)
  c4 : W.cell? ⟨c, 4, none⟩ = some (.int .u8 f)
theorem SD.stay {c : Nat} {n h e f : Int} {W W' : World} {X : Nat → Prop} (s : SD c n h e f W) (k : Apart X W W') (hx : ¬ X c) : SD c n h e f W' := by
  have hc : c < W.heap.size := World.block_lt_of_cell? W _ s.c1
  have hb := k.block c hc hx
  exact ⟨(World.cell?_of_block hb).trans s.c1, (World.cell?_of_block hb).trans s.c2, (World.cell?_of_block hb).trans s.c3, (World.cell?_of_block hb).trans s.c4⟩
def S4 (c : Nat) (n h e f : Int) (W : World) : Prop := W.cell? ⟨c, 1, none⟩ = some (.int .i64 n) ∧ W.cell? ⟨c, 2, none⟩ = some (.int .i64 h) ∧ W.cell? ⟨c, 3, none⟩ = some (.int .u8 e) ∧ W.cell? ⟨c, 4, none⟩ = some (.int .u8 f)
theorem SD.four {c : Nat} {n h e f : Int} {W : World} (s : SD c n h e f W) : W.cell? ⟨c, 1, none⟩ = some (.int .i64 n) ∧ W.cell? ⟨c, 2, none⟩ = some (.int .i64 h) ∧ W.cell? ⟨c, 3, none⟩ = some (.int .u8 e) ∧ W.cell? ⟨c, 4, none⟩ = some (.int .u8 f) := ⟨s.c1, s.c2, s.c3, s.c4⟩
set_option maxHeartbeats 4000000 in
theorem do_0 (Bp B b m rb : Nat) (av lv : Value) (vs ls : Fin 6 → Value) (q : Rs) (N : Nat) (n h e f : Int) (w : World) (ht : Two Bp B w b m rb av lv vs ls q) (hO : q.Ok N) (hN : N ≤ 900) (he : 0 ≤ e) (hf : 0 ≤ f) : Calls Try.prog 22 #[.pointer (some ⟨b, 0, none⟩), .pointer (some ⟨rb, 0, none⟩), (⟨0, n, h, e, f⟩ : Dd).V] w fun r w' => r = .returned (.bool true) ∧ Mv Bp B w w' b m rb (askQ e f n h q) := by
  have hX := below_newd w (.cells #[.int .i64 0, .int .i64 n, .int .i64 h, .int .u8 e, .int .u8 f] 31)
  have HT := Hid3.mk (ht.below hX)
  have HX := Hid3.mk hX
  have hrl := ht.r.k.lt
  have hBp : Bp ≤ w.heap.size := Nat.le_trans ht.g (Nat.le_of_lt hrl)
  have hnX : ¬ XK b m av vs w.heap.size := fun i => Nat.lt_irrefl _ (ht.t.lt _ i).2
  have hnY : ¬ XB rb w.heap.size := fun i => by
    have i : w.heap.size = rb := i
    omega
  have hSa : Hid3 (SD w.heap.size n h e f (w.alloc (.cells #[.int .i64 0, .int .i64 n, .int .i64 h, .int .u8 e, .int .u8 f] 31)).drew) := ⟨(Cl.new w 31 [.int .i64 0, .int .i64 n, .int .i64 h, .int .u8 e, .int .u8 f]).cell 1, (Cl.new w 31 [.int .i64 0, .int .i64 n, .int .i64 h, .int .u8 e, .int .u8 f]).cell 2, (Cl.new w 31 [.int .i64 0, .int .i64 n, .int .i64 h, .int .u8 e, .int .u8 f]).cell 3, (Cl.new w 31 [.int .i64 0, .int .i64 n, .int .i64 h, .int .u8 e, .int .u8 f]).cell 4⟩
  have cT := fun W (hV : Bk Bp W b m av vs q) => ask_any Bp b m av vs q N e f n h W hV hO
  have cR := fun W (hV : Rk B W rb lv ls q) => rask_any B rb lv ls q N e f n h W hV hO
  generalize askQ e f n h q = q' at *
  generalize askE e f n h q = z at *
  have hzz : (z == z) = true := by simp
  clear ht hX hO
  change Calls _ _ #[_, _, .agg #[.int .i64 0, .int .i64 n, .int .i64 h, .int .u8 e, .int .u8 f]] _ _
  go_enter Try.func22, Try.ntmps22
  go_wp2_with fail
  go_region_held3 (fun w' => w'.cell? ⟨w.heap.size, 1, none⟩ = some (.int .i64 n) ∧ w'.cell? ⟨w.heap.size, 2, none⟩ = some (.int .i64 h) ∧ w'.cell? ⟨w.heap.size, 3, none⟩ = some (.int .u8 e) ∧ w'.cell? ⟨w.heap.size, 4, none⟩ = some (.int .u8 f)) (with_reducible (first | exact hSa.out.four | exact hSb.out.four | exact hSc.out.four)) ((first
    | (go_at_call 13; refine (cT _ HT.out.t).mono ?_; rintro r W1 ⟨rfl, hs1⟩; have HS1 := Hid3.mk hs1; have hap : Apart (XK b m av vs) (w.alloc (.cells #[.int .i64 0, .int .i64 n, .int .i64 h, .int .u8 e, .int .u8 f] 31)).drew W1 := by { obtain ⟨_, _, _, x, _⟩ := hs1.out; exact x }; have hSb : Hid3 (SD w.heap.size n h e f W1) := ⟨hSa.out.stay hap hnX⟩; have HR1 : Hid3 (Rk B W1 rb lv ls q) := ⟨HT.out.rstay hap⟩; clear hs1 hap)
    | (go_at_call 43; refine (cR _ HR1.out).mono ?_; rintro r W2 ⟨rfl, hs2⟩; have hap2 : Apart (XB rb) W1 W2 := by { obtain ⟨_, _, _, x, _⟩ := hs2.out; exact x }; have hSc : Hid3 (SD w.heap.size n h e f W2) := ⟨hSb.out.stay hap2 hnY⟩; have HM : Hid3 (Mv Bp B w W2 b m rb q') := ⟨(HT.out.mv HS1.out (Below.refl _ _) hs2).pre HX.out hBp⟩; clear hs2 hap2)))
  all_goals (
    go_wp2
    go_ret
    exact ⟨rfl, HM.out⟩)
set_option maxHeartbeats 4000000 in
theorem do_1 (Bp B b m rb : Nat) (av lv : Value) (vs ls : Fin 6 → Value) (q : Rs) (N : Nat) (n h e f : Int) (w : World) (ht : Two Bp B w b m rb av lv vs ls q) (hO : q.Ok N) (hN : N ≤ 900) (he : 0 ≤ e) (hf : 0 ≤ f) : Calls Try.prog 22 #[.pointer (some ⟨b, 0, none⟩), .pointer (some ⟨rb, 0, none⟩), (⟨1, n, h, e, f⟩ : Dd).V] w fun r w' => r = .returned (.bool true) ∧ Mv Bp B w w' b m rb (doneQ e f q) := by
  have hX := below_newd w (.cells #[.int .i64 1, .int .i64 n, .int .i64 h, .int .u8 e, .int .u8 f] 31)
  have HT := Hid3.mk (ht.below hX)
  have HX := Hid3.mk hX
  have hrl := ht.r.k.lt
  have hBp : Bp ≤ w.heap.size := Nat.le_trans ht.g (Nat.le_of_lt hrl)
  have hnX : ¬ XK b m av vs w.heap.size := fun i => Nat.lt_irrefl _ (ht.t.lt _ i).2
  have hnY : ¬ XB rb w.heap.size := fun i => by
    have i : w.heap.size = rb := i
    omega
  have hSa : Hid3 (SD w.heap.size n h e f (w.alloc (.cells #[.int .i64 1, .int .i64 n, .int .i64 h, .int .u8 e, .int .u8 f] 31)).drew) := ⟨(Cl.new w 31 [.int .i64 1, .int .i64 n, .int .i64 h, .int .u8 e, .int .u8 f]).cell 1, (Cl.new w 31 [.int .i64 1, .int .i64 n, .int .i64 h, .int .u8 e, .int .u8 f]).cell 2, (Cl.new w 31 [.int .i64 1, .int .i64 n, .int .i64 h, .int .u8 e, .int .u8 f]).cell 3, (Cl.new w 31 [.int .i64 1, .int .i64 n, .int .i64 h, .int .u8 e, .int .u8 f]).cell 4⟩
  have cT := fun W (hV : Bk Bp W b m av vs q) => done_any Bp b m av vs q N e f W hV hO
  have cR := fun W (hV : Rk B W rb lv ls q) => rdone_any B rb lv ls q N e f W hV hO
  generalize doneQ e f q = q' at *
  generalize doneE e f q = z at *
  have hzz : (z == z) = true := by simp
  clear ht hX hO
  change Calls _ _ #[_, _, .agg #[.int .i64 1, .int .i64 n, .int .i64 h, .int .u8 e, .int .u8 f]] _ _
  go_enter Try.func22, Try.ntmps22
  go_wp2_with fail
  go_region_held3 (fun w' => w'.cell? ⟨w.heap.size, 1, none⟩ = some (.int .i64 n) ∧ w'.cell? ⟨w.heap.size, 2, none⟩ = some (.int .i64 h) ∧ w'.cell? ⟨w.heap.size, 3, none⟩ = some (.int .u8 e) ∧ w'.cell? ⟨w.heap.size, 4, none⟩ = some (.int .u8 f)) (with_reducible (first | exact hSa.out.four | exact hSb.out.four | exact hSc.out.four)) ((first
    | (go_at_call 16; refine (cT _ HT.out.t).mono ?_; rintro r W1 ⟨rfl, hs1⟩; have HS1 := Hid3.mk hs1; have hap : Apart (XK b m av vs) (w.alloc (.cells #[.int .i64 1, .int .i64 n, .int .i64 h, .int .u8 e, .int .u8 f] 31)).drew W1 := by { obtain ⟨_, _, _, x, _⟩ := hs1.out; exact x }; have hSb : Hid3 (SD w.heap.size n h e f W1) := ⟨hSa.out.stay hap hnX⟩; have HR1 : Hid3 (Rk B W1 rb lv ls q) := ⟨HT.out.rstay hap⟩; clear hs1 hap)
    | (go_at_call 44; refine (cR _ HR1.out).mono ?_; rintro r W2 ⟨rfl, hs2⟩; have hap2 : Apart (XB rb) W1 W2 := by { obtain ⟨_, _, _, x, _⟩ := hs2.out; exact x }; have hSc : Hid3 (SD w.heap.size n h e f W2) := ⟨hSb.out.stay hap2 hnY⟩; have HM : Hid3 (Mv Bp B w W2 b m rb q') := ⟨(HT.out.mv HS1.out (Below.refl _ _) hs2).pre HX.out hBp⟩; clear hs2 hap2)))
  all_goals (
    go_wp2
    go_ret
    exact ⟨rfl, HM.out⟩)
set_option maxHeartbeats 4000000 in
theorem do_4 (Bp B b m rb : Nat) (av lv : Value) (vs ls : Fin 6 → Value) (q : Rs) (N : Nat) (n h e f : Int) (w : World) (ht : Two Bp B w b m rb av lv vs ls q) (hO : q.Ok N) (hN : N ≤ 900) (he : 0 ≤ e) (hf : 0 ≤ f) : Calls Try.prog 22 #[.pointer (some ⟨b, 0, none⟩), .pointer (some ⟨rb, 0, none⟩), (⟨4, n, h, e, f⟩ : Dd).V] w fun r w' => r = .returned (.bool true) ∧ Mv Bp B w w' b m rb (outQ e q) := by
  have hX := below_newd w (.cells #[.int .i64 4, .int .i64 n, .int .i64 h, .int .u8 e, .int .u8 f] 31)
  have HT := Hid3.mk (ht.below hX)
  have HX := Hid3.mk hX
  have hrl := ht.r.k.lt
  have hBp : Bp ≤ w.heap.size := Nat.le_trans ht.g (Nat.le_of_lt hrl)
  have hnX : ¬ XK b m av vs w.heap.size := fun i => Nat.lt_irrefl _ (ht.t.lt _ i).2
  have hnY : ¬ XB rb w.heap.size := fun i => by
    have i : w.heap.size = rb := i
    omega
  have hSa : Hid3 (SD w.heap.size n h e f (w.alloc (.cells #[.int .i64 4, .int .i64 n, .int .i64 h, .int .u8 e, .int .u8 f] 31)).drew) := ⟨(Cl.new w 31 [.int .i64 4, .int .i64 n, .int .i64 h, .int .u8 e, .int .u8 f]).cell 1, (Cl.new w 31 [.int .i64 4, .int .i64 n, .int .i64 h, .int .u8 e, .int .u8 f]).cell 2, (Cl.new w 31 [.int .i64 4, .int .i64 n, .int .i64 h, .int .u8 e, .int .u8 f]).cell 3, (Cl.new w 31 [.int .i64 4, .int .i64 n, .int .i64 h, .int .u8 e, .int .u8 f]).cell 4⟩
  have cT := fun W (hV : Bk Bp W b m av vs q) => outc_any Bp b m av vs q N e he W hV hO
  have cR := fun W (hV : Rk B W rb lv ls q) => rout_any B rb lv ls q N e he W hV hO
  generalize outQ e q = q' at *
  generalize ((outN e q : Nat) : Int) = z at *
  have hzz : (z == z) = true := by simp
  clear ht hX hO
  change Calls _ _ #[_, _, .agg #[.int .i64 4, .int .i64 n, .int .i64 h, .int .u8 e, .int .u8 f]] _ _
  go_enter Try.func22, Try.ntmps22
  go_wp2_with fail
  go_region_held3 (fun w' => w'.cell? ⟨w.heap.size, 1, none⟩ = some (.int .i64 n) ∧ w'.cell? ⟨w.heap.size, 2, none⟩ = some (.int .i64 h) ∧ w'.cell? ⟨w.heap.size, 3, none⟩ = some (.int .u8 e) ∧ w'.cell? ⟨w.heap.size, 4, none⟩ = some (.int .u8 f)) (with_reducible (first | exact hSa.out.four | exact hSb.out.four | exact hSc.out.four)) ((first
    | (go_at_call 12; refine (cT _ HT.out.t).mono ?_; rintro r W1 ⟨rfl, hs1⟩; have HS1 := Hid3.mk hs1; have hap : Apart (XK b m av vs) (w.alloc (.cells #[.int .i64 4, .int .i64 n, .int .i64 h, .int .u8 e, .int .u8 f] 31)).drew W1 := by { obtain ⟨_, _, _, x, _⟩ := hs1.out; exact x }; have hSb : Hid3 (SD w.heap.size n h e f W1) := ⟨hSa.out.stay hap hnX⟩; have HR1 : Hid3 (Rk B W1 rb lv ls q) := ⟨HT.out.rstay hap⟩; clear hs1 hap)
    | (go_at_call 47; refine (cR _ HR1.out).mono ?_; rintro r W2 ⟨rfl, hs2⟩; have hap2 : Apart (XB rb) W1 W2 := by { obtain ⟨_, _, _, x, _⟩ := hs2.out; exact x }; have hSc : Hid3 (SD w.heap.size n h e f W2) := ⟨hSb.out.stay hap2 hnY⟩; have HM : Hid3 (Mv Bp B w W2 b m rb q') := ⟨(HT.out.mv HS1.out (Below.refl _ _) hs2).pre HX.out hBp⟩; clear hs2 hap2)))
  all_goals (
    go_wp2
    go_ret
    exact ⟨rfl, HM.out⟩)
set_option maxHeartbeats 4000000 in
theorem do_2 (Bp B b m rb : Nat) (av lv : Value) (vs ls : Fin 6 → Value) (q : Rs) (N : Nat) (n h e f : Int) (w : World) (ht : Two Bp B w b m rb av lv vs ls q) (hO : q.Ok N) (hN : N ≤ 900) (he : 0 ≤ e) (hf : 0 ≤ f) : Calls Try.prog 22 #[.pointer (some ⟨b, 0, none⟩), .pointer (some ⟨rb, 0, none⟩), (⟨2, n, h, e, f⟩ : Dd).V] w fun r w' => r = .returned (.bool true) ∧ Mv Bp B w w' b m rb (dueQ n q) := by
  have hX := below_newd w (.cells #[.int .i64 2, .int .i64 n, .int .i64 h, .int .u8 e, .int .u8 f] 31)
  have HT := Hid3.mk (ht.below hX)
  have HX := Hid3.mk hX
  have hrl := ht.r.k.lt
  have hBp : Bp ≤ w.heap.size := Nat.le_trans ht.g (Nat.le_of_lt hrl)
  have hnX : ¬ XK b m av vs w.heap.size := fun i => Nat.lt_irrefl _ (ht.t.lt _ i).2
  have hnY : ¬ XB rb w.heap.size := fun i => by
    have i : w.heap.size = rb := i
    omega
  have hSa : Hid3 (SD w.heap.size n h e f (w.alloc (.cells #[.int .i64 2, .int .i64 n, .int .i64 h, .int .u8 e, .int .u8 f] 31)).drew) := ⟨(Cl.new w 31 [.int .i64 2, .int .i64 n, .int .i64 h, .int .u8 e, .int .u8 f]).cell 1, (Cl.new w 31 [.int .i64 2, .int .i64 n, .int .i64 h, .int .u8 e, .int .u8 f]).cell 2, (Cl.new w 31 [.int .i64 2, .int .i64 n, .int .i64 h, .int .u8 e, .int .u8 f]).cell 3, (Cl.new w 31 [.int .i64 2, .int .i64 n, .int .i64 h, .int .u8 e, .int .u8 f]).cell 4⟩
  have hdl : (dueL n q).length ≤ 8 := Nat.le_trans (List.length_filter_le _ _) hO.few
  have cT := fun W (hV : Bk Bp W b m av vs q) => due_any Bp b m av vs q N n W hV hO hN
  have cR := fun W (hV : Rk B W rb lv ls q) => rdue_any B rb lv ls q N n W hV hO hN
  generalize dueQ n q = q' at *
  generalize dueL n q = L at *
  clear ht hX hO
  change Calls _ _ #[_, _, .agg #[.int .i64 2, .int .i64 n, .int .i64 h, .int .u8 e, .int .u8 f]] _ _
  go_enter Try.func22, Try.ntmps22
  go_wp2_with fail
  go_region_held3 (fun w' => w'.cell? ⟨w.heap.size, 1, none⟩ = some (.int .i64 n) ∧ w'.cell? ⟨w.heap.size, 2, none⟩ = some (.int .i64 h) ∧ w'.cell? ⟨w.heap.size, 3, none⟩ = some (.int .u8 e) ∧ w'.cell? ⟨w.heap.size, 4, none⟩ = some (.int .u8 f)) (with_reducible (first | exact hSa.out.four | exact hSb.out.four | exact hSc.out.four | exact hSd.out.four)) ((first
    | (go_at_call 15; refine (cT _ HT.out.t).mono ?_; rintro r W1 ⟨u1, rfl, hu1, hs1⟩; have HU1 := Hid3.mk hu1; have HS1 := Hid3.mk hs1; have hap : Apart (XK b m av vs) (w.alloc (.cells #[.int .i64 2, .int .i64 n, .int .i64 h, .int .u8 e, .int .u8 f] 31)).drew W1 := by { obtain ⟨_, _, _, x, _⟩ := hs1.out; exact x }; have hSb : Hid3 (SD w.heap.size n h e f W1) := ⟨hSa.out.stay hap hnX⟩; have HR1 : Hid3 (Rk B W1 rb lv ls q) := ⟨HT.out.rstay hap⟩; clear hs1 hap hu1)
    | (go_at_call 45; refine (cR _ HR1.out).mono ?_; rintro r W2 ⟨u2, rfl, hu2, hs2⟩; have hap2 : Apart (XB rb) W1 W2 := by { obtain ⟨_, _, _, x, _⟩ := hs2.out; exact x }; have hSc : Hid3 (SD w.heap.size n h e f W2) := ⟨hSb.out.stay hap2 hnY⟩; have HM : Hid3 (Mv Bp B w W2 b m rb q') := ⟨(HT.out.mv HS1.out (Below.refl _ _) hs2).pre HX.out hBp⟩; have HU2 := Hid3.mk hu2; have HU3 := Hid3.mk (HU1.out.stay hap2 (fun g hg i => by { have i : g = rb := i; have x1 := (HU1.out.lt g hg).1; have x2 : w.heap.size + 1 ≤ g := Nat.le_trans (by simp) x1; omega })); clear hs2 hap2 hu2)
    | (go_at_call 27; refine (same_any _ _ _ _ L W2 HU3.out HU2.out hdl).mono ?_; rintro r W3 ⟨rfl, hb3⟩; have hSd : Hid3 (SD w.heap.size n h e f W3) := ⟨hSc.out.stay (Apart.of_below (X := fun _ => False) hb3) id⟩; have HM3 : Hid3 (Mv Bp B w W3 b m rb q') := ⟨HM.out.post hb3 (Nat.le_trans hBp HM.out.below.size)⟩; clear hb3)))
  all_goals (
    go_wp2
    go_ret
    exact ⟨rfl, HM3.out⟩)
set_option maxHeartbeats 4000000 in
theorem do_3 (Bp B b m rb : Nat) (av lv : Value) (vs ls : Fin 6 → Value) (q : Rs) (N : Nat) (n h e f : Int) (w : World) (ht : Two Bp B w b m rb av lv vs ls q) (hO : q.Ok N) (hN : N ≤ 900) (he : 0 ≤ e) (hf : 0 ≤ f) : Calls Try.prog 22 #[.pointer (some ⟨b, 0, none⟩), .pointer (some ⟨rb, 0, none⟩), (⟨3, n, h, e, f⟩ : Dd).V] w fun r w' => r = .returned (.bool true) ∧ Mv Bp B w w' b m rb (nextQ e q) := by
  have hX := below_new w (.cells #[.int .i64 3, .int .i64 n, .int .i64 h, .int .u8 e, .int .u8 f] 31)
  have HT := Hid3.mk (ht.below hX)
  have HX := Hid3.mk hX
  have hrl := ht.r.k.lt
  have hBp : Bp ≤ w.heap.size := Nat.le_trans ht.g (Nat.le_of_lt hrl)
  have hnX : ¬ XK b m av vs w.heap.size := fun i => Nat.lt_irrefl _ (ht.t.lt _ i).2
  have hnY : ¬ XB rb w.heap.size := fun i => by
    have i : w.heap.size = rb := i
    omega
  have hSa : Hid3 (SD w.heap.size n h e f (w.alloc (.cells #[.int .i64 3, .int .i64 n, .int .i64 h, .int .u8 e, .int .u8 f] 31))) := ⟨(Cl.new w 31 [.int .i64 3, .int .i64 n, .int .i64 h, .int .u8 e, .int .u8 f]).cell 1, (Cl.new w 31 [.int .i64 3, .int .i64 n, .int .i64 h, .int .u8 e, .int .u8 f]).cell 2, (Cl.new w 31 [.int .i64 3, .int .i64 n, .int .i64 h, .int .u8 e, .int .u8 f]).cell 3, (Cl.new w 31 [.int .i64 3, .int .i64 n, .int .i64 h, .int .u8 e, .int .u8 f]).cell 4⟩
  have cT := fun W (hV : Bk Bp W b m av vs q) => next_any Bp b m av vs q e he W hV
  have cR := fun W (hV : Rk B W rb lv ls q) => rnext_any B rb lv ls q N e he W hV hO (by omega)
  generalize nextQ e q = q' at *
  generalize nextV e q = z at *
  generalize nextB e q = z2 at *
  have hzz : (z == z) = true := by simp
  have y3 := hSa.out.c3
  have yl : w.heap.size < (w.alloc (.cells #[.int .i64 3, .int .i64 n, .int .i64 h, .int .u8 e, .int .u8 f] 31)).heap.size := by simp
  clear ht hX hO
  change Calls _ _ #[_, _, .agg #[.int .i64 3, .int .i64 n, .int .i64 h, .int .u8 e, .int .u8 f]] _ _
  go_enter Try.func22, Try.ntmps22
  go_wp2_with fail
  generalize (w.alloc (.cells #[.int .i64 3, .int .i64 n, .int .i64 h, .int .u8 e, .int .u8 f] 31)) = W0 at *
  refine (cT _ HT.out.t).mono ?_
  rintro r W1 ⟨rfl, hs1⟩
  have HS1 := Hid3.mk hs1
  have hap : Apart (XK b m av vs) W0 W1 := by
    obtain ⟨_, _, _, x, _⟩ := hs1.out
    exact x
  have hSb := hSa.out.stay hap hnX
  have z3 := hSb.c3
  have zl : w.heap.size < W1.heap.size := Nat.lt_of_lt_of_le yl hap.size
  have HR1 : Hid3 (Rk B W1 rb lv ls q) := ⟨HT.out.rstay hap⟩
  clear hs1 hap hSb y3 yl cT
  go_wp2_with fail
  refine (cR _ HR1.out).mono ?_
  rintro r W2 ⟨rfl, hs2⟩
  have HM : Hid3 (Mv Bp B w W2 b m rb q') := ⟨(HT.out.mv HS1.out (Below.refl _ _) hs2).pre HX.out hBp⟩
  clear hs2 cR z3 zl
  cases z2
  · go_wp2
    go_ret
    exact ⟨rfl, HM.out⟩
  · go_wp2
    go_ret
    exact ⟨rfl, HM.out⟩
set_option maxHeartbeats 4000000 in
theorem do_no (Bp B b m rb : Nat) (av lv : Value) (vs ls : Fin 6 → Value) (q : Rs) (N : Nat) (k n h e f : Int) (hk : ¬ k = 0 ∧ ¬ k = 1 ∧ ¬ k = 2 ∧ ¬ k = 3 ∧ ¬ k = 4) (w : World) (ht : Two Bp B w b m rb av lv vs ls q) : Calls Try.prog 22 #[.pointer (some ⟨b, 0, none⟩), .pointer (some ⟨rb, 0, none⟩), (⟨k, n, h, e, f⟩ : Dd).V] w fun r w' => r = .returned (.bool true) ∧ Mv Bp B w w' b m rb q := by
  obtain ⟨h0, h1, h2, h3, h4⟩ := hk
  have HM := Hid3.mk (Mv.same ht (below_new w (.cells #[.int .i64 k, .int .i64 n, .int .i64 h, .int .u8 e, .int .u8 f] 31)))
  clear ht
  change Calls _ _ #[_, _, .agg #[.int .i64 k, .int .i64 n, .int .i64 h, .int .u8 e, .int .u8 f]] _ _
  go_enter Try.func22, Try.ntmps22
  go_wp2
  go_ret
  exact ⟨rfl, HM.out⟩
def doQ (d : Dd) (q : Rs) : Rs := if d.k = 0 then askQ d.e d.f d.n d.h q else if d.k = 1 then doneQ d.e d.f q else if d.k = 2 then dueQ d.n q else if d.k = 3 then nextQ d.e q else if d.k = 4 then outQ d.e q else q
theorem do_ok {d : Dd} {q : Rs} {N : Nat} (hd : d.Ok) (h : q.Ok N) : (doQ d q).Ok (N + 1) := by
  unfold doQ
  split
  · exact ask_ok hd.1 hd.2 h
  · split
    · exact done_ok h
    · split
      · exact due_ok h
      · split
        · exact next_ok h
        · split
          · exact out_ok h
          · exact ⟨h.few, h.keys, h.rng, fun e => Nat.le_succ_of_le (h.vec e)⟩
theorem do_any (Bp B b m rb : Nat) (av lv : Value) (vs ls : Fin 6 → Value) (q : Rs) (N : Nat) (d : Dd) (w : World) (ht : Two Bp B w b m rb av lv vs ls q) (hO : q.Ok N) (hN : N ≤ 900) (hd : d.Ok) : Calls Try.prog 22 #[.pointer (some ⟨b, 0, none⟩), .pointer (some ⟨rb, 0, none⟩), d.V] w fun r w' => r = .returned (.bool true) ∧ Mv Bp B w w' b m rb (doQ d q) := by
  obtain ⟨k, n, h, e, f⟩ := d
  unfold doQ
  simp only
  by_cases h0 : k = 0
  · subst h0
    exact do_0 Bp B b m rb av lv vs ls q N n h e f w ht hO hN hd.1 hd.2
  rw [if_neg h0]
  by_cases h1 : k = 1
  · subst h1
    exact do_1 Bp B b m rb av lv vs ls q N n h e f w ht hO hN hd.1 hd.2
  rw [if_neg h1]
  by_cases h2 : k = 2
  · subst h2
    exact do_2 Bp B b m rb av lv vs ls q N n h e f w ht hO hN hd.1 hd.2
  rw [if_neg h2]
  by_cases h3 : k = 3
  · subst h3
    exact do_3 Bp B b m rb av lv vs ls q N n h e f w ht hO hN hd.1 hd.2
  rw [if_neg h3]
  by_cases h4 : k = 4
  · subst h4
    exact do_4 Bp B b m rb av lv vs ls q N n h e f w ht hO hN hd.1 hd.2
  rw [if_neg h4]
  exact do_no Bp B b m rb av lv vs ls q N k n h e f ⟨h0, h1, h2, h3, h4⟩ w ht
end Go.Proofs.Ytpmndhbcohjboaa
