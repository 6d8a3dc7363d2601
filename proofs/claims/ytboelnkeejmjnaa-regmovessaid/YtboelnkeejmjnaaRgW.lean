/- A deed on both: the law's do. -/
import Derived.Test.YtboelnkeejmjnaaRgV
namespace Go.Proofs.Ytboelnkeejmjnaa
open Go.RowKit Go.Maps
set_option linter.unusedVariables false
set_option maxRecDepth 100000
abbrev SB (b : Nat) (s f g : Int) (on : Bool) (W : World) : Prop := W.cell? ⟨b, 1, none⟩ = some (.int .i64 s) ∧ W.cell? ⟨b, 2, none⟩ = some (.int .u8 f) ∧ W.cell? ⟨b, 3, none⟩ = some (.int .u8 g) ∧ W.cell? ⟨b, 4, none⟩ = some (.bool on)
theorem SB.stay {b : Nat} {s f g : Int} {on : Bool} {X : Nat → Prop} {W W' : World} (h : SB b s f g on W) (k : Apart X W W') (hx : ¬ X b) : SB b s f g on W' := by
  have hb := k.block b (World.block_lt_of_cell? W _ h.1) hx
  obtain ⟨h0, h1, h2, h3⟩ := h
  refine ⟨?_, ?_, ?_, ?_⟩ <;> (rw [World.cell?_of_block (w := W) hb]; assumption)
theorem SB.new (w : World) (k s f g : Int) (on : Bool) : SB w.heap.size s f g on (w.alloc (.cells #[.int .i64 k, .int .i64 s, .int .u8 f, .int .u8 g, .bool on] 44)) := ⟨(Cl.new w 44 [.int .i64 k, .int .i64 s, .int .u8 f, .int .u8 g, .bool on]).cell 1, (Cl.new w 44 [.int .i64 k, .int .i64 s, .int .u8 f, .int .u8 g, .bool on]).cell 2, (Cl.new w 44 [.int .i64 k, .int .i64 s, .int .u8 f, .int .u8 g, .bool on]).cell 3, (Cl.new w 44 [.int .i64 k, .int .i64 s, .int .u8 f, .int .u8 g, .bool on]).cell 4⟩
theorem SB.below {b : Nat} {s f g : Int} {on : Bool} {W W' : World} (h : SB b s f g on W) (k : Below W.heap.size W W') : SB b s f g on W' := SB.stay h (Apart.of_below (X := fun _ => False) k) id
theorem Rf.nx {B : Nat} {w : World} {b : Nat} {C : Int → Option (Int × Bool)} (h : Rf B w b C) : ¬ XB b w.heap.size := fun e => Nat.lt_irrefl b (Nat.lt_of_lt_of_eq h.lt e)
theorem below_dd (W : World) (o : Obj) : Below W.drew.heap.size W.drew (W.alloc o).drew := by
  have h := below_new W o
  exact ⟨h.os, h.tape, h.output, h.size, h.block⟩
set_option maxHeartbeats 4000000 in
theorem do_0 (B b rc rf rb : Nat) (q : St) (s f g : Int) (on : Bool) (w : World) (h : Two B w b rc rf rb q) (f0 : 0 ≤ f) (g0 : 0 ≤ g) : Calls Try.prog 17 #[.pointer (some ⟨b, 0, none⟩), .pointer (some ⟨rb, 0, none⟩), (⟨0, s, f, g, on⟩ : Dd).V] w fun r w' => r = .returned (.bool true) ∧ Mv B w w' b rc rf rb (bindQ f s q) := by
  have hX : Below w.heap.size w (w.alloc (.cells #[.int .i64 0, .int .i64 s, .int .u8 f, .int .u8 g, .bool on] 44)).drew := below_newd w _
  have HT : Hid3 (Two B (w.alloc (.cells #[.int .i64 0, .int .i64 s, .int .u8 f, .int .u8 g, .bool on] 44)).drew b rc rf rb q) := ⟨h.below hX⟩
  have HX := Hid3.mk hX
  have hSa : Hid3 (SB w.heap.size s f g on (w.alloc (.cells #[.int .i64 0, .int .i64 s, .int .u8 f, .int .u8 g, .bool on] 44)).drew) := ⟨SB.new w 0 s f g on⟩
  obtain ⟨hlc, hlf, hlr⟩ := h.lts
  have hnV : ¬ XR rc rf w.heap.size := fun e => by rcases e with e | e <;> omega
  have hnR : ¬ XB rb w.heap.size := fun e => by have e' : w.heap.size = rb := e; omega
  have HQ := Hid3.mk h.ok
  have HO := Hid3.mk (bind_ok h.ok f s f0)
  have cT := fun W (hV : RgS B W b rc rf q) => bind_any B b rc rf q f s W hV
  have cR := fun W (hV : Rf B W rb q.C) => rbind_any B rb q f s W hV HQ.out f0
  generalize bindQ f s q = q' at *
  generalize bindE f s q = z at *
  have hzz : (z == z) = true := by simp
  clear h hX
  change Calls _ _ #[_, _, .agg #[.int .i64 0, .int .i64 s, .int .u8 f, .int .u8 g, .bool on]] _ _
  go_enter Try.func17, Try.ntmps17
  go_wp2_with fail
  go_region_held3 (fun w' => w'.cell? ⟨w.heap.size, 1, none⟩ = some (.int .i64 s) ∧ w'.cell? ⟨w.heap.size, 2, none⟩ = some (.int .u8 f) ∧ w'.cell? ⟨w.heap.size, 3, none⟩ = some (.int .u8 g) ∧ w'.cell? ⟨w.heap.size, 4, none⟩ = some (.bool on)) (with_reducible (first | exact hSa.out | exact hSb.out | exact hSc.out)) ((first
    | (go_at_call 20; refine (cT _ HT.out.t).mono ?_; rintro r W1 ⟨rfl, hs1⟩; have hSb : Hid3 (SB w.heap.size s f g on W1) := ⟨SB.stay hSa.out hs1.ap hnV⟩; have HS1 : Hid3 (StpS B (w.alloc (.cells #[.int .i64 0, .int .i64 s, .int .u8 f, .int .u8 g, .bool on] 44)).drew W1 b rc rf q') := ⟨hs1⟩; have HR1 : Hid3 (Rf B W1 rb q.C) := ⟨HT.out.rstay hs1.ap⟩; clear hs1)
    | (go_at_call 34; refine (cR _ HR1.out).mono ?_; rintro r W2 ⟨rfl, hs2⟩; have hSc : Hid3 (SB w.heap.size s f g on W2) := ⟨SB.stay hSb.out hs2.ap hnR⟩; have HM : Hid3 (Mv B w W2 b rc rf rb q') := ⟨(Mv.mk' HT.out HS1.out (Below.refl _ _) hs2 HO.out).pre HX.out⟩; clear hs2)))
  all_goals (
    go_wp2
    go_ret
    exact ⟨rfl, HM.out⟩)
set_option maxHeartbeats 4000000 in
theorem do_2 (B b rc rf rb : Nat) (q : St) (s f g : Int) (on : Bool) (w : World) (h : Two B w b rc rf rb q) (f0 : 0 ≤ f) (g0 : 0 ≤ g) : Calls Try.prog 17 #[.pointer (some ⟨b, 0, none⟩), .pointer (some ⟨rb, 0, none⟩), (⟨2, s, f, g, on⟩ : Dd).V] w fun r w' => r = .returned (.bool true) ∧ Mv B w w' b rc rf rb (diQ f on q) := by
  have hX : Below w.heap.size w (w.alloc (.cells #[.int .i64 2, .int .i64 s, .int .u8 f, .int .u8 g, .bool on] 44)).drew := below_newd w _
  have HT : Hid3 (Two B (w.alloc (.cells #[.int .i64 2, .int .i64 s, .int .u8 f, .int .u8 g, .bool on] 44)).drew b rc rf rb q) := ⟨h.below hX⟩
  have HX := Hid3.mk hX
  have hSa : Hid3 (SB w.heap.size s f g on (w.alloc (.cells #[.int .i64 2, .int .i64 s, .int .u8 f, .int .u8 g, .bool on] 44)).drew) := ⟨SB.new w 2 s f g on⟩
  obtain ⟨hlc, hlf, hlr⟩ := h.lts
  have hnV : ¬ XR rc rf w.heap.size := fun e => by rcases e with e | e <;> omega
  have hnR : ¬ XB rb w.heap.size := fun e => by have e' : w.heap.size = rb := e; omega
  have HQ := Hid3.mk h.ok
  have HO := Hid3.mk (di_ok h.ok f on f0)
  have cT := fun W (hV : RgS B W b rc rf q) => dirty_any B b rc rf q f on W hV
  have cR := fun W (hV : Rf B W rb q.C) => rdirty_any B rb q f on W hV HQ.out f0
  generalize diQ f on q = q' at *
  generalize ctE q.C f = z at *
  have hzz : (z == z) = true := by simp
  clear h hX
  change Calls _ _ #[_, _, .agg #[.int .i64 2, .int .i64 s, .int .u8 f, .int .u8 g, .bool on]] _ _
  go_enter Try.func17, Try.ntmps17
  go_wp2_with fail
  go_region_held3 (fun w' => w'.cell? ⟨w.heap.size, 1, none⟩ = some (.int .i64 s) ∧ w'.cell? ⟨w.heap.size, 2, none⟩ = some (.int .u8 f) ∧ w'.cell? ⟨w.heap.size, 3, none⟩ = some (.int .u8 g) ∧ w'.cell? ⟨w.heap.size, 4, none⟩ = some (.bool on)) (with_reducible (first | exact hSa.out | exact hSb.out | exact hSc.out)) ((first
    | (go_at_call 21; refine (cT _ HT.out.t).mono ?_; rintro r W1 ⟨rfl, hs1⟩; have hSb : Hid3 (SB w.heap.size s f g on W1) := ⟨SB.stay hSa.out hs1.ap hnV⟩; have HS1 : Hid3 (StpS B (w.alloc (.cells #[.int .i64 2, .int .i64 s, .int .u8 f, .int .u8 g, .bool on] 44)).drew W1 b rc rf q') := ⟨hs1⟩; have HR1 : Hid3 (Rf B W1 rb q.C) := ⟨HT.out.rstay hs1.ap⟩; clear hs1)
    | (go_at_call 36; refine (cR _ HR1.out).mono ?_; rintro r W2 ⟨rfl, hs2⟩; have hSc : Hid3 (SB w.heap.size s f g on W2) := ⟨SB.stay hSb.out hs2.ap hnR⟩; have HM : Hid3 (Mv B w W2 b rc rf rb q') := ⟨(Mv.mk' HT.out HS1.out (Below.refl _ _) hs2 HO.out).pre HX.out⟩; clear hs2)))
  all_goals (
    go_wp2
    go_ret
    exact ⟨rfl, HM.out⟩)
set_option maxHeartbeats 4000000 in
theorem do_3 (B b rc rf rb : Nat) (q : St) (s f g : Int) (on : Bool) (w : World) (h : Two B w b rc rf rb q) (f0 : 0 ≤ f) (g0 : 0 ≤ g) : Calls Try.prog 17 #[.pointer (some ⟨b, 0, none⟩), .pointer (some ⟨rb, 0, none⟩), (⟨3, s, f, g, on⟩ : Dd).V] w fun r w' => r = .returned (.bool true) ∧ Mv B w w' b rc rf rb (moQ f g q) := by
  have hX : Below w.heap.size w (w.alloc (.cells #[.int .i64 3, .int .i64 s, .int .u8 f, .int .u8 g, .bool on] 44)).drew := below_newd w _
  have HT : Hid3 (Two B (w.alloc (.cells #[.int .i64 3, .int .i64 s, .int .u8 f, .int .u8 g, .bool on] 44)).drew b rc rf rb q) := ⟨h.below hX⟩
  have HX := Hid3.mk hX
  have hSa : Hid3 (SB w.heap.size s f g on (w.alloc (.cells #[.int .i64 3, .int .i64 s, .int .u8 f, .int .u8 g, .bool on] 44)).drew) := ⟨SB.new w 3 s f g on⟩
  obtain ⟨hlc, hlf, hlr⟩ := h.lts
  have hnV : ¬ XR rc rf w.heap.size := fun e => by rcases e with e | e <;> omega
  have hnR : ¬ XB rb w.heap.size := fun e => by have e' : w.heap.size = rb := e; omega
  have HQ := Hid3.mk h.ok
  have HO := Hid3.mk (mo_ok h.ok f g f0 g0)
  have cT := fun W (hV : RgS B W b rc rf q) => move_any B b rc rf q f g W hV
  have cR := fun W (hV : Rf B W rb q.C) => rmove_any B rb q f g W hV HQ.out f0 g0
  generalize moQ f g q = q' at *
  generalize moE f g q = z at *
  have hzz : (z == z) = true := by simp
  clear h hX
  change Calls _ _ #[_, _, .agg #[.int .i64 3, .int .i64 s, .int .u8 f, .int .u8 g, .bool on]] _ _
  go_enter Try.func17, Try.ntmps17
  go_wp2_with fail
  go_region_held3 (fun w' => w'.cell? ⟨w.heap.size, 1, none⟩ = some (.int .i64 s) ∧ w'.cell? ⟨w.heap.size, 2, none⟩ = some (.int .u8 f) ∧ w'.cell? ⟨w.heap.size, 3, none⟩ = some (.int .u8 g) ∧ w'.cell? ⟨w.heap.size, 4, none⟩ = some (.bool on)) (with_reducible (first | exact hSa.out | exact hSb.out | exact hSc.out)) ((first
    | (go_at_call 14; refine (cT _ HT.out.t).mono ?_; rintro r W1 ⟨rfl, hs1⟩; have hSb : Hid3 (SB w.heap.size s f g on W1) := ⟨SB.stay hSa.out hs1.ap hnV⟩; have HS1 : Hid3 (StpS B (w.alloc (.cells #[.int .i64 3, .int .i64 s, .int .u8 f, .int .u8 g, .bool on] 44)).drew W1 b rc rf q') := ⟨hs1⟩; have HR1 : Hid3 (Rf B W1 rb q.C) := ⟨HT.out.rstay hs1.ap⟩; clear hs1)
    | (go_at_call 37; refine (cR _ HR1.out).mono ?_; rintro r W2 ⟨rfl, hs2⟩; have hSc : Hid3 (SB w.heap.size s f g on W2) := ⟨SB.stay hSb.out hs2.ap hnR⟩; have HM : Hid3 (Mv B w W2 b rc rf rb q') := ⟨(Mv.mk' HT.out HS1.out (Below.refl _ _) hs2 HO.out).pre HX.out⟩; clear hs2)))
  all_goals (
    go_wp2
    go_ret
    exact ⟨rfl, HM.out⟩)
set_option maxHeartbeats 4000000 in
theorem do_1 (B b rc rf rb : Nat) (q : St) (s f g : Int) (on : Bool) (w : World) (h : Two B w b rc rf rb q) (f0 : 0 ≤ f) (g0 : 0 ≤ g) : Calls Try.prog 17 #[.pointer (some ⟨b, 0, none⟩), .pointer (some ⟨rb, 0, none⟩), (⟨1, s, f, g, on⟩ : Dd).V] w fun r w' => r = .returned (.bool true) ∧ Mv B w w' b rc rf rb (unQ f q) := by
  have hX : Below w.heap.size w (w.alloc (.cells #[.int .i64 1, .int .i64 s, .int .u8 f, .int .u8 g, .bool on] 44)) := below_new w _
  have HT : Hid3 (Two B (w.alloc (.cells #[.int .i64 1, .int .i64 s, .int .u8 f, .int .u8 g, .bool on] 44)) b rc rf rb q) := ⟨h.below hX⟩
  have HX := Hid3.mk hX
  have hSa : Hid3 (SB w.heap.size s f g on (w.alloc (.cells #[.int .i64 1, .int .i64 s, .int .u8 f, .int .u8 g, .bool on] 44))) := ⟨SB.new w 1 s f g on⟩
  obtain ⟨hlc, hlf, hlr⟩ := h.lts
  have hnV : ¬ XR rc rf w.heap.size := fun e => by rcases e with e | e <;> omega
  have hnR : ¬ XB rb w.heap.size := fun e => by have e' : w.heap.size = rb := e; omega
  have HQ := Hid3.mk h.ok
  have HO := Hid3.mk (un_ok h.ok f)
  have cT := unbind_any B b rc rf q f _ HT.out.t
  have cR := fun W (hV : Rf B W rb q.C) => runbind_any B rb q f W hV HQ.out f0
  generalize unQ f q = q' at *
  generalize unE f q = z at *
  generalize unV f q = y at *
  have hzz : (z == z) = true := by simp
  have hyy : (y == y) = true := by simp
  clear h hX
  change Calls _ _ #[_, _, .agg #[.int .i64 1, .int .i64 s, .int .u8 f, .int .u8 g, .bool on]] _ _
  go_enter Try.func17, Try.ntmps17
  go_wp2_with fail
  refine cT.mono ?_
  rintro r W1 ⟨rfl, hs1⟩
  have hSb := SB.stay hSa.out hs1.ap hnV
  have y2 := hSb.2.1
  have HR1 : Hid3 (Rf B W1 rb q.C) := ⟨HT.out.rstay hs1.ap⟩
  have HS1 : Hid3 (StpS B (w.alloc (.cells #[.int .i64 1, .int .i64 s, .int .u8 f, .int .u8 g, .bool on] 44)) W1 b rc rf q') := ⟨hs1⟩
  clear hs1 cT hSb
  go_wp2_with fail
  refine (cR _ HR1.out).mono ?_
  rintro r W2 ⟨rfl, hs2⟩
  have HM : Hid3 (Mv B w W2 b rc rf rb q') := ⟨(Mv.mk' HT.out HS1.out (Below.refl _ _) hs2 HO.out).pre HX.out⟩
  clear hs2 cR
  go_wp2
  go_ret
  exact ⟨rfl, HM.out⟩
set_option maxHeartbeats 4000000 in
theorem do_4 (B b rc rf rb : Nat) (q : St) (s f g : Int) (on : Bool) (w : World) (h : Two B w b rc rf rb q) (f0 : 0 ≤ f) (g0 : 0 ≤ g) : Calls Try.prog 17 #[.pointer (some ⟨b, 0, none⟩), .pointer (some ⟨rb, 0, none⟩), (⟨4, s, f, g, on⟩ : Dd).V] w fun r w' => r = .returned (.bool true) ∧ Mv B w w' b rc rf rb (cq f g q 2) := by
  have hX : Below w.heap.size w (w.alloc (.cells #[.int .i64 4, .int .i64 s, .int .u8 f, .int .u8 g, .bool on] 44)).drew := below_newd w _
  have kA : Below (w.alloc (.cells #[.int .i64 4, .int .i64 s, .int .u8 f, .int .u8 g, .bool on] 44)).drew.heap.size (w.alloc (.cells #[.int .i64 4, .int .i64 s, .int .u8 f, .int .u8 g, .bool on] 44)).drew ((w.alloc (.cells #[.int .i64 4, .int .i64 s, .int .u8 f, .int .u8 g, .bool on] 44)).alloc (.cells #[.int .u8 f, .int .u8 g] 5)).drew := below_dd (w.alloc (.cells #[.int .i64 4, .int .i64 s, .int .u8 f, .int .u8 g, .bool on] 44)) _
  have kB : Below ((w.alloc (.cells #[.int .i64 4, .int .i64 s, .int .u8 f, .int .u8 g, .bool on] 44)).alloc (.cells #[.int .u8 f, .int .u8 g] 5)).drew.heap.size ((w.alloc (.cells #[.int .i64 4, .int .i64 s, .int .u8 f, .int .u8 g, .bool on] 44)).alloc (.cells #[.int .u8 f, .int .u8 g] 5)).drew (((w.alloc (.cells #[.int .i64 4, .int .i64 s, .int .u8 f, .int .u8 g, .bool on] 44)).alloc (.cells #[.int .u8 f, .int .u8 g] 5)).alloc (.cells #[.int .u8 f, .int .u8 g] 5)).drew := below_dd ((w.alloc (.cells #[.int .i64 4, .int .i64 s, .int .u8 f, .int .u8 g, .bool on] 44)).alloc (.cells #[.int .u8 f, .int .u8 g] 5)) _
  have hXA : Below w.heap.size w ((w.alloc (.cells #[.int .i64 4, .int .i64 s, .int .u8 f, .int .u8 g, .bool on] 44)).alloc (.cells #[.int .u8 f, .int .u8 g] 5)).drew := hX.trans (kA.mono hX.size)
  have hXB : Below w.heap.size w (((w.alloc (.cells #[.int .i64 4, .int .i64 s, .int .u8 f, .int .u8 g, .bool on] 44)).alloc (.cells #[.int .u8 f, .int .u8 g] 5)).alloc (.cells #[.int .u8 f, .int .u8 g] 5)).drew := hXA.trans (kB.mono hXA.size)
  have HTA : Hid3 (Two B ((w.alloc (.cells #[.int .i64 4, .int .i64 s, .int .u8 f, .int .u8 g, .bool on] 44)).alloc (.cells #[.int .u8 f, .int .u8 g] 5)).drew b rc rf rb q) := ⟨h.below hXA⟩
  have HTB : Hid3 (Two B (((w.alloc (.cells #[.int .i64 4, .int .i64 s, .int .u8 f, .int .u8 g, .bool on] 44)).alloc (.cells #[.int .u8 f, .int .u8 g] 5)).alloc (.cells #[.int .u8 f, .int .u8 g] 5)).drew b rc rf rb q) := ⟨h.below hXB⟩
  have HXA := Hid3.mk hXA
  have HXB := Hid3.mk hXB
  have hS0 : SB w.heap.size s f g on (w.alloc (.cells #[.int .i64 4, .int .i64 s, .int .u8 f, .int .u8 g, .bool on] 44)).drew := SB.new w 4 s f g on
  have hSa := Hid3.mk hS0
  have hSA : Hid3 (SB w.heap.size s f g on ((w.alloc (.cells #[.int .i64 4, .int .i64 s, .int .u8 f, .int .u8 g, .bool on] 44)).alloc (.cells #[.int .u8 f, .int .u8 g] 5)).drew) := ⟨SB.below hS0 kA⟩
  have hSB : Hid3 (SB w.heap.size s f g on (((w.alloc (.cells #[.int .i64 4, .int .i64 s, .int .u8 f, .int .u8 g, .bool on] 44)).alloc (.cells #[.int .u8 f, .int .u8 g] 5)).alloc (.cells #[.int .u8 f, .int .u8 g] 5)).drew) := ⟨SB.below (SB.below hS0 kA) kB⟩
  obtain ⟨hlc, hlf, hlr⟩ := h.lts
  have hnV : ¬ XR rc rf w.heap.size := fun e => by rcases e with e | e <;> omega
  have hnR : ¬ XB rb w.heap.size := fun e => by have e' : w.heap.size = rb := e; omega
  have n1 : ¬ XR rc rf (w.heap.size + 1) := fun e => by rcases e with e | e <;> omega
  have n2 : ¬ XR rc rf (w.heap.size + 1 + 1) := fun e => by rcases e with e | e <;> omega
  have r1 : ¬ XB rb (w.heap.size + 1) := fun e => by have e' : w.heap.size + 1 = rb := e; omega
  have r2 : ¬ XB rb (w.heap.size + 1 + 1) := fun e => by have e' : w.heap.size + 1 + 1 = rb := e; omega
  have qA : Cl ((w.alloc (.cells #[.int .i64 4, .int .i64 s, .int .u8 f, .int .u8 g, .bool on] 44)).alloc (.cells #[.int .u8 f, .int .u8 g] 5)).drew (w.heap.size + 1) 5 [.int .u8 f, .int .u8 g] := by
    have := Cl.new (w.alloc (.cells #[.int .i64 4, .int .i64 s, .int .u8 f, .int .u8 g, .bool on] 44)) 5 [.int .u8 f, .int .u8 g]
    rw [World.size_alloc] at this
    exact this
  have qB2 : Cl (((w.alloc (.cells #[.int .i64 4, .int .i64 s, .int .u8 f, .int .u8 g, .bool on] 44)).alloc (.cells #[.int .u8 f, .int .u8 g] 5)).alloc (.cells #[.int .u8 f, .int .u8 g] 5)).drew (w.heap.size + 1 + 1) 5 [.int .u8 f, .int .u8 g] := by
    have := Cl.new ((w.alloc (.cells #[.int .i64 4, .int .i64 s, .int .u8 f, .int .u8 g, .bool on] 44)).alloc (.cells #[.int .u8 f, .int .u8 g] 5)) 5 [.int .u8 f, .int .u8 g]
    rw [World.size_alloc, World.size_alloc] at this
    exact this
  have qB1 := Hid3.mk (qA.below kB)
  have qA := Hid3.mk qA
  have qB2 := Hid3.mk qB2
  have HQ := Hid3.mk h.ok
  have HO := Hid3.mk (cq_ok h.ok f g 2)
  have cT := fun W x (hV : RgS B W b rc rf q) (hx : ¬ XR rc rf x) (c : Cl W x 5 [.int .u8 f, .int .u8 g]) => clear_any B b rc rf x q f g W hV hx (c.cell 0) (c.cell 1)
  have cR := fun W x (hV : Rf B W rb q.C) (hx : ¬ XB rb x) (c : Cl W x 5 [.int .u8 f, .int .u8 g]) => rclear_any B rb x q f g W hV HQ.out f0 g0 hx (c.cell 0) (c.cell 1)
  generalize cq f g q 2 = q' at *
  generalize cn f g q 2 = z at *
  have hzz : (z == z) = true := by simp
  clear h hX kA kB hXA hXB hS0
  change Calls _ _ #[_, _, .agg #[.int .i64 4, .int .i64 s, .int .u8 f, .int .u8 g, .bool on]] _ _
  go_enter Try.func17, Try.ntmps17
  go_wp2_with fail
  go_region_held3 (fun w' => w'.cell? ⟨w.heap.size, 1, none⟩ = some (.int .i64 s) ∧ w'.cell? ⟨w.heap.size, 2, none⟩ = some (.int .u8 f) ∧ w'.cell? ⟨w.heap.size, 3, none⟩ = some (.int .u8 g) ∧ w'.cell? ⟨w.heap.size, 4, none⟩ = some (.bool on)) (with_reducible (first | exact hSa.out | exact hSA.out | exact hSB.out | exact hSb.out | exact hSb2.out | exact hSc.out)) ((first
    | (go_at_call 38; first
        | (with_reducible refine (cT _ _ HTA.out.t n1 qA.out).mono ?_; rintro r W1 ⟨rfl, hs1⟩; have hSb : Hid3 (SB w.heap.size s f g on W1) := ⟨SB.stay hSA.out hs1.ap hnV⟩; have HR1 : Hid3 (Rf B W1 rb q.C) := ⟨HTA.out.rstay hs1.ap⟩; have HS1 : Hid3 (StpS B ((w.alloc (.cells #[.int .i64 4, .int .i64 s, .int .u8 f, .int .u8 g, .bool on] 44)).alloc (.cells #[.int .u8 f, .int .u8 g] 5)).drew W1 b rc rf q') := ⟨hs1⟩; have x1 : ¬ XB rb W1.heap.size := HR1.out.nx; have HRx : Hid3 (Rf B (W1.alloc (.cells #[.int .u8 f, .int .u8 g] 5)) rb q.C) := ⟨HR1.out.below (below_new W1 _)⟩; have qx := Hid3.mk (Cl.new W1 5 [.int .u8 f, .int .u8 g]); have hSb2 : Hid3 (SB w.heap.size s f g on (W1.alloc (.cells #[.int .u8 f, .int .u8 g] 5))) := ⟨SB.below hSb.out (below_new W1 _)⟩; have HG : Hid3 (∀ W2, FStp B (W1.alloc (.cells #[.int .u8 f, .int .u8 g] 5)) W2 rb q'.C → Mv B w W2 b rc rf rb q' ∧ SB w.heap.size s f g on W2) := ⟨fun W2 hs2 => ⟨(Mv.mk' HTA.out HS1.out (below_new W1 _) hs2 HO.out).pre HXA.out, SB.stay hSb2.out hs2.ap hnR⟩⟩; clear hs1)
        | (with_reducible refine (cT _ _ HTB.out.t n1 qB1.out).mono ?_; rintro r W1 ⟨rfl, hs1⟩; have hSb : Hid3 (SB w.heap.size s f g on W1) := ⟨SB.stay hSB.out hs1.ap hnV⟩; have HR1 : Hid3 (Rf B W1 rb q.C) := ⟨HTB.out.rstay hs1.ap⟩; have HS1 : Hid3 (StpS B (((w.alloc (.cells #[.int .i64 4, .int .i64 s, .int .u8 f, .int .u8 g, .bool on] 44)).alloc (.cells #[.int .u8 f, .int .u8 g] 5)).alloc (.cells #[.int .u8 f, .int .u8 g] 5)).drew W1 b rc rf q') := ⟨hs1⟩; have x1 := r2; have HRx := HR1; have qx : Hid3 (Cl W1 (w.heap.size + 1 + 1) 5 [.int .u8 f, .int .u8 g]) := ⟨qB2.out.stay hs1.ap n2⟩; have HG : Hid3 (∀ W2, FStp B W1 W2 rb q'.C → Mv B w W2 b rc rf rb q' ∧ SB w.heap.size s f g on W2) := ⟨fun W2 hs2 => ⟨(Mv.mk' HTB.out HS1.out (Below.refl _ _) hs2 HO.out).pre HXB.out, SB.stay hSb.out hs2.ap hnR⟩⟩; clear hs1)
        | (with_reducible refine (cT _ _ HTB.out.t n2 qB2.out).mono ?_; rintro r W1 ⟨rfl, hs1⟩; have hSb : Hid3 (SB w.heap.size s f g on W1) := ⟨SB.stay hSB.out hs1.ap hnV⟩; have HR1 : Hid3 (Rf B W1 rb q.C) := ⟨HTB.out.rstay hs1.ap⟩; have HS1 : Hid3 (StpS B (((w.alloc (.cells #[.int .i64 4, .int .i64 s, .int .u8 f, .int .u8 g, .bool on] 44)).alloc (.cells #[.int .u8 f, .int .u8 g] 5)).alloc (.cells #[.int .u8 f, .int .u8 g] 5)).drew W1 b rc rf q') := ⟨hs1⟩; have x1 := r1; have HRx := HR1; have qx : Hid3 (Cl W1 (w.heap.size + 1) 5 [.int .u8 f, .int .u8 g]) := ⟨qB1.out.stay hs1.ap n1⟩; have HG : Hid3 (∀ W2, FStp B W1 W2 rb q'.C → Mv B w W2 b rc rf rb q' ∧ SB w.heap.size s f g on W2) := ⟨fun W2 hs2 => ⟨(Mv.mk' HTB.out HS1.out (Below.refl _ _) hs2 HO.out).pre HXB.out, SB.stay hSb.out hs2.ap hnR⟩⟩; clear hs1))
    | (go_at_call 39; refine (cR _ _ HRx.out x1 qx.out).mono ?_; rintro r W2 ⟨rfl, hs2⟩; have hSc : Hid3 (SB w.heap.size s f g on W2) := ⟨(HG.out W2 hs2).2⟩; have HM : Hid3 (Mv B w W2 b rc rf rb q') := ⟨(HG.out W2 hs2).1⟩; clear hs2)))
  all_goals (
    go_wp2
    go_ret
    exact ⟨rfl, HM.out⟩)
set_option maxHeartbeats 1000000 in
theorem do_else (B b rc rf rb : Nat) (q : St) (k s f g : Int) (on : Bool) (w : World) (h : Two B w b rc rf rb q) (h0 : k ≠ 0) (h1 : k ≠ 1) (h2 : k ≠ 2) (h3 : k ≠ 3) (h4 : k ≠ 4) : Calls Try.prog 17 #[.pointer (some ⟨b, 0, none⟩), .pointer (some ⟨rb, 0, none⟩), (⟨k, s, f, g, on⟩ : Dd).V] w fun r w' => r = .returned (.bool true) ∧ Mv B w w' b rc rf rb q := by
  have HM : Hid3 (Mv B w (w.alloc (.cells #[.int .i64 k, .int .i64 s, .int .u8 f, .int .u8 g, .bool on] 44)) b rc rf rb q) := ⟨Mv.same h (below_new w _)⟩
  have e0 : (k == 0) = false := by simpa using h0
  have e1 : (k == 1) = false := by simpa using h1
  have e2 : (k == 2) = false := by simpa using h2
  have e3 : (k == 3) = false := by simpa using h3
  have e4 : (k == 4) = false := by simpa using h4
  clear h
  change Calls _ _ #[_, _, .agg #[.int .i64 k, .int .i64 s, .int .u8 f, .int .u8 g, .bool on]] _ _
  go_enter Try.func17, Try.ntmps17
  go_wp2
  go_ret
  exact ⟨rfl, HM.out⟩
theorem do_any (B b rc rf rb : Nat) (q : St) (d : Dd) (w : World) (h : Two B w b rc rf rb q) (hd : d.Ok) : Calls Try.prog 17 #[.pointer (some ⟨b, 0, none⟩), .pointer (some ⟨rb, 0, none⟩), d.V] w fun r w' => r = .returned (.bool true) ∧ Mv B w w' b rc rf rb (doQ d q) := by
  obtain ⟨k, s, f, g, on⟩ := d
  unfold doQ
  obtain ⟨f0, g0⟩ : 0 ≤ f ∧ 0 ≤ g := hd
  simp only
  by_cases h0 : k = 0
  · subst h0; exact do_0 B b rc rf rb q s f g on w h f0 g0
  by_cases h1 : k = 1
  · subst h1; exact do_1 B b rc rf rb q s f g on w h f0 g0
  by_cases h2 : k = 2
  · subst h2; exact do_2 B b rc rf rb q s f g on w h f0 g0
  by_cases h3 : k = 3
  · subst h3; exact do_3 B b rc rf rb q s f g on w h f0 g0
  by_cases h4 : k = 4
  · subst h4; exact do_4 B b rc rf rb q s f g on w h f0 g0
  rw [if_neg h0, if_neg h1, if_neg h2, if_neg h3, if_neg h4]
  exact do_else B b rc rf rb q k s f g on w h h0 h1 h2 h3 h4
end Go.Proofs.Ytboelnkeejmjnaa
