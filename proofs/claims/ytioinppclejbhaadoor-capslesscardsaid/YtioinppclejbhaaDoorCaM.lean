/- A deed on both tables; the play. -/
import Derived.Test.YtioinppclejbhaaDoorCaL
import Derived.Deep.RegionHeld3
namespace Go.Proofs.YtioinppclejbhaaDoor
open Go.RowKit Go.Maps
set_option linter.unusedVariables false
set_option maxRecDepth 100000
set_option maxHeartbeats 1000000 in
theorem cshort_any (n : ByteArray) (r : Int) (w : World) : Calls Tryd.prog 13 #[.agg #[.string n, .int .u8 r]] w fun e w' => e = .returned (.agg #[.string (shortS n), .int .u8 r]) ∧ Below w.heap.size w w' := by
  have HB : ∀ m : ByteArray, Hid3 (Below w.heap.size w ((w.alloc (.cells #[.string m, .int .u8 r] 31)).alloc (.cells #[.string m, .int .u8 r] 31))) := fun m => ⟨((Below.refl _ w).alloc (Nat.le_refl _) _).alloc (by simp) _⟩
  have HB := HB (shortS n)
  unfold shortS at *
  by_cases h : 300 < n.size
  · rw [if_pos h] at *
    have h' : (300 : Int) < (n.size : Int) := by omega
    go_enter Tryd.func13, Tryd.ntmps13
    go_wp2
    exact bodyPost_ret (v := .agg #[.string (n.extract 0 300), .int .u8 r]) (by simp [results, Tryd.results13, go_sem]) rfl ⟨rfl, HB.out⟩
  · rw [if_neg h] at *
    have h' : ¬ (300 : Int) < (n.size : Int) := by omega
    go_enter Tryd.func13, Tryd.ntmps13
    go_wp2
    exact bodyPost_ret (v := .agg #[.string n, .int .u8 r]) (by simp [results, Tryd.results13, go_sem]) rfl ⟨rfl, HB.out⟩
/-- Both tables, side by side. -/
structure Tw (B : Nat) (w : World) (b rb : Nat) (s : Sl) : Prop where
  t : Tb 71 B w b s
  r : Tb 61 B w rb s
  n : Nt B w
theorem Tw.low {B : Nat} {w w' : World} {b rb : Nat} {s : Sl} (h : Tw B w b rb s) (k : Below w.heap.size w w') : Tw B w' b rb s := ⟨h.t.below k, h.r.below k, h.n.low k⟩
theorem Tw.ne {B : Nat} {w : World} {b rb : Nat} {s : Sl} (h : Tw B w b rb s) : rb ≠ b := fun e => by
  have h1 : w.heap[b]? = some (.cells _ 71 (0, 0)) := h.t.c
  have h2 : w.heap[rb]? = some (.cells _ 61 (0, 0)) := h.r.c
  rw [e, h1] at h2
  injection h2 with h2
  injection h2 with _ h3 _
  exact absurd h3 (by decide)
/-- What the program's call leaves to the document's. -/
theorem Tw.step {B : Nat} {w w' : World} {b rb : Nat} {s s' : Sl} (h : Tw B w b rb s) (k : TStp 71 B w w' b s') : Tb 61 B w' rb s ∧ Nt B w' := ⟨h.r.stay k.ap h.ne, h.n.apart k.ap h.t.g⟩
theorem Tw.steps {B : Nat} {w w1 w2 : World} {b rb : Nat} {s s' : Sl} (h : Tw B w b rb s) (k : TStp 71 B w w1 b s') (m : TStp 61 B w1 w2 rb s') : Tw B w2 b rb s' ∧ Below B w w2 :=
  have h1 := h.step k
  ⟨⟨k.tb.stay m.ap (fun e => h.ne e.symm), m.tb, h1.2.apart m.ap h.r.g⟩, (k.belowB h.t h.n.size).trans (m.belowB h1.1 h1.2.size)⟩
/-- A deed: kind, from, to, the capability. -/
structure Dd where
  k : Int
  f : Int
  t : Int
  n : ByteArray
  r : BitVec 8
def Dd.vs (d : Dd) : List Value := [.int .i64 d.k, .int .i64 d.f, .int .i64 d.t, .string d.n, .int .u8 d.r.toNat]
def Dd.V (d : Dd) : Value := .agg d.vs.toArray
abbrev SB (x y : Nat) (f t : Int) (n : ByteArray) (r : Int) (W : World) : Prop := W.cell? ⟨x, 1, none⟩ = some (.int .i64 f) ∧ W.cell? ⟨x, 2, none⟩ = some (.int .i64 t) ∧ W.cell? ⟨y, 0, none⟩ = some (.string n) ∧ W.cell? ⟨y, 1, none⟩ = some (.int .u8 r)
theorem SB.stay {x y : Nat} {f t : Int} {n : ByteArray} {r : Int} {X : Nat → Prop} {W W' : World} (h : SB x y f t n r W) (k : Apart X W W') (hx : ¬ X x) (hy : ¬ X y) : SB x y f t n r W' := by
  have hb := k.block x (World.block_lt_of_cell? W _ h.1) hx
  have hc := k.block y (World.block_lt_of_cell? W _ h.2.2.1) hy
  refine ⟨?_, ?_, ?_, ?_⟩
  · rw [World.cell?_of_block (w := W) hb]; exact h.1
  · rw [World.cell?_of_block (w := W) hb]; exact h.2.1
  · rw [World.cell?_of_block (w := W) hc]; exact h.2.2.1
  · rw [World.cell?_of_block (w := W) hc]; exact h.2.2.2
theorem SB.low {x y : Nat} {f t : Int} {n : ByteArray} {r : Int} {W W' : World} (h : SB x y f t n r W) (k : Below W.heap.size W W') : SB x y f t n r W' := SB.stay h (Apart.of_below (X := fun _ => False) k) id id
/-- As the deed's region is come to: its box, the capability's box, both tables. -/
structure Pr (B : Nat) (w W : World) (b rb y : Nat) (s : Sl) (f t : Int) (n : ByteArray) (r : Int) : Prop where
  two : Tw B W b rb s
  sb : SB w.heap.size y f t n r W
  bl : Below w.heap.size w W
  h1 : ¬ w.heap.size = b
  h2 : ¬ w.heap.size = rb
  h3 : ¬ y = b
  h4 : ¬ y = rb
theorem Pr.mk' {B : Nat} {w W1 : World} {b rb : Nat} {s : Sl} (k f t : Int) (n m : ByteArray) (r : Int) (h : Tw B w b rb s) (hB : Below (w.heap.size + 1) (w.alloc (.cells #[.int .i64 k, .int .i64 f, .int .i64 t, .string n, .int .u8 r] 39)) W1) : Pr B w (W1.alloc (.cells #[.string m, .int .u8 r] 31)).drew b rb W1.heap.size s f t m r := by
  have hX := below_new w (.cells #[.int .i64 k, .int .i64 f, .int .i64 t, .string n, .int .u8 r] 39)
  have hs : (w.alloc (.cells #[.int .i64 k, .int .i64 f, .int .i64 t, .string n, .int .u8 r] 39)).heap.size = w.heap.size + 1 := by simp
  have hB' : Below (w.alloc (.cells #[.int .i64 k, .int .i64 f, .int .i64 t, .string n, .int .u8 r] 39)).heap.size (w.alloc (.cells #[.int .i64 k, .int .i64 f, .int .i64 t, .string n, .int .u8 r] 39)) W1 := by rw [hs]; exact hB
  have hY := below_new W1 (.cells #[.string m, .int .u8 r] 31)
  have c1 := (Cl.new w 39 [.int .i64 k, .int .i64 f, .int .i64 t, .string n, .int .u8 r]).below hB'
  have c2 := c1.below hY
  have c3 := Cl.new W1 31 [.string m, .int .u8 r]
  have hw1 := hX.trans (hB'.mono hX.size)
  have hw2 := hw1.trans (hY.mono hw1.size)
  have lb := h.t.c.lt
  have lr := h.r.c.lt
  have hz := hw1.size
  exact ⟨(h.low hw2.drew), ⟨c2.cell 1, c2.cell 2, c3.cell 0, c3.cell 1⟩, hw2.drew, by omega, by omega, by omega, by omega⟩
theorem ints_over {B : Nat} {W3 W4 : World} {v : Value} {L : List Nat} {rb : Nat} (h : Ints W3 v L ∧ ∀ g, v.ownBlock = some g → B ≤ g) (hb : rb < B) (k : Apart (fun i => i = rb) W3 W4) : Ints W4 v L := h.1.stay k (fun g hg e => by
  have := h.2 g hg
  have e' : g = rb := e
  omega)
set_option maxHeartbeats 4000000 in
theorem do_0 (B b rb : Nat) (s : Sl) (f t : Int) (n : ByteArray) (r : BitVec 8) (w : World) (h : Tw B w b rb s) : Calls Tryd.prog 25 #[.pointer (some ⟨b, 0, none⟩), .pointer (some ⟨rb, 0, none⟩), .agg #[.int .i64 0, .int .i64 f, .int .i64 t, .string n, .int .u8 r.toNat]] w fun e w' => e = .returned (.bool true) ∧ ∃ s', Tw B w' b rb s' ∧ Below B w w' := by
  have HP : Hid3 (∀ W1, Below (w.heap.size + 1) (w.alloc (.cells #[.int .i64 0, .int .i64 f, .int .i64 t, .string n, .int .u8 r.toNat] 39)) W1 → Pr B w (W1.alloc (.cells #[.string (shortS n), .int .u8 r.toNat] 31)).drew b rb W1.heap.size s f t (shortS n) r.toNat) := ⟨fun W1 hB => Pr.mk' 0 f t n (shortS n) r.toNat h hB⟩
  have hsz := h.n.size
  have hm := shortS_size n
  have cS := fun W => cshort_any n r.toNat W
  generalize shortS n = m at *
  obtain ⟨e0, s', _, hp, hq⟩ := put_both s f (m, r) hm
  have hzz : (e0 == e0) = true := by simp
  clear h
  go_enter Tryd.func25, Tryd.ntmps25
  go_wp2_with fail
  refine (cS _).mono ?_
  rintro e W1 ⟨rfl, hB⟩
  have HR := Hid3.mk (HP.out W1 (by simpa using hB))
  obtain ⟨y0, hy0⟩ : ∃ y0, y0 = w.heap.size := ⟨_, rfl⟩
  have hk0 := (hB.cell (p := ⟨w.heap.size, 0, none⟩) (by simp)).trans ((Cl.new w 39 [.int .i64 0, .int .i64 f, .int .i64 t, .string n, .int .u8 r.toNat]).cell 0)
  simp only [List.getElem?_cons_zero] at hk0
  have hlw : w.heap.size < W1.heap.size := by have := hB.size; simp at this; omega
  clear hB cS HP hy0 y0
  go_wp2_with fail
  generalize W1.heap.size = y at *
  generalize (W1.alloc (.cells #[.string m, .int .u8 r.toNat] 31)) = W2 at *
  have hSa : Hid3 (SB w.heap.size y f t m r.toNat W2.drew) := ⟨HR.out.sb⟩
  clear hk0 hlw
  go_region_held3 (fun w' => w'.cell? ⟨w.heap.size, 1, none⟩ = some (.int .i64 f) ∧ w'.cell? ⟨w.heap.size, 2, none⟩ = some (.int .i64 t) ∧ w'.cell? ⟨y, 0, none⟩ = some (.string m) ∧ w'.cell? ⟨y, 1, none⟩ = some (.int .u8 r.toNat)) (with_reducible (first | exact hSa.out | exact hSb.out | exact hSc.out | exact hSd.out)) ((first
    | (go_at_call 28; (with_reducible refine (hp B b _ HR.out.two.t).mono ?_); rintro r1 W3 ⟨rfl, hs1⟩; have hSb : Hid3 (SB w.heap.size y f t m r.toNat W3) := ⟨HR.out.sb.stay hs1.ap HR.out.h1 HR.out.h3⟩; have HS1 := Hid3.mk hs1; have HR1 := Hid3.mk (HR.out.two.step hs1); clear hs1)
    | (go_at_call 51; (with_reducible refine (hq B rb _ HR1.out.1 HR1.out.2).mono ?_); rintro r2 W4 ⟨rfl, hs2⟩; have hSc : Hid3 (SB w.heap.size y f t m r.toNat W4) := ⟨hSb.out.stay hs2.ap HR.out.h2 HR.out.h4⟩; have HM := Hid3.mk (HR.out.two.steps HS1.out hs2); clear hs2)))
  all_goals
    go_wp2
    go_ret
    exact ⟨rfl, _, HM.out.1, (HR.out.bl.mono hsz).trans HM.out.2⟩
set_option maxHeartbeats 4000000 in
theorem do_1 (B b rb : Nat) (s : Sl) (f t : Int) (n : ByteArray) (r : BitVec 8) (w : World) (h : Tw B w b rb s) : Calls Tryd.prog 25 #[.pointer (some ⟨b, 0, none⟩), .pointer (some ⟨rb, 0, none⟩), .agg #[.int .i64 1, .int .i64 f, .int .i64 t, .string n, .int .u8 r.toNat]] w fun e w' => e = .returned (.bool true) ∧ ∃ s', Tw B w' b rb s' ∧ Below B w w' := by
  have HP : Hid3 (∀ W1, Below (w.heap.size + 1) (w.alloc (.cells #[.int .i64 1, .int .i64 f, .int .i64 t, .string n, .int .u8 r.toNat] 39)) W1 → Pr B w (W1.alloc (.cells #[.string (shortS n), .int .u8 r.toNat] 31)).drew b rb W1.heap.size s f t (shortS n) r.toNat) := ⟨fun W1 hB => Pr.mk' 1 f t n (shortS n) r.toNat h hB⟩
  have hsz := h.n.size
  have hm := shortS_size n
  have cS := fun W => cshort_any n r.toNat W
  generalize shortS n = m at *
  obtain ⟨e0, s', hp, hq⟩ := drop_both s f
  have hzz : (e0 == e0) = true := by simp
  clear h
  go_enter Tryd.func25, Tryd.ntmps25
  go_wp2_with fail
  refine (cS _).mono ?_
  rintro e W1 ⟨rfl, hB⟩
  have HR := Hid3.mk (HP.out W1 (by simpa using hB))
  obtain ⟨y0, hy0⟩ : ∃ y0, y0 = w.heap.size := ⟨_, rfl⟩
  have hk0 := (hB.cell (p := ⟨w.heap.size, 0, none⟩) (by simp)).trans ((Cl.new w 39 [.int .i64 1, .int .i64 f, .int .i64 t, .string n, .int .u8 r.toNat]).cell 0)
  simp only [List.getElem?_cons_zero] at hk0
  have hlw : w.heap.size < W1.heap.size := by have := hB.size; simp at this; omega
  clear hB cS HP hy0 y0
  go_wp2_with fail
  generalize W1.heap.size = y at *
  generalize (W1.alloc (.cells #[.string m, .int .u8 r.toNat] 31)) = W2 at *
  have hSa : Hid3 (SB w.heap.size y f t m r.toNat W2.drew) := ⟨HR.out.sb⟩
  clear hk0 hlw
  go_region_held3 (fun w' => w'.cell? ⟨w.heap.size, 1, none⟩ = some (.int .i64 f) ∧ w'.cell? ⟨w.heap.size, 2, none⟩ = some (.int .i64 t) ∧ w'.cell? ⟨y, 0, none⟩ = some (.string m) ∧ w'.cell? ⟨y, 1, none⟩ = some (.int .u8 r.toNat)) (with_reducible (first | exact hSa.out | exact hSb.out | exact hSc.out | exact hSd.out)) ((first
    | (go_at_call 52; (with_reducible refine (hp B b _ HR.out.two.t).mono ?_); rintro r1 W3 ⟨rfl, hs1⟩; have hSb : Hid3 (SB w.heap.size y f t m r.toNat W3) := ⟨HR.out.sb.stay hs1.ap HR.out.h1 HR.out.h3⟩; have HS1 := Hid3.mk hs1; have HR1 := Hid3.mk (HR.out.two.step hs1); clear hs1)
    | (go_at_call 53; (with_reducible refine (hq B rb _ HR1.out.1).mono ?_); rintro r2 W4 ⟨rfl, hs2⟩; have hSc : Hid3 (SB w.heap.size y f t m r.toNat W4) := ⟨hSb.out.stay hs2.ap HR.out.h2 HR.out.h4⟩; have HM := Hid3.mk (HR.out.two.steps HS1.out hs2); clear hs2)))
  all_goals
    go_wp2
    go_ret
    exact ⟨rfl, _, HM.out.1, (HR.out.bl.mono hsz).trans HM.out.2⟩
set_option maxHeartbeats 4000000 in
theorem do_2 (B b rb : Nat) (s : Sl) (f t : Int) (n : ByteArray) (r : BitVec 8) (w : World) (h : Tw B w b rb s) : Calls Tryd.prog 25 #[.pointer (some ⟨b, 0, none⟩), .pointer (some ⟨rb, 0, none⟩), .agg #[.int .i64 2, .int .i64 f, .int .i64 t, .string n, .int .u8 r.toNat]] w fun e w' => e = .returned (.bool true) ∧ ∃ s', Tw B w' b rb s' ∧ Below B w w' := by
  have HP : Hid3 (∀ W1, Below (w.heap.size + 1) (w.alloc (.cells #[.int .i64 2, .int .i64 f, .int .i64 t, .string n, .int .u8 r.toNat] 39)) W1 → Pr B w (W1.alloc (.cells #[.string (shortS n), .int .u8 r.toNat] 31)).drew b rb W1.heap.size s f t (shortS n) r.toNat) := ⟨fun W1 hB => Pr.mk' 2 f t n (shortS n) r.toNat h hB⟩
  have hsz := h.n.size
  have hm := shortS_size n
  have cS := fun W => cshort_any n r.toNat W
  generalize shortS n = m at *
  obtain ⟨e0, s', _, hp, hq⟩ := derive_both s f t m (by omega)
  have hzz : (e0 == e0) = true := by simp
  clear h
  go_enter Tryd.func25, Tryd.ntmps25
  go_wp2_with fail
  refine (cS _).mono ?_
  rintro e W1 ⟨rfl, hB⟩
  have HR := Hid3.mk (HP.out W1 (by simpa using hB))
  obtain ⟨y0, hy0⟩ : ∃ y0, y0 = w.heap.size := ⟨_, rfl⟩
  have hk0 := (hB.cell (p := ⟨w.heap.size, 0, none⟩) (by simp)).trans ((Cl.new w 39 [.int .i64 2, .int .i64 f, .int .i64 t, .string n, .int .u8 r.toNat]).cell 0)
  simp only [List.getElem?_cons_zero] at hk0
  have hlw : w.heap.size < W1.heap.size := by have := hB.size; simp at this; omega
  clear hB cS HP hy0 y0
  go_wp2_with fail
  generalize W1.heap.size = y at *
  generalize (W1.alloc (.cells #[.string m, .int .u8 r.toNat] 31)) = W2 at *
  have hSa : Hid3 (SB w.heap.size y f t m r.toNat W2.drew) := ⟨HR.out.sb⟩
  clear hk0 hlw
  go_region_held3 (fun w' => w'.cell? ⟨w.heap.size, 1, none⟩ = some (.int .i64 f) ∧ w'.cell? ⟨w.heap.size, 2, none⟩ = some (.int .i64 t) ∧ w'.cell? ⟨y, 0, none⟩ = some (.string m) ∧ w'.cell? ⟨y, 1, none⟩ = some (.int .u8 r.toNat)) (with_reducible (first | exact hSa.out | exact hSb.out | exact hSc.out | exact hSd.out)) ((first
    | (go_at_call 18; (with_reducible refine (hp B b _ HR.out.two.t).mono ?_); rintro r1 W3 ⟨rfl, hs1⟩; have hSb : Hid3 (SB w.heap.size y f t m r.toNat W3) := ⟨HR.out.sb.stay hs1.ap HR.out.h1 HR.out.h3⟩; have HS1 := Hid3.mk hs1; have HR1 := Hid3.mk (HR.out.two.step hs1); clear hs1)
    | (go_at_call 54; (with_reducible refine (hq B rb _ HR1.out.1 HR1.out.2).mono ?_); rintro r2 W4 ⟨rfl, hs2⟩; have hSc : Hid3 (SB w.heap.size y f t m r.toNat W4) := ⟨hSb.out.stay hs2.ap HR.out.h2 HR.out.h4⟩; have HM := Hid3.mk (HR.out.two.steps HS1.out hs2); clear hs2)))
  all_goals
    go_wp2
    go_ret
    exact ⟨rfl, _, HM.out.1, (HR.out.bl.mono hsz).trans HM.out.2⟩
set_option maxHeartbeats 4000000 in
theorem do_3 (B b rb : Nat) (s : Sl) (f t : Int) (n : ByteArray) (r : BitVec 8) (w : World) (h : Tw B w b rb s) : Calls Tryd.prog 25 #[.pointer (some ⟨b, 0, none⟩), .pointer (some ⟨rb, 0, none⟩), .agg #[.int .i64 3, .int .i64 f, .int .i64 t, .string n, .int .u8 r.toNat]] w fun e w' => e = .returned (.bool true) ∧ ∃ s', Tw B w' b rb s' ∧ Below B w w' := by
  have HP : Hid3 (∀ W1, Below (w.heap.size + 1) (w.alloc (.cells #[.int .i64 3, .int .i64 f, .int .i64 t, .string n, .int .u8 r.toNat] 39)) W1 → Pr B w (W1.alloc (.cells #[.string (shortS n), .int .u8 r.toNat] 31)).drew b rb W1.heap.size s f t (shortS n) r.toNat) := ⟨fun W1 hB => Pr.mk' 3 f t n (shortS n) r.toNat h hB⟩
  have hsz := h.n.size
  have hm := shortS_size n
  have cS := fun W => cshort_any n r.toNat W
  generalize shortS n = m at *
  obtain ⟨e0, s', _, hp, hq⟩ := restrict_both s f t r
  have hzz : (e0 == e0) = true := by simp
  clear h
  go_enter Tryd.func25, Tryd.ntmps25
  go_wp2_with fail
  refine (cS _).mono ?_
  rintro e W1 ⟨rfl, hB⟩
  have HR := Hid3.mk (HP.out W1 (by simpa using hB))
  obtain ⟨y0, hy0⟩ : ∃ y0, y0 = w.heap.size := ⟨_, rfl⟩
  have hk0 := (hB.cell (p := ⟨w.heap.size, 0, none⟩) (by simp)).trans ((Cl.new w 39 [.int .i64 3, .int .i64 f, .int .i64 t, .string n, .int .u8 r.toNat]).cell 0)
  simp only [List.getElem?_cons_zero] at hk0
  have hlw : w.heap.size < W1.heap.size := by have := hB.size; simp at this; omega
  clear hB cS HP hy0 y0
  go_wp2_with fail
  generalize W1.heap.size = y at *
  generalize (W1.alloc (.cells #[.string m, .int .u8 r.toNat] 31)) = W2 at *
  have hSa : Hid3 (SB w.heap.size y f t m r.toNat W2.drew) := ⟨HR.out.sb⟩
  clear hk0 hlw
  go_region_held3 (fun w' => w'.cell? ⟨w.heap.size, 1, none⟩ = some (.int .i64 f) ∧ w'.cell? ⟨w.heap.size, 2, none⟩ = some (.int .i64 t) ∧ w'.cell? ⟨y, 0, none⟩ = some (.string m) ∧ w'.cell? ⟨y, 1, none⟩ = some (.int .u8 r.toNat)) (with_reducible (first | exact hSa.out | exact hSb.out | exact hSc.out | exact hSd.out)) ((first
    | (go_at_call 17; (with_reducible refine (hp B b _ HR.out.two.t).mono ?_); rintro r1 W3 ⟨rfl, hs1⟩; have hSb : Hid3 (SB w.heap.size y f t m r.toNat W3) := ⟨HR.out.sb.stay hs1.ap HR.out.h1 HR.out.h3⟩; have HS1 := Hid3.mk hs1; have HR1 := Hid3.mk (HR.out.two.step hs1); clear hs1)
    | (go_at_call 55; (with_reducible refine (hq B rb _ HR1.out.1 HR1.out.2).mono ?_); rintro r2 W4 ⟨rfl, hs2⟩; have hSc : Hid3 (SB w.heap.size y f t m r.toNat W4) := ⟨hSb.out.stay hs2.ap HR.out.h2 HR.out.h4⟩; have HM := Hid3.mk (HR.out.two.steps HS1.out hs2); clear hs2)))
  all_goals
    go_wp2
    go_ret
    exact ⟨rfl, _, HM.out.1, (HR.out.bl.mono hsz).trans HM.out.2⟩
set_option maxHeartbeats 4000000 in
theorem do_4 (B b rb : Nat) (s : Sl) (f t : Int) (n : ByteArray) (r : BitVec 8) (w : World) (h : Tw B w b rb s) : Calls Tryd.prog 25 #[.pointer (some ⟨b, 0, none⟩), .pointer (some ⟨rb, 0, none⟩), .agg #[.int .i64 4, .int .i64 f, .int .i64 t, .string n, .int .u8 r.toNat]] w fun e w' => e = .returned (.bool true) ∧ ∃ s', Tw B w' b rb s' ∧ Below B w w' := by
  have HP : Hid3 (∀ W1, Below (w.heap.size + 1) (w.alloc (.cells #[.int .i64 4, .int .i64 f, .int .i64 t, .string n, .int .u8 r.toNat] 39)) W1 → Pr B w (W1.alloc (.cells #[.string (shortS n), .int .u8 r.toNat] 31)).drew b rb W1.heap.size s f t (shortS n) r.toNat) := ⟨fun W1 hB => Pr.mk' 4 f t n (shortS n) r.toNat h hB⟩
  have hsz := h.n.size
  have hm := shortS_size n
  have cS := fun W => cshort_any n r.toNat W
  generalize shortS n = m at *
  have hp := fun W (hW : Tb 71 B W b s) => revoke_any B b s m W hW (by omega)
  have hq := fun W (hW : Tb 61 B W rb s) (hN : Nt B W) => rrevoke_both B rb s m W hW hN (by omega)
  have hll : ((thL (revQ m s) 12).map (·.1)).length ≤ 1000 := by rw [List.length_map]; have := thL_len (revQ m s) 12; omega
  have HLL := Hid3.mk hll
  clear hll
  generalize goneS s (revQ m s) 12 = s' at *
  generalize thL (revQ m s) 12 = L at *
  clear h
  go_enter Tryd.func25, Tryd.ntmps25
  go_wp2_with fail
  refine (cS _).mono ?_
  rintro e W1 ⟨rfl, hB⟩
  have HR := Hid3.mk (HP.out W1 (by simpa using hB))
  obtain ⟨y0, hy0⟩ : ∃ y0, y0 = w.heap.size := ⟨_, rfl⟩
  have hk0 := (hB.cell (p := ⟨w.heap.size, 0, none⟩) (by simp)).trans ((Cl.new w 39 [.int .i64 4, .int .i64 f, .int .i64 t, .string n, .int .u8 r.toNat]).cell 0)
  simp only [List.getElem?_cons_zero] at hk0
  have hlw : w.heap.size < W1.heap.size := by have := hB.size; simp at this; omega
  clear hB cS HP hy0 y0
  go_wp2_with fail
  generalize W1.heap.size = y at *
  generalize (W1.alloc (.cells #[.string m, .int .u8 r.toNat] 31)) = W2 at *
  have hSa : Hid3 (SB w.heap.size y f t m r.toNat W2.drew) := ⟨HR.out.sb⟩
  clear hk0 hlw
  go_region_held3 (fun w' => w'.cell? ⟨w.heap.size, 1, none⟩ = some (.int .i64 f) ∧ w'.cell? ⟨w.heap.size, 2, none⟩ = some (.int .i64 t) ∧ w'.cell? ⟨y, 0, none⟩ = some (.string m) ∧ w'.cell? ⟨y, 1, none⟩ = some (.int .u8 r.toNat)) (with_reducible (first | exact hSa.out | exact hSb.out | exact hSc.out | exact hSd.out)) ((first
    | (go_at_call 20; (with_reducible refine (hp _ HR.out.two.t).mono ?_); rintro r1 W3 ⟨v1, rfl, hr1, hs1⟩; have hSb : Hid3 (SB w.heap.size y f t m r.toNat W3) := ⟨HR.out.sb.stay hs1.ap HR.out.h1 HR.out.h3⟩; have HI1 := Hid3.mk (slots_ints hr1); have HS1 := Hid3.mk hs1; have HR1 := Hid3.mk (HR.out.two.step hs1); clear hs1 hr1)
    | (go_at_call 56; (with_reducible refine (hq _ HR1.out.1 HR1.out.2).mono ?_); rintro r2 W4 ⟨v2, rfl, hr2, hs2⟩; have hSc : Hid3 (SB w.heap.size y f t m r.toNat W4) := ⟨hSb.out.stay hs2.ap HR.out.h2 HR.out.h4⟩; have HM := Hid3.mk (HR.out.two.steps HS1.out hs2); have HI2 := Hid3.mk (slots_ints hr2).1; have HI3 := Hid3.mk (ints_over HI1.out HR.out.two.r.c.lt hs2.ap); have c3 := sameints_any v1 v2 _ W4 HI3.out HI2.out HLL.out; clear hs2 hr2)
    | (go_at_call 32; (with_reducible refine c3.mono ?_); rintro r3 W5 ⟨rfl, hB5⟩; have hSd : Hid3 (SB w.heap.size y f t m r.toNat W5) := ⟨hSc.out.low hB5⟩; have HB5 := Hid3.mk hB5; clear hB5)))
  all_goals
    go_wp2
    go_ret
    exact ⟨rfl, _, HM.out.1.low HB5.out, ((HR.out.bl.mono hsz).trans HM.out.2).trans (HB5.out.mono HM.out.1.n.size)⟩
set_option maxHeartbeats 4000000 in
theorem do_else (k : Int) (n0 : (k == 0) = false) (n1 : (k == 1) = false) (n2 : (k == 2) = false) (n3 : (k == 3) = false) (n4 : (k == 4) = false) (B b rb : Nat) (s : Sl) (f t : Int) (n : ByteArray) (r : BitVec 8) (w : World) (h : Tw B w b rb s) : Calls Tryd.prog 25 #[.pointer (some ⟨b, 0, none⟩), .pointer (some ⟨rb, 0, none⟩), .agg #[.int .i64 k, .int .i64 f, .int .i64 t, .string n, .int .u8 r.toNat]] w fun e w' => e = .returned (.bool true) ∧ ∃ s', Tw B w' b rb s' ∧ Below B w w' := by
  have HP : Hid3 (∀ W1, Below (w.heap.size + 1) (w.alloc (.cells #[.int .i64 k, .int .i64 f, .int .i64 t, .string n, .int .u8 r.toNat] 39)) W1 → Pr B w (W1.alloc (.cells #[.string (shortS n), .int .u8 r.toNat] 31)).drew b rb W1.heap.size s f t (shortS n) r.toNat) := ⟨fun W1 hB => Pr.mk' k f t n (shortS n) r.toNat h hB⟩
  have hsz := h.n.size
  have hm := shortS_size n
  have cS := fun W => cshort_any n r.toNat W
  generalize shortS n = m at *
  have HT := Hid3.mk h
  clear h
  go_enter Tryd.func25, Tryd.ntmps25
  go_wp2_with fail
  refine (cS _).mono ?_
  rintro e W1 ⟨rfl, hB⟩
  have hk0 := (hB.cell (p := ⟨w.heap.size, 0, none⟩) (by simp)).trans ((Cl.new w 39 [.int .i64 k, .int .i64 f, .int .i64 t, .string n, .int .u8 r.toNat]).cell 0)
  simp only [List.getElem?_cons_zero] at hk0
  have hlw : w.heap.size < W1.heap.size := by have := hB.size; simp at this; omega
  have hB2 := hB.alloc hB.size (.cells #[.string m, .int .u8 r.toNat] 31)
  have hX := below_new w (.cells #[.int .i64 k, .int .i64 f, .int .i64 t, .string n, .int .u8 r.toNat] 39)
  have HB := Hid3.mk (hX.trans (hB2.mono hX.size))
  clear hB hB2 hX cS HP
  go_wp2
  go_ret
  exact ⟨rfl, _, HT.out.low HB.out, HB.out.mono hsz⟩
theorem do_any (B b rb : Nat) (s : Sl) (d : Dd) (w : World) (h : Tw B w b rb s) : Calls Tryd.prog 25 #[.pointer (some ⟨b, 0, none⟩), .pointer (some ⟨rb, 0, none⟩), d.V] w fun e w' => e = .returned (.bool true) ∧ ∃ s', Tw B w' b rb s' ∧ Below B w w' := by
  obtain ⟨k, f, t, n, r⟩ := d
  by_cases h0 : k = 0
  · subst h0; exact do_0 B b rb s f t n r w h
  by_cases h1 : k = 1
  · subst h1; exact do_1 B b rb s f t n r w h
  by_cases h2 : k = 2
  · subst h2; exact do_2 B b rb s f t n r w h
  by_cases h3 : k = 3
  · subst h3; exact do_3 B b rb s f t n r w h
  by_cases h4 : k = 4
  · subst h4; exact do_4 B b rb s f t n r w h
  exact do_else k (by simpa using h0) (by simpa using h1) (by simpa using h2) (by simpa using h3) (by simpa using h4) B b rb s f t n r w h
end Go.Proofs.YtioinppclejbhaaDoor
