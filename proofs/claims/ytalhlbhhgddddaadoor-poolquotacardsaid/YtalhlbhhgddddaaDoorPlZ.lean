/- A deed on both pools. -/
import Derived.Test.YtalhlbhhgddddaaDoorPlY
import Derived.Test.YtalhlbhhgddddaaDoorPlH
import Derived.Test.YtalhlbhhgddddaaDoorRefU
namespace Go.Proofs.YtalhlbhhgddddaaDoor
open Go.RowKit Go.Maps
set_option linter.unusedVariables false
set_option maxRecDepth 100000
/-- Both pools. -/
structure Tw (B : Nat) (w : World) (b fb : Nat) (v : Value) (rb : Nat) (rv : Value) (q : Ps) : Prop where
  p : Pl B w b fb 8 v q
  r : Rl B w rb rv q
  nr : ∀ k, rv.ownBlock = some k → k ≠ b ∧ k ≠ fb ∧ v.ownBlock ≠ some k
theorem Tw.low {B : Nat} {w w' : World} {b fb : Nat} {v : Value} {rb : Nat} {rv : Value} {q : Ps} (h : Tw B w b fb v rb rv q) (k : Below w.heap.size w w') : Tw B w' b fb v rb rv q := ⟨h.p.low k, h.r.low k, h.nr⟩
theorem EvR.lt {w : World} {v : Value} {L : List Ev} (h : EvR w v L) {k : Nat} (e : v.ownBlock = some k) : k < w.heap.size := by
  rcases h with ⟨h1, _⟩ | ⟨g, cap, h1, h2, _⟩
  · rw [h1] at e; cases e
  · rw [h1] at e
    have e' : g = k := Option.some.inj e
    omega
theorem Tw.ne {B : Nat} {w : World} {b fb : Nat} {v : Value} {rb : Nat} {rv : Value} {q : Ps} (h : Tw B w b fb v rb rv q) : b ≠ rb ∧ fb ≠ rb ∧ v.ownBlock ≠ some rb := by
  obtain ⟨arr, hr, _⟩ := h.r.ex
  obtain ⟨arf, hf, _⟩ := h.p.f
  have hb : w.heap[b]? = some (.cells (poolCs fb 8 q.M v).toArray 70 (0, 0)) := h.p.c
  refine ⟨fun e => ?_, fun e => ?_, own_ne h.p.e hr (by decide)⟩
  · rw [e, hr] at hb
    injection hb with hb
    injection hb with _ hb _
    exact absurd hb (by decide)
  · rw [e, hr] at hf
    injection hf with hf
    injection hf with _ hf _
    exact absurd hf (by decide)
theorem Pl.stay {B : Nat} {w w' : World} {b fb n : Nat} {v : Value} {q : Ps} {rb : Nat} (h : Pl B w b fb n v q) (k : Apart (fun i => i = rb) w w') (h1 : b ≠ rb) (h2 : fb ≠ rb) (h3 : v.ownBlock ≠ some rb) : Pl B w' b fb n v q :=
  ⟨h.g, h.gf, h.c.stay k h1, h.f.stay k h2, h.e.kept (⟨k.os, k.tape, k.output, k.size, fun i hi hne => k.block i hi (fun e => hne (by rw [e]))⟩ : w.grownBy w' (some rb)) (.inr h3), h.o, h.n9⟩
/-- The blocks of both. -/
def XT (b fb : Nat) (v : Value) (rb : Nat) : Nat → Prop := fun k => XP b fb v k ∨ k = rb
/-- What a deed on both comes to. -/
structure Mv (B : Nat) (w w' : World) (b fb : Nat) (v : Value) (rb : Nat) (rv : Value) (q : Ps) : Prop where
  out : ∃ v' rv', Tw B w' b fb v' rb rv' q
  ap : Apart (XT b fb v rb) w w'
theorem own_lt {w : World} {B t size n : Nat} {v : Value} {xs : List Value} (h : w.ownsRow B t size v n xs) {k : Nat} (e : v.ownBlock = some k) : k < w.heap.size := by
  obtain ⟨cur, h1⟩ := own_ty h e
  exact (Array.getElem?_eq_some_iff.1 h1).1
/-- The program's step, and then the document's. -/
theorem Tw.half {B : Nat} {w w1 : World} {b fb : Nat} {v : Value} {rb : Nat} {rv : Value} {q q' : Ps} (h : Tw B w b fb v rb rv q) (s : PStp B w w1 b fb 8 v q') : Rl B w1 rb rv q := by
  obtain ⟨n1, n2, n3⟩ := h.ne
  refine h.r.stay s.ap (fun e => ?_) (fun i e1 e2 => ?_)
  · rcases e with e | e | e
    · exact n1 e.symm
    · exact n2 e.symm
    · exact n3 e
  · obtain ⟨m1, m2, m3⟩ := h.nr i e1
    rcases e2 with e | e | e
    · exact m1 e
    · exact m2 e
    · exact m3 e
theorem Mv.mk' {B : Nat} {w w1 w2 : World} {b fb : Nat} {v : Value} {rb : Nat} {rv : Value} {q q' : Ps} (h : Tw B w b fb v rb rv q) (s : PStp B w w1 b fb 8 v q') (t : RStp B w1 w2 rb rv q') : Mv B w w2 b fb v rb rv q' := by
  obtain ⟨n1, n2, n3⟩ := h.ne
  obtain ⟨v', p1, p2⟩ := s.out
  obtain ⟨rv', r1, r2⟩ := t.out
  have hrl := h.r.c.l
  have n3' : v'.ownBlock ≠ some rb := fun e => by
    rcases p2 rb e with e1 | e1
    · exact n3 e1
    · omega
  refine ⟨⟨v', rv', p1.stay t.ap n1 n2 n3', r1, fun k e => ?_⟩, (s.ap.wide (fun i _ e => .inl e)).trans (t.ap.wide (fun i _ e => .inr e))⟩
  have hb1 := p1.c.lt
  have hf1 := p1.f.lt
  rcases r2 k e with e1 | e1
  · obtain ⟨m1, m2, m3⟩ := h.nr k e1
    refine ⟨m1, m2, fun e3 => ?_⟩
    have hk := h.r.ev.lt e1
    rcases p2 k e3 with e4 | e4
    · exact m3 e4
    · omega
  · exact ⟨by omega, by omega, fun e3 => by have := own_lt p1.e e3; omega⟩
theorem Mv.same {B : Nat} {w w' : World} {b fb : Nat} {v : Value} {rb : Nat} {rv : Value} {q : Ps} (h : Tw B w b fb v rb rv q) (k : Below w.heap.size w w') : Mv B w w' b fb v rb rv q := ⟨⟨v, rv, h.low k⟩, Apart.of_below k⟩
theorem Mv.pre {B : Nat} {w w1 w2 : World} {b fb : Nat} {v : Value} {rb : Nat} {rv : Value} {q : Ps} (h : Below w.heap.size w w1) (k : Mv B w1 w2 b fb v rb rv q) : Mv B w w2 b fb v rb rv q := ⟨k.out, (Apart.of_below h).trans k.ap⟩
theorem Mv.below {B : Nat} {w w1 w2 : World} {b fb : Nat} {v : Value} {rb : Nat} {rv : Value} {q q' : Ps} (h : Tw B w b fb v rb rv q) (k : Mv B w w2 b fb v rb rv q') (hB : B ≤ w.heap.size) : Below B w w2 :=
  k.ap.below B (fun i e => by
    rcases e with (e | e | e) | e
    · rw [e]; exact h.p.g
    · rw [e]; exact h.p.gf
    · exact own_ge h.p.e e
    · rw [e]; exact h.r.g) hB
/-- A deed. -/
structure Dd where
  k : Int
  n : Int
  e : Nat
  t : Nat
  f : Nat
  s : ByteArray
  r : Nat
def ddV (d : Dd) : Value := .agg #[.int .i64 d.k, .int .i64 d.n, .int .u8 d.e, .int .u8 d.t, .int .u8 d.f, .string d.s, .int .u8 d.r]
def cut3 (s : ByteArray) : ByteArray := if 300 < s.size then s.extract 0 300 else s
theorem cut3_le (s : ByteArray) : (cut3 s).size ≤ 1000 := by
  unfold cut3
  split
  · rw [ByteArray.size_extract]; omega
  · omega
def doQ (d : Dd) (q : Ps) : Ps :=
  if d.k = 0 then qtQ q d.e d.n else if d.k = 1 then grQ 8 q d.e d.f (cut3 d.s, (d.r : Int)) else if d.k = 2 then shQ 8 q d.e d.t d.f else if d.k = 3 then frQ 8 q d.e d.f else if d.k = 4 then rpQ 8 q d.e d.f else q
abbrev SD (D : Nat) (n : Int) (e t f : Nat) (s : ByteArray) (r : Nat) (W : World) : Prop := W.cell? ⟨D, 1, none⟩ = some (.int .i64 n) ∧ W.cell? ⟨D, 2, none⟩ = some (.int .u8 e) ∧ W.cell? ⟨D, 3, none⟩ = some (.int .u8 t) ∧ W.cell? ⟨D, 4, none⟩ = some (.int .u8 f) ∧ W.cell? ⟨D, 5, none⟩ = some (.string s) ∧ W.cell? ⟨D, 6, none⟩ = some (.int .u8 r)
theorem SD.stay {D : Nat} {n : Int} {e t f : Nat} {s : ByteArray} {r : Nat} {X : Nat → Prop} {W W' : World} (h : SD D n e t f s r W) (k : Apart X W W') (hx : ¬ X D) : SD D n e t f s r W' := by
  have hb := k.block D (World.block_lt_of_cell? W _ h.1) hx
  obtain ⟨h1, h2, h3, h4, h5, h6⟩ := h
  refine ⟨?_, ?_, ?_, ?_, ?_, ?_⟩ <;> (rw [World.cell?_of_block (w := W) hb]; assumption)
theorem sd_of {W : World} {D : Nat} {k n : Int} {e t f : Nat} {s : ByteArray} {r : Nat} {ty : TypeId} (h : W.heap[D]? = some (.cells #[.int .i64 k, .int .i64 n, .int .u8 e, .int .u8 t, .int .u8 f, .string s, .int .u8 r] ty)) : SD D n e t f s r W := by
  refine ⟨?_, ?_, ?_, ?_, ?_, ?_⟩ <;> (rw [Lib.cell_of_heap h]; rfl)
theorem XP_ge {B : Nat} {w : World} {b fb n : Nat} {v : Value} {q : Ps} (h : Pl B w b fb n v q) : ∀ k, XP b fb v k → B ≤ k := by
  rintro k (e | e | e)
  · rw [e]; exact h.g
  · rw [e]; exact h.gf
  · exact own_ge h.e e
set_option maxHeartbeats 4000000 in
theorem do_0s (B b fb : Nat) (v : Value) (rb : Nat) (rv : Value) (q : Ps) (n : Int) (e t f : Nat) (s : ByteArray) (r : Nat) (hf : f ≤ 255) (hs : ¬ 300 < s.size) (w : World) (h : Tw B w b fb v rb rv q) (hl : q.E.length ≤ 1000) (hB : B ≤ w.heap.size) (hNT : ∀ W, Below B w W → NTabs W) : Calls Tryd.prog 26 #[.pointer (some ⟨b, 0, none⟩), .pointer (some ⟨rb, 0, none⟩), .agg #[.int .i64 0, .int .i64 n, .int .u8 e, .int .u8 t, .int .u8 f, .string s, .int .u8 r]] w fun r9 w' => r9 = .returned (.bool true) ∧ Mv B w w' b fb v rb rv (qtQ q e n) := by
  have hbl := h.p.c.lt
  have hfl := h.p.f.lt
  have hrl := h.r.c.l
  have hol : ∀ i, v.ownBlock = some i → i < w.heap.size := fun i e => own_lt h.p.e e
  have hXP : ¬ XP b fb v w.heap.size := by
    rintro (e | e | e)
    · omega
    · omega
    · have := hol _ e; omega
  have hXR : ¬ (fun i => i = rb) w.heap.size := fun e => by have e' : w.heap.size = rb := e; omega
  have hcut : cut3 s = s := by unfold cut3; rw [if_neg hs]
  have hsz : ¬ (300 : Int) < (s.size : Int) := by omega
  have hbx := heap_alloc_new w (.cells #[.int .i64 0, .int .i64 n, .int .u8 e, .int .u8 t, .int .u8 f, .string s, .int .u8 r] 45)
  have hX0 : Below w.heap.size w (w.alloc (.cells #[.int .i64 0, .int .i64 n, .int .u8 e, .int .u8 t, .int .u8 f, .string s, .int .u8 r] 45)) := below_new w _
  have hX : Below w.heap.size w (w.alloc (.cells #[.int .i64 0, .int .i64 n, .int .u8 e, .int .u8 t, .int .u8 f, .string s, .int .u8 r] 45)).drew := below_drew hX0
  have hSa : Hid3 (SD w.heap.size n e t f (s) r (w.alloc (.cells #[.int .i64 0, .int .i64 n, .int .u8 e, .int .u8 t, .int .u8 f, .string s, .int .u8 r] 45)).drew) := ⟨sd_of hbx⟩
  have HT := Hid3.mk (h.low hX)
  have HX := Hid3.mk hX
  have hEl : q.E.length ≤ 1000 := hl
  have hBB : B ≤ (w.alloc (.cells #[.int .i64 0, .int .i64 n, .int .u8 e, .int .u8 t, .int .u8 f, .string s, .int .u8 r] 45)).drew.heap.size := Nat.le_trans hB hX.size
  have cT := fun W (hV : Pl B W b fb 8 v q) (hW : B ≤ W.heap.size) => quota_any B b fb 8 v q e n W hV
  have cRr := fun W (hV : Rl B W rb rv q) (hW : B ≤ W.heap.size) (hN : NTabs W) => rquota_any B rb rv q e n W hV
  have HNT := Hid3.mk hNT
  have HXB := Hid3.mk (hX.mono hB)
  clear hNT
  generalize qtQ q e n = q' at *
  generalize qtE e n = z at *
  have hzz : (z == z) = true := by simp
  clear h hX hbx hX0
  go_enter Tryd.func26, Tryd.ntmps26
  go_wp2_with fail
  go_region_held3 (fun w' => w'.cell? ⟨w.heap.size, 1, none⟩ = some (.int .i64 n) ∧ w'.cell? ⟨w.heap.size, 2, none⟩ = some (.int .u8 e) ∧ w'.cell? ⟨w.heap.size, 3, none⟩ = some (.int .u8 t) ∧ w'.cell? ⟨w.heap.size, 4, none⟩ = some (.int .u8 f) ∧ w'.cell? ⟨w.heap.size, 5, none⟩ = some (.string s) ∧ w'.cell? ⟨w.heap.size, 6, none⟩ = some (.int .u8 r)) (with_reducible (first | exact hSa.out | exact hSb.out | exact hSc.out)) ((first
    | (go_at_call 15; refine (cT _ HT.out.p hBB).mono ?_; rintro r1 W1 ⟨rfl, hs1⟩; have hSb : Hid3 (SD w.heap.size n e t f s r W1) := ⟨hSa.out.stay hs1.ap hXP⟩; have HS1 := Hid3.mk hs1; have HR1 : Hid3 (Rl B W1 rb rv q) := ⟨HT.out.half hs1⟩; have HN1 : Hid3 (NTabs W1) := ⟨HNT.out W1 (HXB.out.trans (hs1.ap.below B (XP_ge HT.out.p) hBB))⟩; have hB1 := Nat.le_trans hBB hs1.ap.size; clear hs1)
    | (go_at_call 54; refine (cRr _ HR1.out hB1 HN1.out).mono ?_; rintro r1 W2 ⟨rfl, hs2⟩; have hSc : Hid3 (SD w.heap.size n e t f s r W2) := ⟨hSb.out.stay hs2.ap hXR⟩; have HM : Hid3 (Mv B w W2 b fb v rb rv q') := ⟨(Mv.mk' HT.out HS1.out hs2).pre HX.out⟩; clear hs2)))
  all_goals (
    go_wp2
    go_ret
    exact ⟨rfl, HM.out⟩)
set_option maxHeartbeats 4000000 in
theorem do_1s (B b fb : Nat) (v : Value) (rb : Nat) (rv : Value) (q : Ps) (n : Int) (e t f : Nat) (s : ByteArray) (r : Nat) (hf : f ≤ 255) (hs : ¬ 300 < s.size) (w : World) (h : Tw B w b fb v rb rv q) (hl : q.E.length ≤ 1000) (hB : B ≤ w.heap.size) (hNT : ∀ W, Below B w W → NTabs W) : Calls Tryd.prog 26 #[.pointer (some ⟨b, 0, none⟩), .pointer (some ⟨rb, 0, none⟩), .agg #[.int .i64 1, .int .i64 n, .int .u8 e, .int .u8 t, .int .u8 f, .string s, .int .u8 r]] w fun r9 w' => r9 = .returned (.bool true) ∧ Mv B w w' b fb v rb rv (grQ 8 q e f (s, (r : Int))) := by
  have hbl := h.p.c.lt
  have hfl := h.p.f.lt
  have hrl := h.r.c.l
  have hol : ∀ i, v.ownBlock = some i → i < w.heap.size := fun i e => own_lt h.p.e e
  have hXP : ¬ XP b fb v w.heap.size := by
    rintro (e | e | e)
    · omega
    · omega
    · have := hol _ e; omega
  have hXR : ¬ (fun i => i = rb) w.heap.size := fun e => by have e' : w.heap.size = rb := e; omega
  have hcut : cut3 s = s := by unfold cut3; rw [if_neg hs]
  have hsz : ¬ (300 : Int) < (s.size : Int) := by omega
  have hbx := heap_alloc_new w (.cells #[.int .i64 1, .int .i64 n, .int .u8 e, .int .u8 t, .int .u8 f, .string s, .int .u8 r] 45)
  have hX0 : Below w.heap.size w (w.alloc (.cells #[.int .i64 1, .int .i64 n, .int .u8 e, .int .u8 t, .int .u8 f, .string s, .int .u8 r] 45)) := below_new w _
  have hX : Below w.heap.size w (w.alloc (.cells #[.int .i64 1, .int .i64 n, .int .u8 e, .int .u8 t, .int .u8 f, .string s, .int .u8 r] 45)).drew := below_drew hX0
  have hSa : Hid3 (SD w.heap.size n e t f (s) r (w.alloc (.cells #[.int .i64 1, .int .i64 n, .int .u8 e, .int .u8 t, .int .u8 f, .string s, .int .u8 r] 45)).drew) := ⟨sd_of hbx⟩
  have HT := Hid3.mk (h.low hX)
  have HX := Hid3.mk hX
  have hEl : q.E.length ≤ 1000 := hl
  have hBB : B ≤ (w.alloc (.cells #[.int .i64 1, .int .i64 n, .int .u8 e, .int .u8 t, .int .u8 f, .string s, .int .u8 r] 45)).drew.heap.size := Nat.le_trans hB hX.size
  have cT := fun W (hV : Pl B W b fb 8 v q) (hW : B ≤ W.heap.size) => grant_any B b fb 8 v q e f (s, (r : Int)) W hV hf (by first | (have := cut3_le s; rw [hcut] at this; exact this)) hEl hW
  have cRr := fun W (hV : Rl B W rb rv q) (hW : B ≤ W.heap.size) (hN : NTabs W) => rgrant_any B rb rv q e f (s, (r : Int)) hf W hV hEl hW (fun W2 hW2 => rright_any s r W2 (by have := cut3_le s; rw [hcut] at this; exact this) (hN.later hW2))
  have HNT := Hid3.mk hNT
  have HXB := Hid3.mk (hX.mono hB)
  clear hNT
  generalize grQ 8 q e f (s, (r : Int)) = q' at *
  generalize grE 8 q e f (s, (r : Int)) = z at *
  have hzz : (z == z) = true := by simp
  clear h hX hbx hX0
  go_enter Tryd.func26, Tryd.ntmps26
  go_wp2_with fail
  go_region_held3 (fun w' => w'.cell? ⟨w.heap.size, 1, none⟩ = some (.int .i64 n) ∧ w'.cell? ⟨w.heap.size, 2, none⟩ = some (.int .u8 e) ∧ w'.cell? ⟨w.heap.size, 3, none⟩ = some (.int .u8 t) ∧ w'.cell? ⟨w.heap.size, 4, none⟩ = some (.int .u8 f) ∧ w'.cell? ⟨w.heap.size, 5, none⟩ = some (.string s) ∧ w'.cell? ⟨w.heap.size, 6, none⟩ = some (.int .u8 r)) (with_reducible (first | exact hSa.out | exact hSb.out | exact hSc.out)) ((first
    | (go_at_call 16; refine (cT _ HT.out.p hBB).mono ?_; rintro r1 W1 ⟨rfl, hs1⟩; have hSb : Hid3 (SD w.heap.size n e t f s r W1) := ⟨hSa.out.stay hs1.ap hXP⟩; have HS1 := Hid3.mk hs1; have HR1 : Hid3 (Rl B W1 rb rv q) := ⟨HT.out.half hs1⟩; have HN1 : Hid3 (NTabs W1) := ⟨HNT.out W1 (HXB.out.trans (hs1.ap.below B (XP_ge HT.out.p) hBB))⟩; have hB1 := Nat.le_trans hBB hs1.ap.size; clear hs1)
    | (go_at_call 55; refine (cRr _ HR1.out hB1 HN1.out).mono ?_; rintro r1 W2 ⟨rfl, hs2⟩; have hSc : Hid3 (SD w.heap.size n e t f s r W2) := ⟨hSb.out.stay hs2.ap hXR⟩; have HM : Hid3 (Mv B w W2 b fb v rb rv q') := ⟨(Mv.mk' HT.out HS1.out hs2).pre HX.out⟩; clear hs2)))
  all_goals (
    go_wp2
    go_ret
    exact ⟨rfl, HM.out⟩)
set_option maxHeartbeats 4000000 in
theorem do_2s (B b fb : Nat) (v : Value) (rb : Nat) (rv : Value) (q : Ps) (n : Int) (e t f : Nat) (s : ByteArray) (r : Nat) (hf : f ≤ 255) (hs : ¬ 300 < s.size) (w : World) (h : Tw B w b fb v rb rv q) (hl : q.E.length ≤ 1000) (hB : B ≤ w.heap.size) (hNT : ∀ W, Below B w W → NTabs W) : Calls Tryd.prog 26 #[.pointer (some ⟨b, 0, none⟩), .pointer (some ⟨rb, 0, none⟩), .agg #[.int .i64 2, .int .i64 n, .int .u8 e, .int .u8 t, .int .u8 f, .string s, .int .u8 r]] w fun r9 w' => r9 = .returned (.bool true) ∧ Mv B w w' b fb v rb rv (shQ 8 q e t f) := by
  have hbl := h.p.c.lt
  have hfl := h.p.f.lt
  have hrl := h.r.c.l
  have hol : ∀ i, v.ownBlock = some i → i < w.heap.size := fun i e => own_lt h.p.e e
  have hXP : ¬ XP b fb v w.heap.size := by
    rintro (e | e | e)
    · omega
    · omega
    · have := hol _ e; omega
  have hXR : ¬ (fun i => i = rb) w.heap.size := fun e => by have e' : w.heap.size = rb := e; omega
  have hcut : cut3 s = s := by unfold cut3; rw [if_neg hs]
  have hsz : ¬ (300 : Int) < (s.size : Int) := by omega
  have hbx := heap_alloc_new w (.cells #[.int .i64 2, .int .i64 n, .int .u8 e, .int .u8 t, .int .u8 f, .string s, .int .u8 r] 45)
  have hX0 : Below w.heap.size w (w.alloc (.cells #[.int .i64 2, .int .i64 n, .int .u8 e, .int .u8 t, .int .u8 f, .string s, .int .u8 r] 45)) := below_new w _
  have hX : Below w.heap.size w (w.alloc (.cells #[.int .i64 2, .int .i64 n, .int .u8 e, .int .u8 t, .int .u8 f, .string s, .int .u8 r] 45)).drew := below_drew hX0
  have hSa : Hid3 (SD w.heap.size n e t f (s) r (w.alloc (.cells #[.int .i64 2, .int .i64 n, .int .u8 e, .int .u8 t, .int .u8 f, .string s, .int .u8 r] 45)).drew) := ⟨sd_of hbx⟩
  have HT := Hid3.mk (h.low hX)
  have HX := Hid3.mk hX
  have hEl : q.E.length ≤ 1000 := hl
  have hBB : B ≤ (w.alloc (.cells #[.int .i64 2, .int .i64 n, .int .u8 e, .int .u8 t, .int .u8 f, .string s, .int .u8 r] 45)).drew.heap.size := Nat.le_trans hB hX.size
  have cT := fun W (hV : Pl B W b fb 8 v q) (hW : B ≤ W.heap.size) => share_any B b fb 8 v q e t f W hV hf hEl hW
  have cRr := fun W (hV : Rl B W rb rv q) (hW : B ≤ W.heap.size) (hN : NTabs W) => rshare_any B rb rv q e t f hf W hV hEl hW
  have HNT := Hid3.mk hNT
  have HXB := Hid3.mk (hX.mono hB)
  clear hNT
  generalize shQ 8 q e t f = q' at *
  generalize shE 8 q e t f = z at *
  have hzz : (z == z) = true := by simp
  clear h hX hbx hX0
  go_enter Tryd.func26, Tryd.ntmps26
  go_wp2_with fail
  go_region_held3 (fun w' => w'.cell? ⟨w.heap.size, 1, none⟩ = some (.int .i64 n) ∧ w'.cell? ⟨w.heap.size, 2, none⟩ = some (.int .u8 e) ∧ w'.cell? ⟨w.heap.size, 3, none⟩ = some (.int .u8 t) ∧ w'.cell? ⟨w.heap.size, 4, none⟩ = some (.int .u8 f) ∧ w'.cell? ⟨w.heap.size, 5, none⟩ = some (.string s) ∧ w'.cell? ⟨w.heap.size, 6, none⟩ = some (.int .u8 r)) (with_reducible (first | exact hSa.out | exact hSb.out | exact hSc.out)) ((first
    | (go_at_call 17; refine (cT _ HT.out.p hBB).mono ?_; rintro r1 W1 ⟨rfl, hs1⟩; have hSb : Hid3 (SD w.heap.size n e t f s r W1) := ⟨hSa.out.stay hs1.ap hXP⟩; have HS1 := Hid3.mk hs1; have HR1 : Hid3 (Rl B W1 rb rv q) := ⟨HT.out.half hs1⟩; have HN1 : Hid3 (NTabs W1) := ⟨HNT.out W1 (HXB.out.trans (hs1.ap.below B (XP_ge HT.out.p) hBB))⟩; have hB1 := Nat.le_trans hBB hs1.ap.size; clear hs1)
    | (go_at_call 56; refine (cRr _ HR1.out hB1 HN1.out).mono ?_; rintro r1 W2 ⟨rfl, hs2⟩; have hSc : Hid3 (SD w.heap.size n e t f s r W2) := ⟨hSb.out.stay hs2.ap hXR⟩; have HM : Hid3 (Mv B w W2 b fb v rb rv q') := ⟨(Mv.mk' HT.out HS1.out hs2).pre HX.out⟩; clear hs2)))
  all_goals (
    go_wp2
    go_ret
    exact ⟨rfl, HM.out⟩)
set_option maxHeartbeats 4000000 in
theorem do_3s (B b fb : Nat) (v : Value) (rb : Nat) (rv : Value) (q : Ps) (n : Int) (e t f : Nat) (s : ByteArray) (r : Nat) (hf : f ≤ 255) (hs : ¬ 300 < s.size) (w : World) (h : Tw B w b fb v rb rv q) (hl : q.E.length ≤ 1000) (hB : B ≤ w.heap.size) (hNT : ∀ W, Below B w W → NTabs W) : Calls Tryd.prog 26 #[.pointer (some ⟨b, 0, none⟩), .pointer (some ⟨rb, 0, none⟩), .agg #[.int .i64 3, .int .i64 n, .int .u8 e, .int .u8 t, .int .u8 f, .string s, .int .u8 r]] w fun r9 w' => r9 = .returned (.bool true) ∧ Mv B w w' b fb v rb rv (frQ 8 q e f) := by
  have hbl := h.p.c.lt
  have hfl := h.p.f.lt
  have hrl := h.r.c.l
  have hol : ∀ i, v.ownBlock = some i → i < w.heap.size := fun i e => own_lt h.p.e e
  have hXP : ¬ XP b fb v w.heap.size := by
    rintro (e | e | e)
    · omega
    · omega
    · have := hol _ e; omega
  have hXR : ¬ (fun i => i = rb) w.heap.size := fun e => by have e' : w.heap.size = rb := e; omega
  have hcut : cut3 s = s := by unfold cut3; rw [if_neg hs]
  have hsz : ¬ (300 : Int) < (s.size : Int) := by omega
  have hbx := heap_alloc_new w (.cells #[.int .i64 3, .int .i64 n, .int .u8 e, .int .u8 t, .int .u8 f, .string s, .int .u8 r] 45)
  have hX0 : Below w.heap.size w (w.alloc (.cells #[.int .i64 3, .int .i64 n, .int .u8 e, .int .u8 t, .int .u8 f, .string s, .int .u8 r] 45)) := below_new w _
  have hX : Below w.heap.size w (w.alloc (.cells #[.int .i64 3, .int .i64 n, .int .u8 e, .int .u8 t, .int .u8 f, .string s, .int .u8 r] 45)) := hX0
  have hSa : Hid3 (SD w.heap.size n e t f (s) r (w.alloc (.cells #[.int .i64 3, .int .i64 n, .int .u8 e, .int .u8 t, .int .u8 f, .string s, .int .u8 r] 45))) := ⟨sd_of hbx⟩
  have HT := Hid3.mk (h.low hX)
  have HX := Hid3.mk hX
  have hEl : q.E.length ≤ 1000 := hl
  have hBB : B ≤ (w.alloc (.cells #[.int .i64 3, .int .i64 n, .int .u8 e, .int .u8 t, .int .u8 f, .string s, .int .u8 r] 45)).heap.size := Nat.le_trans hB hX.size
  have cT := free_any B b fb 8 v q e f (w.alloc (.cells #[.int .i64 3, .int .i64 n, .int .u8 e, .int .u8 t, .int .u8 f, .string s, .int .u8 r] 45)) HT.out.p hf hEl hBB
  have HRr : Hid3 (∀ W (hV : Rl B W rb rv q) (hW : B ≤ W.heap.size), _) := ⟨fun W hV hW => rfree_any B rb rv q e f hf W hV hEl hW⟩
  obtain ⟨x1, x2, x3, x4, x5, x6⟩ := hSa.out
  generalize frQ 8 q e f = q' at *
  generalize hadE 8 q e f = z at *
  generalize frB 8 q e f = z2 at *
  have hzz : (z == z) = true := by simp
  have hz2 : (z2 == z2) = true := by simp
  clear h hX hbx hX0
  go_enter Tryd.func26, Tryd.ntmps26
  go_wp2_with fail
  refine cT.mono ?_
  rintro r1 W1 ⟨rfl, hs1⟩
  obtain ⟨y1, y2, y3, y4, y5, y6⟩ := hSa.out.stay hs1.ap hXP
  have HS1 := Hid3.mk hs1
  have cR1 := HRr.out W1 (HT.out.half hs1) (Nat.le_trans hBB hs1.ap.size)
  clear hs1 cT x1 x2 x3 x4 x5 x6
  go_wp2_with fail
  refine cR1.mono ?_
  rintro r1 W2 ⟨rfl, hs2⟩
  have HM : Hid3 (Mv B w W2 b fb v rb rv q') := ⟨(Mv.mk' HT.out HS1.out hs2).pre HX.out⟩
  clear hs2 cR1
  go_wp2
  go_ret
  exact ⟨rfl, HM.out⟩
set_option maxHeartbeats 4000000 in
theorem do_4s (B b fb : Nat) (v : Value) (rb : Nat) (rv : Value) (q : Ps) (n : Int) (e t f : Nat) (s : ByteArray) (r : Nat) (hf : f ≤ 255) (hs : ¬ 300 < s.size) (w : World) (h : Tw B w b fb v rb rv q) (hl : q.E.length ≤ 1000) (hB : B ≤ w.heap.size) (hNT : ∀ W, Below B w W → NTabs W) : Calls Tryd.prog 26 #[.pointer (some ⟨b, 0, none⟩), .pointer (some ⟨rb, 0, none⟩), .agg #[.int .i64 4, .int .i64 n, .int .u8 e, .int .u8 t, .int .u8 f, .string s, .int .u8 r]] w fun r9 w' => r9 = .returned (.bool true) ∧ Mv B w w' b fb v rb rv (rpQ 8 q e f) := by
  have hbl := h.p.c.lt
  have hfl := h.p.f.lt
  have hrl := h.r.c.l
  have hol : ∀ i, v.ownBlock = some i → i < w.heap.size := fun i e => own_lt h.p.e e
  have hXP : ¬ XP b fb v w.heap.size := by
    rintro (e | e | e)
    · omega
    · omega
    · have := hol _ e; omega
  have hXR : ¬ (fun i => i = rb) w.heap.size := fun e => by have e' : w.heap.size = rb := e; omega
  have hcut : cut3 s = s := by unfold cut3; rw [if_neg hs]
  have hsz : ¬ (300 : Int) < (s.size : Int) := by omega
  have hbx := heap_alloc_new w (.cells #[.int .i64 4, .int .i64 n, .int .u8 e, .int .u8 t, .int .u8 f, .string s, .int .u8 r] 45)
  have hX0 : Below w.heap.size w (w.alloc (.cells #[.int .i64 4, .int .i64 n, .int .u8 e, .int .u8 t, .int .u8 f, .string s, .int .u8 r] 45)) := below_new w _
  have hX : Below w.heap.size w (w.alloc (.cells #[.int .i64 4, .int .i64 n, .int .u8 e, .int .u8 t, .int .u8 f, .string s, .int .u8 r] 45)) := hX0
  have hSa : Hid3 (SD w.heap.size n e t f (s) r (w.alloc (.cells #[.int .i64 4, .int .i64 n, .int .u8 e, .int .u8 t, .int .u8 f, .string s, .int .u8 r] 45))) := ⟨sd_of hbx⟩
  have HT := Hid3.mk (h.low hX)
  have HX := Hid3.mk hX
  have hEl : q.E.length ≤ 1000 := hl
  have hBB : B ≤ (w.alloc (.cells #[.int .i64 4, .int .i64 n, .int .u8 e, .int .u8 t, .int .u8 f, .string s, .int .u8 r] 45)).heap.size := Nat.le_trans hB hX.size
  have cT := repo_any B b fb 8 v q e f (w.alloc (.cells #[.int .i64 4, .int .i64 n, .int .u8 e, .int .u8 t, .int .u8 f, .string s, .int .u8 r] 45)) HT.out.p hf hEl hBB
  have HRr : Hid3 (∀ W (hV : Rl B W rb rv q) (hW : B ≤ W.heap.size), _) := ⟨fun W hV hW => rrepo_any B rb rv q e f hf W hV hEl hW⟩
  obtain ⟨x1, x2, x3, x4, x5, x6⟩ := hSa.out
  generalize rpQ 8 q e f = q' at *
  generalize rpE 8 q e f = z at *
  generalize rpB 8 q e f = z2 at *
  have hzz : (z == z) = true := by simp
  have hz2 : (z2 == z2) = true := by simp
  clear h hX hbx hX0
  go_enter Tryd.func26, Tryd.ntmps26
  go_wp2_with fail
  refine cT.mono ?_
  rintro r1 W1 ⟨rfl, hs1⟩
  obtain ⟨y1, y2, y3, y4, y5, y6⟩ := hSa.out.stay hs1.ap hXP
  have HS1 := Hid3.mk hs1
  have cR1 := HRr.out W1 (HT.out.half hs1) (Nat.le_trans hBB hs1.ap.size)
  clear hs1 cT x1 x2 x3 x4 x5 x6
  go_wp2_with fail
  refine cR1.mono ?_
  rintro r1 W2 ⟨rfl, hs2⟩
  have HM : Hid3 (Mv B w W2 b fb v rb rv q') := ⟨(Mv.mk' HT.out HS1.out hs2).pre HX.out⟩
  clear hs2 cR1
  go_wp2
  go_ret
  exact ⟨rfl, HM.out⟩
set_option maxHeartbeats 4000000 in
theorem do_es (B b fb : Nat) (v : Value) (rb : Nat) (rv : Value) (q : Ps) (k n : Int) (h0 : k ≠ 0) (h1 : k ≠ 1) (h2 : k ≠ 2) (h3 : k ≠ 3) (h4 : k ≠ 4) (e t f : Nat) (s : ByteArray) (r : Nat) (hf : f ≤ 255) (hs : ¬ 300 < s.size) (w : World) (h : Tw B w b fb v rb rv q) (hl : q.E.length ≤ 1000) (hB : B ≤ w.heap.size) (hNT : ∀ W, Below B w W → NTabs W) : Calls Tryd.prog 26 #[.pointer (some ⟨b, 0, none⟩), .pointer (some ⟨rb, 0, none⟩), .agg #[.int .i64 k, .int .i64 n, .int .u8 e, .int .u8 t, .int .u8 f, .string s, .int .u8 r]] w fun r9 w' => r9 = .returned (.bool true) ∧ Mv B w w' b fb v rb rv (q) := by
  have hbl := h.p.c.lt
  have hfl := h.p.f.lt
  have hrl := h.r.c.l
  have hol : ∀ i, v.ownBlock = some i → i < w.heap.size := fun i e => own_lt h.p.e e
  have hXP : ¬ XP b fb v w.heap.size := by
    rintro (e | e | e)
    · omega
    · omega
    · have := hol _ e; omega
  have hXR : ¬ (fun i => i = rb) w.heap.size := fun e => by have e' : w.heap.size = rb := e; omega
  have hcut : cut3 s = s := by unfold cut3; rw [if_neg hs]
  have hsz : ¬ (300 : Int) < (s.size : Int) := by omega
  have hbx := heap_alloc_new w (.cells #[.int .i64 k, .int .i64 n, .int .u8 e, .int .u8 t, .int .u8 f, .string s, .int .u8 r] 45)
  have hX0 : Below w.heap.size w (w.alloc (.cells #[.int .i64 k, .int .i64 n, .int .u8 e, .int .u8 t, .int .u8 f, .string s, .int .u8 r] 45)) := below_new w _
  have hX : Below w.heap.size w (w.alloc (.cells #[.int .i64 k, .int .i64 n, .int .u8 e, .int .u8 t, .int .u8 f, .string s, .int .u8 r] 45)) := hX0
  have hSa : Hid3 (SD w.heap.size n e t f (s) r (w.alloc (.cells #[.int .i64 k, .int .i64 n, .int .u8 e, .int .u8 t, .int .u8 f, .string s, .int .u8 r] 45))) := ⟨sd_of hbx⟩
  have HT := Hid3.mk (h.low hX)
  have HX := Hid3.mk hX
  have hEl : q.E.length ≤ 1000 := hl
  have hBB : B ≤ (w.alloc (.cells #[.int .i64 k, .int .i64 n, .int .u8 e, .int .u8 t, .int .u8 f, .string s, .int .u8 r] 45)).heap.size := Nat.le_trans hB hX.size
  have HM := Hid3.mk (Mv.same h hX)
  have e0 : (k == 0) = false := by simpa using h0
  have e1 : (k == 1) = false := by simpa using h1
  have e2 : (k == 2) = false := by simpa using h2
  have e3 : (k == 3) = false := by simpa using h3
  have e4 : (k == 4) = false := by simpa using h4
  clear h hX hbx hX0
  go_enter Tryd.func26, Tryd.ntmps26
  go_wp2
  go_ret
  exact ⟨rfl, HM.out⟩
set_option maxHeartbeats 4000000 in
theorem do_0l (B b fb : Nat) (v : Value) (rb : Nat) (rv : Value) (q : Ps) (n : Int) (e t f : Nat) (s : ByteArray) (r : Nat) (hf : f ≤ 255) (hs : 300 < s.size) (w : World) (h : Tw B w b fb v rb rv q) (hl : q.E.length ≤ 1000) (hB : B ≤ w.heap.size) (hNT : ∀ W, Below B w W → NTabs W) : Calls Tryd.prog 26 #[.pointer (some ⟨b, 0, none⟩), .pointer (some ⟨rb, 0, none⟩), .agg #[.int .i64 0, .int .i64 n, .int .u8 e, .int .u8 t, .int .u8 f, .string s, .int .u8 r]] w fun r9 w' => r9 = .returned (.bool true) ∧ Mv B w w' b fb v rb rv (qtQ q e n) := by
  have hbl := h.p.c.lt
  have hfl := h.p.f.lt
  have hrl := h.r.c.l
  have hol : ∀ i, v.ownBlock = some i → i < w.heap.size := fun i e => own_lt h.p.e e
  have hXP : ¬ XP b fb v w.heap.size := by
    rintro (e | e | e)
    · omega
    · omega
    · have := hol _ e; omega
  have hXR : ¬ (fun i => i = rb) w.heap.size := fun e => by have e' : w.heap.size = rb := e; omega
  have hcut : cut3 s = s.extract 0 300 := by unfold cut3; rw [if_pos hs]
  have hsz : (300 : Int) < (s.size : Int) := by omega
  have hbx := heap_alloc_new w (.cells #[.int .i64 0, .int .i64 n, .int .u8 e, .int .u8 t, .int .u8 f, .string (s.extract 0 300), .int .u8 r] 45)
  have hX0 : Below w.heap.size w (w.alloc (.cells #[.int .i64 0, .int .i64 n, .int .u8 e, .int .u8 t, .int .u8 f, .string (s.extract 0 300), .int .u8 r] 45)) := below_new w _
  have hX : Below w.heap.size w (w.alloc (.cells #[.int .i64 0, .int .i64 n, .int .u8 e, .int .u8 t, .int .u8 f, .string (s.extract 0 300), .int .u8 r] 45)).drew := below_drew hX0
  have hSa : Hid3 (SD w.heap.size n e t f (s.extract 0 300) r (w.alloc (.cells #[.int .i64 0, .int .i64 n, .int .u8 e, .int .u8 t, .int .u8 f, .string (s.extract 0 300), .int .u8 r] 45)).drew) := ⟨sd_of hbx⟩
  have HT := Hid3.mk (h.low hX)
  have HX := Hid3.mk hX
  have hEl : q.E.length ≤ 1000 := hl
  have hBB : B ≤ (w.alloc (.cells #[.int .i64 0, .int .i64 n, .int .u8 e, .int .u8 t, .int .u8 f, .string (s.extract 0 300), .int .u8 r] 45)).drew.heap.size := Nat.le_trans hB hX.size
  have cT := fun W (hV : Pl B W b fb 8 v q) (hW : B ≤ W.heap.size) => quota_any B b fb 8 v q e n W hV
  have cRr := fun W (hV : Rl B W rb rv q) (hW : B ≤ W.heap.size) (hN : NTabs W) => rquota_any B rb rv q e n W hV
  have HNT := Hid3.mk hNT
  have HXB := Hid3.mk (hX.mono hB)
  clear hNT
  generalize qtQ q e n = q' at *
  generalize qtE e n = z at *
  have hzz : (z == z) = true := by simp
  clear h hX hbx hX0
  go_enter Tryd.func26, Tryd.ntmps26
  go_wp2_with fail
  go_region_held3 (fun w' => w'.cell? ⟨w.heap.size, 1, none⟩ = some (.int .i64 n) ∧ w'.cell? ⟨w.heap.size, 2, none⟩ = some (.int .u8 e) ∧ w'.cell? ⟨w.heap.size, 3, none⟩ = some (.int .u8 t) ∧ w'.cell? ⟨w.heap.size, 4, none⟩ = some (.int .u8 f) ∧ w'.cell? ⟨w.heap.size, 5, none⟩ = some (.string (s.extract 0 300)) ∧ w'.cell? ⟨w.heap.size, 6, none⟩ = some (.int .u8 r)) (with_reducible (first | exact hSa.out | exact hSb.out | exact hSc.out)) ((first
    | (go_at_call 15; refine (cT _ HT.out.p hBB).mono ?_; rintro r1 W1 ⟨rfl, hs1⟩; have hSb : Hid3 (SD w.heap.size n e t f (s.extract 0 300) r W1) := ⟨hSa.out.stay hs1.ap hXP⟩; have HS1 := Hid3.mk hs1; have HR1 : Hid3 (Rl B W1 rb rv q) := ⟨HT.out.half hs1⟩; have HN1 : Hid3 (NTabs W1) := ⟨HNT.out W1 (HXB.out.trans (hs1.ap.below B (XP_ge HT.out.p) hBB))⟩; have hB1 := Nat.le_trans hBB hs1.ap.size; clear hs1)
    | (go_at_call 54; refine (cRr _ HR1.out hB1 HN1.out).mono ?_; rintro r1 W2 ⟨rfl, hs2⟩; have hSc : Hid3 (SD w.heap.size n e t f (s.extract 0 300) r W2) := ⟨hSb.out.stay hs2.ap hXR⟩; have HM : Hid3 (Mv B w W2 b fb v rb rv q') := ⟨(Mv.mk' HT.out HS1.out hs2).pre HX.out⟩; clear hs2)))
  all_goals (
    go_wp2
    go_ret
    exact ⟨rfl, HM.out⟩)
set_option maxHeartbeats 4000000 in
theorem do_1l (B b fb : Nat) (v : Value) (rb : Nat) (rv : Value) (q : Ps) (n : Int) (e t f : Nat) (s : ByteArray) (r : Nat) (hf : f ≤ 255) (hs : 300 < s.size) (w : World) (h : Tw B w b fb v rb rv q) (hl : q.E.length ≤ 1000) (hB : B ≤ w.heap.size) (hNT : ∀ W, Below B w W → NTabs W) : Calls Tryd.prog 26 #[.pointer (some ⟨b, 0, none⟩), .pointer (some ⟨rb, 0, none⟩), .agg #[.int .i64 1, .int .i64 n, .int .u8 e, .int .u8 t, .int .u8 f, .string s, .int .u8 r]] w fun r9 w' => r9 = .returned (.bool true) ∧ Mv B w w' b fb v rb rv (grQ 8 q e f ((s.extract 0 300), (r : Int))) := by
  have hbl := h.p.c.lt
  have hfl := h.p.f.lt
  have hrl := h.r.c.l
  have hol : ∀ i, v.ownBlock = some i → i < w.heap.size := fun i e => own_lt h.p.e e
  have hXP : ¬ XP b fb v w.heap.size := by
    rintro (e | e | e)
    · omega
    · omega
    · have := hol _ e; omega
  have hXR : ¬ (fun i => i = rb) w.heap.size := fun e => by have e' : w.heap.size = rb := e; omega
  have hcut : cut3 s = s.extract 0 300 := by unfold cut3; rw [if_pos hs]
  have hsz : (300 : Int) < (s.size : Int) := by omega
  have hbx := heap_alloc_new w (.cells #[.int .i64 1, .int .i64 n, .int .u8 e, .int .u8 t, .int .u8 f, .string (s.extract 0 300), .int .u8 r] 45)
  have hX0 : Below w.heap.size w (w.alloc (.cells #[.int .i64 1, .int .i64 n, .int .u8 e, .int .u8 t, .int .u8 f, .string (s.extract 0 300), .int .u8 r] 45)) := below_new w _
  have hX : Below w.heap.size w (w.alloc (.cells #[.int .i64 1, .int .i64 n, .int .u8 e, .int .u8 t, .int .u8 f, .string (s.extract 0 300), .int .u8 r] 45)).drew := below_drew hX0
  have hSa : Hid3 (SD w.heap.size n e t f (s.extract 0 300) r (w.alloc (.cells #[.int .i64 1, .int .i64 n, .int .u8 e, .int .u8 t, .int .u8 f, .string (s.extract 0 300), .int .u8 r] 45)).drew) := ⟨sd_of hbx⟩
  have HT := Hid3.mk (h.low hX)
  have HX := Hid3.mk hX
  have hEl : q.E.length ≤ 1000 := hl
  have hBB : B ≤ (w.alloc (.cells #[.int .i64 1, .int .i64 n, .int .u8 e, .int .u8 t, .int .u8 f, .string (s.extract 0 300), .int .u8 r] 45)).drew.heap.size := Nat.le_trans hB hX.size
  have cT := fun W (hV : Pl B W b fb 8 v q) (hW : B ≤ W.heap.size) => grant_any B b fb 8 v q e f ((s.extract 0 300), (r : Int)) W hV hf (by first | (have := cut3_le s; rw [hcut] at this; exact this)) hEl hW
  have cRr := fun W (hV : Rl B W rb rv q) (hW : B ≤ W.heap.size) (hN : NTabs W) => rgrant_any B rb rv q e f ((s.extract 0 300), (r : Int)) hf W hV hEl hW (fun W2 hW2 => rright_any (s.extract 0 300) r W2 (by have := cut3_le s; rw [hcut] at this; exact this) (hN.later hW2))
  have HNT := Hid3.mk hNT
  have HXB := Hid3.mk (hX.mono hB)
  clear hNT
  generalize grQ 8 q e f ((s.extract 0 300), (r : Int)) = q' at *
  generalize grE 8 q e f ((s.extract 0 300), (r : Int)) = z at *
  have hzz : (z == z) = true := by simp
  clear h hX hbx hX0
  go_enter Tryd.func26, Tryd.ntmps26
  go_wp2_with fail
  go_region_held3 (fun w' => w'.cell? ⟨w.heap.size, 1, none⟩ = some (.int .i64 n) ∧ w'.cell? ⟨w.heap.size, 2, none⟩ = some (.int .u8 e) ∧ w'.cell? ⟨w.heap.size, 3, none⟩ = some (.int .u8 t) ∧ w'.cell? ⟨w.heap.size, 4, none⟩ = some (.int .u8 f) ∧ w'.cell? ⟨w.heap.size, 5, none⟩ = some (.string (s.extract 0 300)) ∧ w'.cell? ⟨w.heap.size, 6, none⟩ = some (.int .u8 r)) (with_reducible (first | exact hSa.out | exact hSb.out | exact hSc.out)) ((first
    | (go_at_call 16; refine (cT _ HT.out.p hBB).mono ?_; rintro r1 W1 ⟨rfl, hs1⟩; have hSb : Hid3 (SD w.heap.size n e t f (s.extract 0 300) r W1) := ⟨hSa.out.stay hs1.ap hXP⟩; have HS1 := Hid3.mk hs1; have HR1 : Hid3 (Rl B W1 rb rv q) := ⟨HT.out.half hs1⟩; have HN1 : Hid3 (NTabs W1) := ⟨HNT.out W1 (HXB.out.trans (hs1.ap.below B (XP_ge HT.out.p) hBB))⟩; have hB1 := Nat.le_trans hBB hs1.ap.size; clear hs1)
    | (go_at_call 55; refine (cRr _ HR1.out hB1 HN1.out).mono ?_; rintro r1 W2 ⟨rfl, hs2⟩; have hSc : Hid3 (SD w.heap.size n e t f (s.extract 0 300) r W2) := ⟨hSb.out.stay hs2.ap hXR⟩; have HM : Hid3 (Mv B w W2 b fb v rb rv q') := ⟨(Mv.mk' HT.out HS1.out hs2).pre HX.out⟩; clear hs2)))
  all_goals (
    go_wp2
    go_ret
    exact ⟨rfl, HM.out⟩)
set_option maxHeartbeats 4000000 in
theorem do_2l (B b fb : Nat) (v : Value) (rb : Nat) (rv : Value) (q : Ps) (n : Int) (e t f : Nat) (s : ByteArray) (r : Nat) (hf : f ≤ 255) (hs : 300 < s.size) (w : World) (h : Tw B w b fb v rb rv q) (hl : q.E.length ≤ 1000) (hB : B ≤ w.heap.size) (hNT : ∀ W, Below B w W → NTabs W) : Calls Tryd.prog 26 #[.pointer (some ⟨b, 0, none⟩), .pointer (some ⟨rb, 0, none⟩), .agg #[.int .i64 2, .int .i64 n, .int .u8 e, .int .u8 t, .int .u8 f, .string s, .int .u8 r]] w fun r9 w' => r9 = .returned (.bool true) ∧ Mv B w w' b fb v rb rv (shQ 8 q e t f) := by
  have hbl := h.p.c.lt
  have hfl := h.p.f.lt
  have hrl := h.r.c.l
  have hol : ∀ i, v.ownBlock = some i → i < w.heap.size := fun i e => own_lt h.p.e e
  have hXP : ¬ XP b fb v w.heap.size := by
    rintro (e | e | e)
    · omega
    · omega
    · have := hol _ e; omega
  have hXR : ¬ (fun i => i = rb) w.heap.size := fun e => by have e' : w.heap.size = rb := e; omega
  have hcut : cut3 s = s.extract 0 300 := by unfold cut3; rw [if_pos hs]
  have hsz : (300 : Int) < (s.size : Int) := by omega
  have hbx := heap_alloc_new w (.cells #[.int .i64 2, .int .i64 n, .int .u8 e, .int .u8 t, .int .u8 f, .string (s.extract 0 300), .int .u8 r] 45)
  have hX0 : Below w.heap.size w (w.alloc (.cells #[.int .i64 2, .int .i64 n, .int .u8 e, .int .u8 t, .int .u8 f, .string (s.extract 0 300), .int .u8 r] 45)) := below_new w _
  have hX : Below w.heap.size w (w.alloc (.cells #[.int .i64 2, .int .i64 n, .int .u8 e, .int .u8 t, .int .u8 f, .string (s.extract 0 300), .int .u8 r] 45)).drew := below_drew hX0
  have hSa : Hid3 (SD w.heap.size n e t f (s.extract 0 300) r (w.alloc (.cells #[.int .i64 2, .int .i64 n, .int .u8 e, .int .u8 t, .int .u8 f, .string (s.extract 0 300), .int .u8 r] 45)).drew) := ⟨sd_of hbx⟩
  have HT := Hid3.mk (h.low hX)
  have HX := Hid3.mk hX
  have hEl : q.E.length ≤ 1000 := hl
  have hBB : B ≤ (w.alloc (.cells #[.int .i64 2, .int .i64 n, .int .u8 e, .int .u8 t, .int .u8 f, .string (s.extract 0 300), .int .u8 r] 45)).drew.heap.size := Nat.le_trans hB hX.size
  have cT := fun W (hV : Pl B W b fb 8 v q) (hW : B ≤ W.heap.size) => share_any B b fb 8 v q e t f W hV hf hEl hW
  have cRr := fun W (hV : Rl B W rb rv q) (hW : B ≤ W.heap.size) (hN : NTabs W) => rshare_any B rb rv q e t f hf W hV hEl hW
  have HNT := Hid3.mk hNT
  have HXB := Hid3.mk (hX.mono hB)
  clear hNT
  generalize shQ 8 q e t f = q' at *
  generalize shE 8 q e t f = z at *
  have hzz : (z == z) = true := by simp
  clear h hX hbx hX0
  go_enter Tryd.func26, Tryd.ntmps26
  go_wp2_with fail
  go_region_held3 (fun w' => w'.cell? ⟨w.heap.size, 1, none⟩ = some (.int .i64 n) ∧ w'.cell? ⟨w.heap.size, 2, none⟩ = some (.int .u8 e) ∧ w'.cell? ⟨w.heap.size, 3, none⟩ = some (.int .u8 t) ∧ w'.cell? ⟨w.heap.size, 4, none⟩ = some (.int .u8 f) ∧ w'.cell? ⟨w.heap.size, 5, none⟩ = some (.string (s.extract 0 300)) ∧ w'.cell? ⟨w.heap.size, 6, none⟩ = some (.int .u8 r)) (with_reducible (first | exact hSa.out | exact hSb.out | exact hSc.out)) ((first
    | (go_at_call 17; refine (cT _ HT.out.p hBB).mono ?_; rintro r1 W1 ⟨rfl, hs1⟩; have hSb : Hid3 (SD w.heap.size n e t f (s.extract 0 300) r W1) := ⟨hSa.out.stay hs1.ap hXP⟩; have HS1 := Hid3.mk hs1; have HR1 : Hid3 (Rl B W1 rb rv q) := ⟨HT.out.half hs1⟩; have HN1 : Hid3 (NTabs W1) := ⟨HNT.out W1 (HXB.out.trans (hs1.ap.below B (XP_ge HT.out.p) hBB))⟩; have hB1 := Nat.le_trans hBB hs1.ap.size; clear hs1)
    | (go_at_call 56; refine (cRr _ HR1.out hB1 HN1.out).mono ?_; rintro r1 W2 ⟨rfl, hs2⟩; have hSc : Hid3 (SD w.heap.size n e t f (s.extract 0 300) r W2) := ⟨hSb.out.stay hs2.ap hXR⟩; have HM : Hid3 (Mv B w W2 b fb v rb rv q') := ⟨(Mv.mk' HT.out HS1.out hs2).pre HX.out⟩; clear hs2)))
  all_goals (
    go_wp2
    go_ret
    exact ⟨rfl, HM.out⟩)
set_option maxHeartbeats 4000000 in
theorem do_3l (B b fb : Nat) (v : Value) (rb : Nat) (rv : Value) (q : Ps) (n : Int) (e t f : Nat) (s : ByteArray) (r : Nat) (hf : f ≤ 255) (hs : 300 < s.size) (w : World) (h : Tw B w b fb v rb rv q) (hl : q.E.length ≤ 1000) (hB : B ≤ w.heap.size) (hNT : ∀ W, Below B w W → NTabs W) : Calls Tryd.prog 26 #[.pointer (some ⟨b, 0, none⟩), .pointer (some ⟨rb, 0, none⟩), .agg #[.int .i64 3, .int .i64 n, .int .u8 e, .int .u8 t, .int .u8 f, .string s, .int .u8 r]] w fun r9 w' => r9 = .returned (.bool true) ∧ Mv B w w' b fb v rb rv (frQ 8 q e f) := by
  have hbl := h.p.c.lt
  have hfl := h.p.f.lt
  have hrl := h.r.c.l
  have hol : ∀ i, v.ownBlock = some i → i < w.heap.size := fun i e => own_lt h.p.e e
  have hXP : ¬ XP b fb v w.heap.size := by
    rintro (e | e | e)
    · omega
    · omega
    · have := hol _ e; omega
  have hXR : ¬ (fun i => i = rb) w.heap.size := fun e => by have e' : w.heap.size = rb := e; omega
  have hcut : cut3 s = s.extract 0 300 := by unfold cut3; rw [if_pos hs]
  have hsz : (300 : Int) < (s.size : Int) := by omega
  have hbx := heap_alloc_new w (.cells #[.int .i64 3, .int .i64 n, .int .u8 e, .int .u8 t, .int .u8 f, .string (s.extract 0 300), .int .u8 r] 45)
  have hX0 : Below w.heap.size w (w.alloc (.cells #[.int .i64 3, .int .i64 n, .int .u8 e, .int .u8 t, .int .u8 f, .string (s.extract 0 300), .int .u8 r] 45)) := below_new w _
  have hX : Below w.heap.size w (w.alloc (.cells #[.int .i64 3, .int .i64 n, .int .u8 e, .int .u8 t, .int .u8 f, .string (s.extract 0 300), .int .u8 r] 45)) := hX0
  have hSa : Hid3 (SD w.heap.size n e t f (s.extract 0 300) r (w.alloc (.cells #[.int .i64 3, .int .i64 n, .int .u8 e, .int .u8 t, .int .u8 f, .string (s.extract 0 300), .int .u8 r] 45))) := ⟨sd_of hbx⟩
  have HT := Hid3.mk (h.low hX)
  have HX := Hid3.mk hX
  have hEl : q.E.length ≤ 1000 := hl
  have hBB : B ≤ (w.alloc (.cells #[.int .i64 3, .int .i64 n, .int .u8 e, .int .u8 t, .int .u8 f, .string (s.extract 0 300), .int .u8 r] 45)).heap.size := Nat.le_trans hB hX.size
  have cT := free_any B b fb 8 v q e f (w.alloc (.cells #[.int .i64 3, .int .i64 n, .int .u8 e, .int .u8 t, .int .u8 f, .string (s.extract 0 300), .int .u8 r] 45)) HT.out.p hf hEl hBB
  have HRr : Hid3 (∀ W (hV : Rl B W rb rv q) (hW : B ≤ W.heap.size), _) := ⟨fun W hV hW => rfree_any B rb rv q e f hf W hV hEl hW⟩
  obtain ⟨x1, x2, x3, x4, x5, x6⟩ := hSa.out
  generalize frQ 8 q e f = q' at *
  generalize hadE 8 q e f = z at *
  generalize frB 8 q e f = z2 at *
  have hzz : (z == z) = true := by simp
  have hz2 : (z2 == z2) = true := by simp
  clear h hX hbx hX0
  go_enter Tryd.func26, Tryd.ntmps26
  go_wp2_with fail
  refine cT.mono ?_
  rintro r1 W1 ⟨rfl, hs1⟩
  obtain ⟨y1, y2, y3, y4, y5, y6⟩ := hSa.out.stay hs1.ap hXP
  have HS1 := Hid3.mk hs1
  have cR1 := HRr.out W1 (HT.out.half hs1) (Nat.le_trans hBB hs1.ap.size)
  clear hs1 cT x1 x2 x3 x4 x5 x6
  go_wp2_with fail
  refine cR1.mono ?_
  rintro r1 W2 ⟨rfl, hs2⟩
  have HM : Hid3 (Mv B w W2 b fb v rb rv q') := ⟨(Mv.mk' HT.out HS1.out hs2).pre HX.out⟩
  clear hs2 cR1
  go_wp2
  go_ret
  exact ⟨rfl, HM.out⟩
set_option maxHeartbeats 4000000 in
theorem do_4l (B b fb : Nat) (v : Value) (rb : Nat) (rv : Value) (q : Ps) (n : Int) (e t f : Nat) (s : ByteArray) (r : Nat) (hf : f ≤ 255) (hs : 300 < s.size) (w : World) (h : Tw B w b fb v rb rv q) (hl : q.E.length ≤ 1000) (hB : B ≤ w.heap.size) (hNT : ∀ W, Below B w W → NTabs W) : Calls Tryd.prog 26 #[.pointer (some ⟨b, 0, none⟩), .pointer (some ⟨rb, 0, none⟩), .agg #[.int .i64 4, .int .i64 n, .int .u8 e, .int .u8 t, .int .u8 f, .string s, .int .u8 r]] w fun r9 w' => r9 = .returned (.bool true) ∧ Mv B w w' b fb v rb rv (rpQ 8 q e f) := by
  have hbl := h.p.c.lt
  have hfl := h.p.f.lt
  have hrl := h.r.c.l
  have hol : ∀ i, v.ownBlock = some i → i < w.heap.size := fun i e => own_lt h.p.e e
  have hXP : ¬ XP b fb v w.heap.size := by
    rintro (e | e | e)
    · omega
    · omega
    · have := hol _ e; omega
  have hXR : ¬ (fun i => i = rb) w.heap.size := fun e => by have e' : w.heap.size = rb := e; omega
  have hcut : cut3 s = s.extract 0 300 := by unfold cut3; rw [if_pos hs]
  have hsz : (300 : Int) < (s.size : Int) := by omega
  have hbx := heap_alloc_new w (.cells #[.int .i64 4, .int .i64 n, .int .u8 e, .int .u8 t, .int .u8 f, .string (s.extract 0 300), .int .u8 r] 45)
  have hX0 : Below w.heap.size w (w.alloc (.cells #[.int .i64 4, .int .i64 n, .int .u8 e, .int .u8 t, .int .u8 f, .string (s.extract 0 300), .int .u8 r] 45)) := below_new w _
  have hX : Below w.heap.size w (w.alloc (.cells #[.int .i64 4, .int .i64 n, .int .u8 e, .int .u8 t, .int .u8 f, .string (s.extract 0 300), .int .u8 r] 45)) := hX0
  have hSa : Hid3 (SD w.heap.size n e t f (s.extract 0 300) r (w.alloc (.cells #[.int .i64 4, .int .i64 n, .int .u8 e, .int .u8 t, .int .u8 f, .string (s.extract 0 300), .int .u8 r] 45))) := ⟨sd_of hbx⟩
  have HT := Hid3.mk (h.low hX)
  have HX := Hid3.mk hX
  have hEl : q.E.length ≤ 1000 := hl
  have hBB : B ≤ (w.alloc (.cells #[.int .i64 4, .int .i64 n, .int .u8 e, .int .u8 t, .int .u8 f, .string (s.extract 0 300), .int .u8 r] 45)).heap.size := Nat.le_trans hB hX.size
  have cT := repo_any B b fb 8 v q e f (w.alloc (.cells #[.int .i64 4, .int .i64 n, .int .u8 e, .int .u8 t, .int .u8 f, .string (s.extract 0 300), .int .u8 r] 45)) HT.out.p hf hEl hBB
  have HRr : Hid3 (∀ W (hV : Rl B W rb rv q) (hW : B ≤ W.heap.size), _) := ⟨fun W hV hW => rrepo_any B rb rv q e f hf W hV hEl hW⟩
  obtain ⟨x1, x2, x3, x4, x5, x6⟩ := hSa.out
  generalize rpQ 8 q e f = q' at *
  generalize rpE 8 q e f = z at *
  generalize rpB 8 q e f = z2 at *
  have hzz : (z == z) = true := by simp
  have hz2 : (z2 == z2) = true := by simp
  clear h hX hbx hX0
  go_enter Tryd.func26, Tryd.ntmps26
  go_wp2_with fail
  refine cT.mono ?_
  rintro r1 W1 ⟨rfl, hs1⟩
  obtain ⟨y1, y2, y3, y4, y5, y6⟩ := hSa.out.stay hs1.ap hXP
  have HS1 := Hid3.mk hs1
  have cR1 := HRr.out W1 (HT.out.half hs1) (Nat.le_trans hBB hs1.ap.size)
  clear hs1 cT x1 x2 x3 x4 x5 x6
  go_wp2_with fail
  refine cR1.mono ?_
  rintro r1 W2 ⟨rfl, hs2⟩
  have HM : Hid3 (Mv B w W2 b fb v rb rv q') := ⟨(Mv.mk' HT.out HS1.out hs2).pre HX.out⟩
  clear hs2 cR1
  go_wp2
  go_ret
  exact ⟨rfl, HM.out⟩
set_option maxHeartbeats 4000000 in
theorem do_el (B b fb : Nat) (v : Value) (rb : Nat) (rv : Value) (q : Ps) (k n : Int) (h0 : k ≠ 0) (h1 : k ≠ 1) (h2 : k ≠ 2) (h3 : k ≠ 3) (h4 : k ≠ 4) (e t f : Nat) (s : ByteArray) (r : Nat) (hf : f ≤ 255) (hs : 300 < s.size) (w : World) (h : Tw B w b fb v rb rv q) (hl : q.E.length ≤ 1000) (hB : B ≤ w.heap.size) (hNT : ∀ W, Below B w W → NTabs W) : Calls Tryd.prog 26 #[.pointer (some ⟨b, 0, none⟩), .pointer (some ⟨rb, 0, none⟩), .agg #[.int .i64 k, .int .i64 n, .int .u8 e, .int .u8 t, .int .u8 f, .string s, .int .u8 r]] w fun r9 w' => r9 = .returned (.bool true) ∧ Mv B w w' b fb v rb rv (q) := by
  have hbl := h.p.c.lt
  have hfl := h.p.f.lt
  have hrl := h.r.c.l
  have hol : ∀ i, v.ownBlock = some i → i < w.heap.size := fun i e => own_lt h.p.e e
  have hXP : ¬ XP b fb v w.heap.size := by
    rintro (e | e | e)
    · omega
    · omega
    · have := hol _ e; omega
  have hXR : ¬ (fun i => i = rb) w.heap.size := fun e => by have e' : w.heap.size = rb := e; omega
  have hcut : cut3 s = s.extract 0 300 := by unfold cut3; rw [if_pos hs]
  have hsz : (300 : Int) < (s.size : Int) := by omega
  have hbx := heap_alloc_new w (.cells #[.int .i64 k, .int .i64 n, .int .u8 e, .int .u8 t, .int .u8 f, .string (s.extract 0 300), .int .u8 r] 45)
  have hX0 : Below w.heap.size w (w.alloc (.cells #[.int .i64 k, .int .i64 n, .int .u8 e, .int .u8 t, .int .u8 f, .string (s.extract 0 300), .int .u8 r] 45)) := below_new w _
  have hX : Below w.heap.size w (w.alloc (.cells #[.int .i64 k, .int .i64 n, .int .u8 e, .int .u8 t, .int .u8 f, .string (s.extract 0 300), .int .u8 r] 45)) := hX0
  have hSa : Hid3 (SD w.heap.size n e t f (s.extract 0 300) r (w.alloc (.cells #[.int .i64 k, .int .i64 n, .int .u8 e, .int .u8 t, .int .u8 f, .string (s.extract 0 300), .int .u8 r] 45))) := ⟨sd_of hbx⟩
  have HT := Hid3.mk (h.low hX)
  have HX := Hid3.mk hX
  have hEl : q.E.length ≤ 1000 := hl
  have hBB : B ≤ (w.alloc (.cells #[.int .i64 k, .int .i64 n, .int .u8 e, .int .u8 t, .int .u8 f, .string (s.extract 0 300), .int .u8 r] 45)).heap.size := Nat.le_trans hB hX.size
  have HM := Hid3.mk (Mv.same h hX)
  have e0 : (k == 0) = false := by simpa using h0
  have e1 : (k == 1) = false := by simpa using h1
  have e2 : (k == 2) = false := by simpa using h2
  have e3 : (k == 3) = false := by simpa using h3
  have e4 : (k == 4) = false := by simpa using h4
  clear h hX hbx hX0
  go_enter Tryd.func26, Tryd.ntmps26
  go_wp2
  go_ret
  exact ⟨rfl, HM.out⟩
end Go.Proofs.YtalhlbhhgddddaaDoor
