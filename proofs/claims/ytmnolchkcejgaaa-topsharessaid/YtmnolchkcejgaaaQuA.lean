/- Slices of time as plain data; a vector in memory, the program's and the document's. -/
import Derived.Test.YtmnolchkcejgaaaRows
import Derived.WalkKit
import Derived.WalkSpells
import Derived.WalkLawsBesides
import Derived.Handy
import Derived.Deep.QuietTactic
import Derived.BigQuiet
import Derived.Deep.RegionHeld3
import Derived.Maps.AppendAt
import Derived.Laws.AppendOwnNone
import Derived.Laws.StructEq
import Derived.Lib.SliceRun
import Derived.Lib.Builder
import Derived.Carry
import Derived.Shelf.Abstract
namespace Go.Proofs.Ytmnolchkcejgaaa
open Go.RowKit Go.Maps
set_option linter.unusedVariables false
set_option maxRecDepth 100000

/-- But for some blocks a world is as it was. -/
structure Apart (X : Nat → Prop) (w w' : World) : Prop where
  os : w'.os = w.os
  tape : w'.tape = w.tape
  output : w'.output = w.output
  size : w.heap.size ≤ w'.heap.size
  block : ∀ k, k < w.heap.size → ¬ X k → w'.heap[k]? = w.heap[k]?
theorem Apart.refl (X : Nat → Prop) (w : World) : Apart X w w := ⟨rfl, rfl, rfl, Nat.le_refl _, fun _ _ _ => rfl⟩
theorem Apart.trans {X : Nat → Prop} {a b c : World} (h : Apart X a b) (k : Apart X b c) : Apart X a c :=
  ⟨k.os.trans h.os, k.tape.trans h.tape, k.output.trans h.output, Nat.le_trans h.size k.size, fun i hi hx => (k.block i (Nat.lt_of_lt_of_le hi h.size) hx).trans (h.block i hi hx)⟩
theorem Apart.then {X Y : Nat → Prop} {a b c : World} (h : Apart X a b) (k : Apart Y b c) (hy : ∀ i, i < a.heap.size → Y i → X i) : Apart X a c :=
  ⟨k.os.trans h.os, k.tape.trans h.tape, k.output.trans h.output, Nat.le_trans h.size k.size, fun i hi hx => (k.block i (Nat.lt_of_lt_of_le hi h.size) (fun y => hx (hy i hi y))).trans (h.block i hi hx)⟩
theorem Apart.wide {X Y : Nat → Prop} {a b : World} (h : Apart X a b) (hy : ∀ i, i < a.heap.size → X i → Y i) : Apart Y a b :=
  ⟨h.os, h.tape, h.output, h.size, fun i hi hx => h.block i hi (fun y => hx (hy i hi y))⟩
theorem Apart.of_below {X : Nat → Prop} {a b : World} (h : Below a.heap.size a b) : Apart X a b := ⟨h.os, h.tape, h.output, h.size, fun k hk _ => h.block k hk⟩
theorem Apart.below {X : Nat → Prop} {a b : World} (h : Apart X a b) (B : Nat) (hx : ∀ k, X k → B ≤ k) (hB : B ≤ a.heap.size) : Below B a b :=
  ⟨h.os, h.tape, h.output, h.size, fun k hk => h.block k (by omega) (fun y => by have := hx k y; omega)⟩
theorem size_setCell (w : World) (p : Addr) (u : Value) : (w.setCell p u).heap.size = w.heap.size := by simp [World.setCell]
theorem Apart.set (w : World) (p : Addr) (u : Value) : Apart (fun k => k = p.block) w (w.setCell p u) :=
  ⟨rfl, rfl, rfl, by rw [size_setCell]; exact Nat.le_refl _, fun k hk hx => Below.heap_setCell w p u k hx⟩
theorem Apart.at {X : Nat → Prop} (w : World) (b j : Nat) (u : Value) (hx : X b) : Apart X w (w.setCell ⟨b, j, none⟩ u) := (Apart.set w ⟨b, j, none⟩ u).wide (fun i _ e => by rw [e]; exact hx)
theorem Apart.drew {X : Nat → Prop} {a b : World} (h : Apart X a b) : Apart X a b.drew := ⟨h.os, h.tape, h.output, h.size, h.block⟩

/-- A block of cells of a type. -/
def Cl (w : World) (b : Nat) (t : TypeId) (c : List Value) : Prop := w.heap[b]? = some (.cells c.toArray t (0, 0))
theorem Cl.lt {w : World} {b : Nat} {t : TypeId} {c : List Value} (h : Cl w b t c) : b < w.heap.size := (Array.getElem?_eq_some_iff.1 h).1
theorem Cl.cell {w : World} {b : Nat} {t : TypeId} {c : List Value} (h : Cl w b t c) (j : Nat) : w.cell? ⟨b, j, none⟩ = c[j]? := by
  rw [Lib.cell_of_heap h]; simp
theorem Cl.thaw {w : World} {b : Nat} {t : TypeId} {c : List Value} (h : Cl w b t c) (j : Nat) : w.frozen? ⟨b, j, none⟩ = false := Lib.frozen_of_heap h j
theorem Cl.stay {w w' : World} {b : Nat} {t : TypeId} {c : List Value} {X : Nat → Prop} (h : Cl w b t c) (k : Apart X w w') (hx : ¬ X b) : Cl w' b t c := (k.block b h.lt hx).trans h
theorem Cl.below {w w' : World} {b : Nat} {t : TypeId} {c : List Value} (h : Cl w b t c) (k : Below w.heap.size w w') : Cl w' b t c := (k.block b h.lt).trans h
theorem Cl.drew {w : World} {b : Nat} {t : TypeId} {c : List Value} (h : Cl w b t c) : Cl w.drew b t c := h
theorem Cl.alloc {w : World} {b : Nat} {t : TypeId} {c : List Value} (h : Cl w b t c) (o : Obj) : Cl (w.alloc o) b t c := (Lib.alloc_old w o b h.lt).trans h
theorem Cl.set {w : World} {b : Nat} {t : TypeId} {c : List Value} (h : Cl w b t c) (j : Nat) (v : Value) : Cl (w.setCell ⟨b, j, none⟩ v) b t (c.set j v) := by
  have h' : w.heap[b]? = some (.cells c.toArray t (0, 0)) := h
  simp [Cl, World.setCell, Array.getElem?_modify, h']
theorem Cl.other {w : World} {b d : Nat} {t : TypeId} {c : List Value} (h : Cl w b t c) (hne : b ≠ d) (j : Nat) (v : Value) : Cl (w.setCell ⟨d, j, none⟩ v) b t c := (Below.heap_setCell w ⟨d, j, none⟩ v b hne).trans h
theorem Cl.ne {w : World} {b d : Nat} {t u : TypeId} {c e : List Value} (h : Cl w b t c) (k : Cl w d u e) (ht : t ≠ u) : b ≠ d := by
  intro e
  subst e
  have := h.symm.trans k
  injection this with this
  injection this with _ this
  exact ht this
theorem Cl.new (w : World) (t : TypeId) (c : List Value) : Cl (w.alloc (.cells c.toArray t)) w.heap.size t c := heap_alloc_new w _

def upd {n : Nat} {α : Type} (f : Fin n → α) (k : Fin n) (v : α) : Fin n → α := fun i => if i = k then v else f i
theorem upd_same {n : Nat} {α : Type} (f : Fin n → α) (k : Fin n) (v : α) : upd f k v k = v := by simp [upd]
theorem upd_other {n : Nat} {α : Type} (f : Fin n → α) (k i : Fin n) (v : α) (h : i ≠ k) : upd f k v i = f i := by simp [upd, h]
/-- Whose each place is; penalties; whose turn it is. -/
structure Qs where
  pl : Fin 8 → Option (Fin 6)
  pen : Fin 6 → Nat
  now : Fin 8
def q0 : Qs := ⟨fun _ => none, fun _ => 0, 7⟩
def Qs.Ok (q : Qs) : Prop := ∀ e, q.pen e ≤ 1000
def envV : Option (Fin 6) → Int
  | none => 0
  | some e => e.1
def refV : Option (Fin 6) → Int
  | none => 0
  | some e => e.1 + 1
def holdV (o : Option (Fin 6)) : List Value := [.int .u8 (envV o), .bool o.isSome]
def plCs (pl : Fin 8 → Option (Fin 6)) : List Value := holdV (pl 0) ++ holdV (pl 1) ++ holdV (pl 2) ++ holdV (pl 3) ++ holdV (pl 4) ++ holdV (pl 5) ++ holdV (pl 6) ++ holdV (pl 7)
def penCs (pen : Fin 6 → Nat) : List Value := [.int .i64 (pen 0), .int .i64 (pen 1), .int .i64 (pen 2), .int .i64 (pen 3), .int .i64 (pen 4), .int .i64 (pen 5)]
def vCs (pb : Nat) (q : Qs) : List Value := .slice (some ⟨pb, 0, none⟩) 8 8 :: (penCs q.pen ++ [.int .i64 q.now.1])
def rplCs (pl : Fin 8 → Option (Fin 6)) : List Value := [.int .i64 (refV (pl 0)), .int .i64 (refV (pl 1)), .int .i64 (refV (pl 2)), .int .i64 (refV (pl 3)), .int .i64 (refV (pl 4)), .int .i64 (refV (pl 5)), .int .i64 (refV (pl 6)), .int .i64 (refV (pl 7))]
def rCs (q : Qs) : List Value := rplCs q.pl ++ (penCs q.pen ++ [.int .i64 q.now.1])
/-- What holds of each of eight, of each of six. -/
theorem all8 {P : Fin 8 → Prop} (h0 : P 0) (h1 : P 1) (h2 : P 2) (h3 : P 3) (h4 : P 4) (h5 : P 5) (h6 : P 6) (h7 : P 7) : ∀ k, P k
  | 0 => h0 | 1 => h1 | 2 => h2 | 3 => h3 | 4 => h4 | 5 => h5 | 6 => h6 | 7 => h7
theorem all6 {P : Fin 6 → Prop} (h0 : P 0) (h1 : P 1) (h2 : P 2) (h3 : P 3) (h4 : P 4) (h5 : P 5) : ∀ k, P k
  | 0 => h0 | 1 => h1 | 2 => h2 | 3 => h3 | 4 => h4 | 5 => h5
theorem plCs_at (pl : Fin 8 → Option (Fin 6)) : ∀ k : Fin 8, (plCs pl)[k.1 * 2]? = some (.int .u8 (envV (pl k))) ∧ (plCs pl)[k.1 * 2 + 1]? = some (.bool (pl k).isSome) :=
  all8 ⟨rfl, rfl⟩ ⟨rfl, rfl⟩ ⟨rfl, rfl⟩ ⟨rfl, rfl⟩ ⟨rfl, rfl⟩ ⟨rfl, rfl⟩ ⟨rfl, rfl⟩ ⟨rfl, rfl⟩
theorem plCs_set (pl : Fin 8 → Option (Fin 6)) (o : Option (Fin 6)) : ∀ k : Fin 8, ((plCs pl).set (k.1 * 2) (.int .u8 (envV o))).set (k.1 * 2 + 1) (.bool o.isSome) = plCs (upd pl k o) :=
  all8 rfl rfl rfl rfl rfl rfl rfl rfl
theorem penCs_at (pen : Fin 6 → Nat) (r : List Value) : ∀ e : Fin 6, (penCs pen ++ r)[e.1]? = some (.int .i64 (pen e)) := all6 rfl rfl rfl rfl rfl rfl
theorem penCs_set (pen : Fin 6 → Nat) (r : List Value) (v : Nat) : ∀ e : Fin 6, (penCs pen ++ r).set e.1 (Value.int .i64 v) = penCs (upd pen e v) ++ r := all6 rfl rfl rfl rfl rfl rfl
theorem vCs_pen (pb : Nat) (q : Qs) (e : Fin 6) : (vCs pb q)[1 + e.1]? = some (.int .i64 (q.pen e)) := by
  rw [Nat.add_comm]; exact penCs_at q.pen _ e
theorem vCs_pset (pb : Nat) (q : Qs) (e : Fin 6) (v : Nat) : (vCs pb q).set (1 + e.1) (.int .i64 v) = vCs pb { q with pen := upd q.pen e v } := by
  rw [Nat.add_comm]
  show _ :: (penCs q.pen ++ [Value.int .i64 q.now.1]).set e.1 _ = _
  rw [penCs_set]
  rfl
theorem rCs_pl (q : Qs) : ∀ k : Fin 8, (rCs q)[k.1]? = some (.int .i64 (refV (q.pl k))) := all8 rfl rfl rfl rfl rfl rfl rfl rfl
theorem rCs_plset (q : Qs) (o : Option (Fin 6)) : ∀ k : Fin 8, (rCs q).set k.1 (.int .i64 (refV o)) = rCs { q with pl := upd q.pl k o } := all8 rfl rfl rfl rfl rfl rfl rfl rfl
theorem rCs_pen (q : Qs) : ∀ e : Fin 6, (rCs q)[8 + e.1]? = some (.int .i64 (q.pen e)) := all6 rfl rfl rfl rfl rfl rfl
theorem rCs_pset (q : Qs) (v : Nat) : ∀ e : Fin 6, (rCs q).set (8 + e.1) (.int .i64 v) = rCs { q with pen := upd q.pen e v } := all6 rfl rfl rfl rfl rfl rfl

/-- The program's vector. -/
structure Vec (B : Nat) (w : World) (vb pb : Nat) (q : Qs) : Prop where
  gv : B ≤ vb
  gp : B ≤ pb
  v : Cl w vb 33 (vCs pb q)
  p : Cl w pb 35 (plCs q.pl)
/-- The document's. -/
structure Rv (B : Nat) (w : World) (rb : Nat) (q : Qs) : Prop where
  g : B ≤ rb
  r : Cl w rb 0 (rCs q)
theorem Vec.ne {B : Nat} {w : World} {vb pb : Nat} {q : Qs} (h : Vec B w vb pb q) : vb ≠ pb := h.v.ne h.p (by decide)
theorem Vec.below {B : Nat} {w w' : World} {vb pb : Nat} {q : Qs} (h : Vec B w vb pb q) (k : Below w.heap.size w w') : Vec B w' vb pb q := ⟨h.gv, h.gp, h.v.below k, h.p.below k⟩
theorem Rv.below {B : Nat} {w w' : World} {rb : Nat} {q : Qs} (h : Rv B w rb q) (k : Below w.heap.size w w') : Rv B w' rb q := ⟨h.g, h.r.below k⟩
theorem Vec.stay {B : Nat} {w w' : World} {vb pb : Nat} {q : Qs} {X : Nat → Prop} (h : Vec B w vb pb q) (k : Apart X w w') (h1 : ¬ X vb) (h2 : ¬ X pb) : Vec B w' vb pb q := ⟨h.gv, h.gp, h.v.stay k h1, h.p.stay k h2⟩
theorem Rv.stay {B : Nat} {w w' : World} {rb : Nat} {q : Qs} {X : Nat → Prop} (h : Rv B w rb q) (k : Apart X w w') (h1 : ¬ X rb) : Rv B w' rb q := ⟨h.g, h.r.stay k h1⟩
/-- A vector's cells. -/
structure VecC (w : World) (vb pb : Nat) (q : Qs) : Prop where
  c0 : w.cell? ⟨vb, 0, none⟩ = some (.slice (some ⟨pb, 0, none⟩) 8 8)
  cp : ∀ e : Fin 6, w.cell? ⟨vb, 1 + e.1, none⟩ = some (.int .i64 (q.pen e))
  cn : w.cell? ⟨vb, 7, none⟩ = some (.int .i64 q.now.1)
  h0 : ∀ k : Fin 8, w.cell? ⟨pb, k.1 * 2, none⟩ = some (.int .u8 (envV (q.pl k)))
  h1 : ∀ k : Fin 8, w.cell? ⟨pb, k.1 * 2 + 1, none⟩ = some (.bool (q.pl k).isSome)
  fv : ∀ j, w.frozen? ⟨vb, j, none⟩ = false
  fp : ∀ j, w.frozen? ⟨pb, j, none⟩ = false
  lv : vb < w.heap.size
  lp : pb < w.heap.size
theorem Vec.c {B : Nat} {w : World} {vb pb : Nat} {q : Qs} (h : Vec B w vb pb q) : VecC w vb pb q :=
  ⟨h.v.cell 0, fun e => (h.v.cell _).trans (vCs_pen pb q e), h.v.cell 7, fun k => (h.p.cell _).trans (plCs_at q.pl k).1, fun k => (h.p.cell _).trans (plCs_at q.pl k).2, h.v.thaw, h.p.thaw, h.v.lt, h.p.lt⟩
structure RvC (w : World) (rb : Nat) (q : Qs) : Prop where
  cl : ∀ k : Fin 8, w.cell? ⟨rb, k.1, none⟩ = some (.int .i64 (refV (q.pl k)))
  cp : ∀ e : Fin 6, w.cell? ⟨rb, 8 + e.1, none⟩ = some (.int .i64 (q.pen e))
  cn : w.cell? ⟨rb, 14, none⟩ = some (.int .i64 q.now.1)
  f : ∀ j, w.frozen? ⟨rb, j, none⟩ = false
  l : rb < w.heap.size
theorem Rv.c {B : Nat} {w : World} {rb : Nat} {q : Qs} (h : Rv B w rb q) : RvC w rb q :=
  ⟨fun k => (h.r.cell _).trans (rCs_pl q k), fun e => (h.r.cell _).trans (rCs_pen q e), h.r.cell 14, h.r.thaw, h.r.lt⟩
/-- The blocks that a vector has. -/
def XV (vb pb : Nat) : Nat → Prop := fun k => k = vb ∨ k = pb
def XR (rb : Nat) : Nat → Prop := fun k => k = rb
/-- What a call that changes it comes to. -/
structure VStp (B : Nat) (w w' : World) (vb pb : Nat) (q' : Qs) : Prop where
  vec : Vec B w' vb pb q'
  ap : Apart (XV vb pb) w w'
structure RStp (B : Nat) (w w' : World) (rb : Nat) (q' : Qs) : Prop where
  rv : Rv B w' rb q'
  ap : Apart (XR rb) w w'
theorem VStp.same {B : Nat} {w w' : World} {vb pb : Nat} {q : Qs} (h : Vec B w vb pb q) (k : Below w.heap.size w w') : VStp B w w' vb pb q := ⟨h.below k, Apart.of_below k⟩
theorem RStp.same {B : Nat} {w w' : World} {rb : Nat} {q : Qs} (h : Rv B w rb q) (k : Below w.heap.size w w') : RStp B w w' rb q := ⟨h.below k, Apart.of_below k⟩
/-- A place is laid anew; a penalty; whose turn it is. -/
theorem VStp.place {B : Nat} {w : World} {vb pb : Nat} {q : Qs} (h : Vec B w vb pb q) (k : Fin 8) (o : Option (Fin 6)) : VStp B w ((w.setCell ⟨pb, k.1 * 2, none⟩ (.int .u8 (envV o))).setCell ⟨pb, k.1 * 2 + 1, none⟩ (.bool o.isSome)) vb pb { q with pl := upd q.pl k o } :=
  ⟨⟨h.gv, h.gp, (h.v.other h.ne _ _).other h.ne _ _, by
    have := (h.p.set (k.1 * 2) (.int .u8 (envV o))).set (k.1 * 2 + 1) (.bool o.isSome)
    rw [plCs_set] at this
    exact this⟩, (Apart.at w pb _ _ (.inr rfl)).trans (Apart.at _ pb _ _ (.inr rfl))⟩
theorem VStp.pen {B : Nat} {w : World} {vb pb : Nat} {q : Qs} (h : Vec B w vb pb q) (e : Fin 6) (v : Nat) : VStp B w (w.setCell ⟨vb, 1 + e.1, none⟩ (.int .i64 v)) vb pb { q with pen := upd q.pen e v } :=
  ⟨⟨h.gv, h.gp, by
    have := h.v.set (1 + e.1) (.int .i64 v)
    rw [vCs_pset] at this
    exact this, h.p.other h.ne.symm _ _⟩, Apart.at w vb _ _ (.inl rfl)⟩
theorem VStp.now {B : Nat} {w : World} {vb pb : Nat} {q : Qs} (h : Vec B w vb pb q) (k : Fin 8) : VStp B w (w.setCell ⟨vb, 7, none⟩ (.int .i64 k.1)) vb pb { q with now := k } :=
  ⟨⟨h.gv, h.gp, h.v.set 7 (.int .i64 k.1), h.p.other h.ne.symm _ _⟩, Apart.at w vb _ _ (.inl rfl)⟩
theorem RStp.place {B : Nat} {w : World} {rb : Nat} {q : Qs} (h : Rv B w rb q) (k : Fin 8) (o : Option (Fin 6)) : RStp B w (w.setCell ⟨rb, k.1, none⟩ (.int .i64 (refV o))) rb { q with pl := upd q.pl k o } :=
  ⟨⟨h.g, by
    have := h.r.set k.1 (.int .i64 (refV o))
    rw [rCs_plset] at this
    exact this⟩, Apart.at w rb _ _ rfl⟩
theorem RStp.pen {B : Nat} {w : World} {rb : Nat} {q : Qs} (h : Rv B w rb q) (e : Fin 6) (v : Nat) : RStp B w (w.setCell ⟨rb, 8 + e.1, none⟩ (.int .i64 v)) rb { q with pen := upd q.pen e v } :=
  ⟨⟨h.g, by
    have := h.r.set (8 + e.1) (.int .i64 v)
    rw [rCs_pset] at this
    exact this⟩, Apart.at w rb _ _ rfl⟩
theorem RStp.now {B : Nat} {w : World} {rb : Nat} {q : Qs} (h : Rv B w rb q) (k : Fin 8) : RStp B w (w.setCell ⟨rb, 14, none⟩ (.int .i64 k.1)) rb { q with now := k } :=
  ⟨⟨h.g, h.r.set 14 (.int .i64 k.1)⟩, Apart.at w rb _ _ rfl⟩
theorem VStp.trans {B : Nat} {a b c : World} {vb pb : Nat} {q q' : Qs} (h : VStp B a b vb pb q) (k : VStp B b c vb pb q') : VStp B a c vb pb q' := ⟨k.vec, h.ap.trans k.ap⟩
theorem RStp.trans {B : Nat} {a b c : World} {rb : Nat} {q q' : Qs} (h : RStp B a b rb q) (k : RStp B b c rb q') : RStp B a c rb q' := ⟨k.rv, h.ap.trans k.ap⟩
theorem VStp.pre {B : Nat} {a b c : World} {vb pb : Nat} {q' : Qs} (h : Below a.heap.size a b) (k : VStp B b c vb pb q') : VStp B a c vb pb q' := ⟨k.vec, (Apart.of_below h).trans k.ap⟩
theorem VStp.post {B : Nat} {a b c : World} {vb pb : Nat} {q' : Qs} (k : VStp B a b vb pb q') (h : Below b.heap.size b c) : VStp B a c vb pb q' := ⟨k.vec.below h, k.ap.trans (Apart.of_below h)⟩
theorem RStp.pre {B : Nat} {a b c : World} {rb : Nat} {q' : Qs} (h : Below a.heap.size a b) (k : RStp B b c rb q') : RStp B a c rb q' := ⟨k.rv, (Apart.of_below h).trans k.ap⟩
theorem RStp.post {B : Nat} {a b c : World} {rb : Nat} {q' : Qs} (k : RStp B a b rb q') (h : Below b.heap.size b c) : RStp B a c rb q' := ⟨k.rv.below h, k.ap.trans (Apart.of_below h)⟩
theorem VStp.drew {B : Nat} {a b : World} {vb pb : Nat} {q : Qs} (h : VStp B a b vb pb q) : VStp B a b.drew vb pb q := ⟨⟨h.vec.gv, h.vec.gp, h.vec.v, h.vec.p⟩, h.ap.drew⟩
theorem RStp.drew {B : Nat} {a b : World} {rb : Nat} {q : Qs} (h : RStp B a b rb q) : RStp B a b.drew rb q := ⟨⟨h.rv.g, h.rv.r⟩, h.ap.drew⟩
theorem below_new (w : World) (o : Obj) : Below w.heap.size w (w.alloc o) := (Below.refl _ w).alloc (Nat.le_refl _) _
end Go.Proofs.Ytmnolchkcejgaaa
