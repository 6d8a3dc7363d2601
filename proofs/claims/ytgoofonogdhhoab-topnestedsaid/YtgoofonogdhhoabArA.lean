/- What is kept of an environment as plain data; an area in memory, the program's and the document's. -/
import Derived.Test.YtgoofonogdhhoabRows
import Derived.WalkKit
import Derived.WalkSpells
import Derived.WalkLawsBesides
import Derived.Handy
import Derived.Deep.QuietTactic
import Derived.BigQuiet
import Derived.Deep.RegionHeld3
import Derived.Maps.AppendAt
import Derived.Laws.AppendOwnNone
import Derived.Laws.StructEq
import Derived.Lib.SliceRun
import Derived.Lib.Builder
import Derived.Carry
import Derived.Shelf.Abstract
import Derived.Deep.RegionLaw
import Derived.Deep.WholeRow
import Derived.Deep.AppendLies
import Derived.Deep.Cut
import Derived.Laws.Tables
import Derived.Laws.CopyRow
namespace Go.Proofs.Ytgoofonogdhhoab
open Go.RowKit Go.Maps
set_option linter.unusedVariables false
set_option maxRecDepth 100000

/-- But for some blocks a world is as it was. -/
structure Apart (X : Nat → Prop) (w w' : World) : Prop where
  os : w'.os = w.os
  tape : w'.tape = w.tape
  output : w'.output = w.output
  size : w.heap.size ≤ w'.heap.size
  block : ∀ k, k < w.heap.size → ¬ X k → w'.heap[k]? = w.heap[k]?
theorem Apart.refl (X : Nat → Prop) (w : World) : Apart X w w := ⟨rfl, rfl, rfl, Nat.le_refl _, fun _ _ _ => rfl⟩
theorem Apart.trans {X : Nat → Prop} {a b c : World} (h : Apart X a b) (k : Apart X b c) : Apart X a c :=
  ⟨k.os.trans h.os, k.tape.trans h.tape, k.output.trans h.output, Nat.le_trans h.size k.size, fun i hi hx => (k.block i (Nat.lt_of_lt_of_le hi h.size) hx).trans (h.block i hi hx)⟩
theorem Apart.then {X Y : Nat → Prop} {a b c : World} (h : Apart X a b) (k : Apart Y b c) (hy : ∀ i, i < a.heap.size → Y i → X i) : Apart X a c :=
  ⟨k.os.trans h.os, k.tape.trans h.tape, k.output.trans h.output, Nat.le_trans h.size k.size, fun i hi hx => (k.block i (Nat.lt_of_lt_of_le hi h.size) (fun y => hx (hy i hi y))).trans (h.block i hi hx)⟩
theorem Apart.wide {X Y : Nat → Prop} {a b : World} (h : Apart X a b) (hy : ∀ i, i < a.heap.size → X i → Y i) : Apart Y a b :=
  ⟨h.os, h.tape, h.output, h.size, fun i hi hx => h.block i hi (fun y => hx (hy i hi y))⟩
theorem Apart.of_below {X : Nat → Prop} {a b : World} (h : Below a.heap.size a b) : Apart X a b := ⟨h.os, h.tape, h.output, h.size, fun k hk _ => h.block k hk⟩
theorem Apart.below {X : Nat → Prop} {a b : World} (h : Apart X a b) (B : Nat) (hx : ∀ k, X k → B ≤ k) (hB : B ≤ a.heap.size) : Below B a b :=
  ⟨h.os, h.tape, h.output, h.size, fun k hk => h.block k (by omega) (fun y => by have := hx k y; omega)⟩
theorem size_setCell (w : World) (p : Addr) (u : Value) : (w.setCell p u).heap.size = w.heap.size := by simp [World.setCell]
theorem Apart.set (w : World) (p : Addr) (u : Value) : Apart (fun k => k = p.block) w (w.setCell p u) :=
  ⟨rfl, rfl, rfl, by rw [size_setCell]; exact Nat.le_refl _, fun k hk hx => Below.heap_setCell w p u k hx⟩
theorem Apart.at {X : Nat → Prop} (w : World) (b j : Nat) (u : Value) (hx : X b) : Apart X w (w.setCell ⟨b, j, none⟩ u) := (Apart.set w ⟨b, j, none⟩ u).wide (fun i _ e => by rw [e]; exact hx)
theorem Apart.drew {X : Nat → Prop} {a b : World} (h : Apart X a b) : Apart X a b.drew := ⟨h.os, h.tape, h.output, h.size, h.block⟩

/-- A block of cells of a type. -/
def Cl (w : World) (b : Nat) (t : TypeId) (c : List Value) : Prop := w.heap[b]? = some (.cells c.toArray t (0, 0))
theorem Cl.lt {w : World} {b : Nat} {t : TypeId} {c : List Value} (h : Cl w b t c) : b < w.heap.size := (Array.getElem?_eq_some_iff.1 h).1
theorem Cl.cell {w : World} {b : Nat} {t : TypeId} {c : List Value} (h : Cl w b t c) (j : Nat) : w.cell? ⟨b, j, none⟩ = c[j]? := by
  rw [Lib.cell_of_heap h]; simp
theorem Cl.thaw {w : World} {b : Nat} {t : TypeId} {c : List Value} (h : Cl w b t c) (j : Nat) : w.frozen? ⟨b, j, none⟩ = false := Lib.frozen_of_heap h j
theorem Cl.stay {w w' : World} {b : Nat} {t : TypeId} {c : List Value} {X : Nat → Prop} (h : Cl w b t c) (k : Apart X w w') (hx : ¬ X b) : Cl w' b t c := (k.block b h.lt hx).trans h
theorem Cl.below {w w' : World} {b : Nat} {t : TypeId} {c : List Value} (h : Cl w b t c) (k : Below w.heap.size w w') : Cl w' b t c := (k.block b h.lt).trans h
theorem Cl.drew {w : World} {b : Nat} {t : TypeId} {c : List Value} (h : Cl w b t c) : Cl w.drew b t c := h
theorem Cl.alloc {w : World} {b : Nat} {t : TypeId} {c : List Value} (h : Cl w b t c) (o : Obj) : Cl (w.alloc o) b t c := (Lib.alloc_old w o b h.lt).trans h
theorem Cl.set {w : World} {b : Nat} {t : TypeId} {c : List Value} (h : Cl w b t c) (j : Nat) (v : Value) : Cl (w.setCell ⟨b, j, none⟩ v) b t (c.set j v) := by
  have h' : w.heap[b]? = some (.cells c.toArray t (0, 0)) := h
  simp [Cl, World.setCell, Array.getElem?_modify, h']
theorem Cl.other {w : World} {b d : Nat} {t : TypeId} {c : List Value} (h : Cl w b t c) (hne : b ≠ d) (j : Nat) (v : Value) : Cl (w.setCell ⟨d, j, none⟩ v) b t c := (Below.heap_setCell w ⟨d, j, none⟩ v b hne).trans h
theorem Cl.ne {w : World} {b d : Nat} {t u : TypeId} {c e : List Value} (h : Cl w b t c) (k : Cl w d u e) (ht : t ≠ u) : b ≠ d := by
  intro e
  subst e
  have := h.symm.trans k
  injection this with this
  injection this with _ this
  exact ht this
theorem Cl.new (w : World) (t : TypeId) (c : List Value) : Cl (w.alloc (.cells c.toArray t)) w.heap.size t c := heap_alloc_new w _

def upd {n : Nat} {α : Type} (f : Fin n → α) (k : Fin n) (v : α) : Fin n → α := fun i => if i = k then v else f i
theorem upd_same {n : Nat} {α : Type} (f : Fin n → α) (k : Fin n) (v : α) : upd f k v k = v := by simp [upd]
theorem upd_other {n : Nat} {α : Type} (f : Fin n → α) (k i : Fin n) (v : α) (h : i ≠ k) : upd f k v i = f i := by simp [upd, h]
structure Hid3 (p : Prop) : Prop where
  out : p
/-- Registers. -/
structure Rg where
  pc : Int
  a0 : Int
  a1 : Int
  a2 : Int
  a3 : Int
  a4 : Int
  a5 : Int
  a6 : Int
  a7 : Int
def Rg.vs (s : Rg) : List Value := [.int .u16 s.pc, .int .u16 s.a0, .int .u16 s.a1, .int .u16 s.a2, .int .u16 s.a3, .int .u16 s.a4, .int .u16 s.a5, .int .u16 s.a6, .int .u16 s.a7]
def Rg.V (s : Rg) : Value := .agg s.vs.toArray
def rg0 : Rg := ⟨0, 0, 0, 0, 0, 0, 0, 0, 0⟩
/-- Whether it is alive, its registers, those that are kept, where upcalls come to. -/
structure Ar where
  al : Bool
  s : Rg
  kp : List Rg
  en : Fin 5 → Option Int
def Ar.Ok (q : Ar) : Prop := q.kp.length ≤ 4 ∧ (q.al = false → q.s = rg0 ∧ q.kp = [])
def ar0 (s : Rg) : Ar := ⟨true, s, [], fun _ => none⟩
def kF (l : List Rg) (i : Nat) : Rg := l.getD i rg0
def entV (o : Option Int) : List Value := [.int .u16 (o.getD 0), .bool o.isSome]
def kCs (l : List Rg) : List Value := (kF l 0).vs ++ ((kF l 1).vs ++ ((kF l 2).vs ++ (kF l 3).vs))
def eCs (e : Fin 5 → Option Int) : List Value := entV (e 0) ++ (entV (e 1) ++ (entV (e 2) ++ (entV (e 3) ++ entV (e 4))))
def lCs (q : Ar) : List Value := .bool q.al :: (q.s.vs ++ (kCs q.kp ++ [.int .i64 q.kp.length]))
def aCs (q : Ar) : List Value := lCs q ++ eCs q.en
def toCs (e : Fin 5 → Option Int) : List Value := [.int .u16 ((e 0).getD 0), .int .u16 ((e 1).getD 0), .int .u16 ((e 2).getD 0), .int .u16 ((e 3).getD 0), .int .u16 ((e 4).getD 0)]
def hasCs (e : Fin 5 → Option Int) : List Value := [.bool (e 0).isSome, .bool (e 1).isSome, .bool (e 2).isSome, .bool (e 3).isSome, .bool (e 4).isSome]
def rCs (v : Value) (q : Ar) : List Value := q.s.vs ++ (v :: (toCs q.en ++ (hasCs q.en ++ [.bool (!q.al)])))
def rgsCs : List Rg → List Value
  | [] => []
  | s :: r => s.vs ++ rgsCs r
theorem rgsCs_append : ∀ (a b : List Rg), rgsCs (a ++ b) = rgsCs a ++ rgsCs b
  | [], b => rfl
  | s :: r, b => by simp [rgsCs, rgsCs_append r b]
theorem rgsCs_len : ∀ (a : List Rg), (rgsCs a).length = a.length * 9
  | [] => rfl
  | s :: r => by simp [rgsCs, rgsCs_len r, Rg.vs]; omega
theorem vs_one (s : Rg) : ∀ v ∈ s.vs, v.oneCell' = true := by
  intro v hv
  simp only [Rg.vs, List.mem_cons, List.not_mem_nil, or_false] at hv
  rcases hv with h | h | h | h | h | h | h | h | h <;> (subst h; rfl)
theorem rgsCs_one : ∀ (a : List Rg), ∀ v ∈ rgsCs a, v.oneCell' = true
  | [], v, h => by cases h
  | s :: r, v, h => by
    simp only [rgsCs, List.mem_append] at h
    rcases h with h | h
    · exact vs_one s v h
    · exact rgsCs_one r v h
theorem all5 {P : Fin 5 → Prop} (h0 : P 0) (h1 : P 1) (h2 : P 2) (h3 : P 3) (h4 : P 4) : ∀ k, P k
  | 0 => h0 | 1 => h1 | 2 => h2 | 3 => h3 | 4 => h4
theorem all4 {P : Fin 4 → Prop} (h0 : P 0) (h1 : P 1) (h2 : P 2) (h3 : P 3) : ∀ k, P k
  | 0 => h0 | 1 => h1 | 2 => h2 | 3 => h3
theorem aCs_at (q : Ar) : ∀ k : Fin 5, (aCs q)[47 + k.1 * 2]? = some (.int .u16 ((q.en k).getD 0)) := all5 rfl rfl rfl rfl rfl
theorem aCs_is (q : Ar) : ∀ k : Fin 5, (aCs q)[47 + k.1 * 2 + 1]? = some (.bool (q.en k).isSome) := all5 rfl rfl rfl rfl rfl
theorem aCs_eset (q : Ar) (v : Int) : ∀ k : Fin 5, ((aCs q).set (47 + k.1 * 2) (.int .u16 v)).set (47 + k.1 * 2 + 1) (.bool true) = aCs { q with en := upd q.en k (some v) } := all5 rfl rfl rfl rfl rfl
theorem rCs_to (v : Value) (q : Ar) : ∀ k : Fin 5, (rCs v q)[10 + k.1]? = some (.int .u16 ((q.en k).getD 0)) := all5 rfl rfl rfl rfl rfl
theorem rCs_has (v : Value) (q : Ar) : ∀ k : Fin 5, (rCs v q)[15 + k.1]? = some (.bool (q.en k).isSome) := all5 rfl rfl rfl rfl rfl
theorem rCs_eset (v : Value) (q : Ar) (x : Int) : ∀ k : Fin 5, ((rCs v q).set (10 + k.1) (.int .u16 x)).set (15 + k.1) (.bool true) = rCs v { q with en := upd q.en k (some x) } := all5 rfl rfl rfl rfl rfl
/-- A part of the kept ones, and what stands ahead of it and behind. -/
theorem aCs_kept (q : Ar) : ∀ k : Fin 4, ((aCs q).drop (10 + k.1 * 9)).take 9 = (kF q.kp k.1).vs := all4 rfl rfl rfl rfl
theorem kF_push (l : List Rg) (s : Rg) (i : Nat) : kF (l ++ [s]) i = if i = l.length then s else kF l i := by
  unfold kF
  rw [List.getD_eq_getElem?_getD, List.getD_eq_getElem?_getD]
  by_cases h : i < l.length
  · rw [List.getElem?_append_left h, if_neg (by omega)]
  · rw [List.getElem?_append_right (by omega)]
    by_cases h2 : i = l.length
    · subst h2; simp
    · rw [if_neg h2, List.getElem?_eq_none (by simp; omega), List.getElem?_eq_none (by omega)]
theorem kF_over (l : List Rg) (i : Nat) (h : l.length ≤ i) : kF l i = rg0 := by
  unfold kF
  rw [List.getD_eq_getElem?_getD, List.getElem?_eq_none h]; rfl
theorem aCs_keep (q : Ar) (s : Rg) (h : q.kp.length < 4) : (aCs q).take (10 + q.kp.length * 9) ++ s.vs ++ (aCs q).drop (10 + q.kp.length * 9 + 9) = (aCs { q with kp := q.kp ++ [s] }).set 46 (.int .i64 q.kp.length) := by
  obtain ⟨al, s0, kp, en⟩ := q
  simp only at h ⊢
  unfold aCs lCs kCs
  simp only [kF_push]
  have : kp.length = 0 ∨ kp.length = 1 ∨ kp.length = 2 ∨ kp.length = 3 := by omega
  rcases this with e | e | e | e <;> (rw [e]; simp only [List.length_append, e]; rfl)
/-- One that is kept is taken out: the rest. -/
theorem aCs_last (q : Ar) (r : List Rg) (t : Rg) (hq : q.kp = r ++ [t]) (h : r.length < 4) : ((aCs q).set 46 (.int .i64 r.length)).take (10 + r.length * 9) ++ rg0.vs ++ ((aCs q).set 46 (.int .i64 r.length)).drop (10 + r.length * 9 + 9) = aCs { q with kp := r } := by
  obtain ⟨al, s0, kp, en⟩ := q
  simp only at hq h ⊢
  subst hq
  have h0 : ∀ i, r.length ≤ i → kF r i = rg0 := kF_over r
  unfold aCs lCs kCs
  simp only [kF_push]
  have : r.length = 0 ∨ r.length = 1 ∨ r.length = 2 ∨ r.length = 3 := by omega
  rcases this with e | e | e | e
  · rw [h0 0 (by omega), h0 1 (by omega), h0 2 (by omega), h0 3 (by omega)]
    rw [e]; rfl
  · rw [h0 1 (by omega), h0 2 (by omega), h0 3 (by omega)]
    rw [e]; rfl
  · rw [h0 2 (by omega), h0 3 (by omega)]
    rw [e]; rfl
  · rw [h0 3 (by omega)]
    rw [e]; rfl
/-- The program's area. -/
structure Ac (B : Nat) (w : World) (b : Nat) (q : Ar) : Prop where
  g : B ≤ b
  c : Cl w b 44 (aCs q)
  ok : q.Ok
/-- The document's. -/
structure Rr (B : Nat) (w : World) (b : Nat) (q : Ar) : Prop where
  g : B ≤ b
  c : ∃ v, Cl w b 0 (rCs v q) ∧ w.ownsRow B 26 9 v q.kp.length (rgsCs q.kp)
  ok : q.Ok
theorem own_stay {w w' : World} {B n : Nat} {v : Value} {xs : List Value} {X : Nat → Prop} (h : w.ownsRow B 26 9 v n xs) (k : Apart X w w') (hx : ∀ g, (∃ cur, w.heap[g]? = some (.cells cur 26 (0, 0))) → ¬ X g) : w'.ownsRow B 26 9 v n xs := by
  refine ⟨h.1, ?_⟩
  rcases h.2 with h0 | ⟨g, cap, cur, h1, h2, h3, h4⟩
  · exact .inl h0
  · refine .inr ⟨g, cap, cur, h1, h2, ?_, h4⟩
    rw [k.block g (Array.getElem?_eq_some_iff.1 h3).1 (hx g ⟨cur, h3⟩)]
    exact h3
theorem Cl.typ {w : World} {b : Nat} {t u : TypeId} {c : List Value} {cur : Array Value} (h : Cl w b t c) (k : w.heap[b]? = some (.cells cur u (0, 0))) : t = u := by
  have := h.symm.trans k
  injection this with this
  injection this
theorem Ac.below {B : Nat} {w w' : World} {b : Nat} {q : Ar} (h : Ac B w b q) (k : Below w.heap.size w w') : Ac B w' b q := ⟨h.g, h.c.below k, h.ok⟩
theorem Rr.below {B : Nat} {w w' : World} {b : Nat} {q : Ar} (h : Rr B w b q) (k : Below w.heap.size w w') : Rr B w' b q :=
  ⟨h.g, h.c.elim fun v hv => ⟨v, hv.1.below k, own_stay hv.2 (Apart.of_below (X := fun _ => False) k) (fun _ _ => id)⟩, h.ok⟩
theorem Ac.stay {B : Nat} {w w' : World} {b : Nat} {q : Ar} {X : Nat → Prop} (h : Ac B w b q) (k : Apart X w w') (h1 : ¬ X b) : Ac B w' b q := ⟨h.g, h.c.stay k h1, h.ok⟩
theorem Rr.stay {B : Nat} {w w' : World} {b x : Nat} {q : Ar} {t : TypeId} {c : List Value} (h : Rr B w b q) (k : Apart (fun i => i = x) w w') (h1 : b ≠ x) (hx : Cl w x t c) (ht : t ≠ 26) : Rr B w' b q :=
  ⟨h.g, h.c.elim fun v hv => ⟨v, hv.1.stay k h1, own_stay hv.2 k (fun g hg e => by
    obtain ⟨cur, hg⟩ := hg
    subst e
    exact ht (hx.typ hg))⟩, h.ok⟩
theorem Ac.lt {B : Nat} {w : World} {b : Nat} {q : Ar} (h : Ac B w b q) : b < w.heap.size := h.c.lt
theorem Rr.lt {B : Nat} {w : World} {b : Nat} {q : Ar} (h : Rr B w b q) : b < w.heap.size := h.c.elim fun _ hv => hv.1.lt
def XB (b : Nat) : Nat → Prop := fun k => k = b
/-- What a call that changes it comes to. -/
structure AStp (B : Nat) (w w' : World) (b : Nat) (q' : Ar) : Prop where
  a : Ac B w' b q'
  ap : Apart (XB b) w w'
structure RStp (B : Nat) (w w' : World) (b : Nat) (q' : Ar) : Prop where
  a : Rr B w' b q'
  ap : Apart (XB b) w w'
theorem AStp.same {B : Nat} {w w' : World} {b : Nat} {q : Ar} (h : Ac B w b q) (k : Below w.heap.size w w') : AStp B w w' b q := ⟨h.below k, Apart.of_below k⟩
theorem RStp.same {B : Nat} {w w' : World} {b : Nat} {q : Ar} (h : Rr B w b q) (k : Below w.heap.size w w') : RStp B w w' b q := ⟨h.below k, Apart.of_below k⟩
theorem AStp.trans {B : Nat} {a b c : World} {x : Nat} {q q' : Ar} (h : AStp B a b x q) (k : AStp B b c x q') : AStp B a c x q' := ⟨k.a, h.ap.trans k.ap⟩
theorem RStp.trans {B : Nat} {a b c : World} {x : Nat} {q q' : Ar} (h : RStp B a b x q) (k : RStp B b c x q') : RStp B a c x q' := ⟨k.a, h.ap.trans k.ap⟩
theorem AStp.pre {B : Nat} {a b c : World} {x : Nat} {q' : Ar} (h : Below a.heap.size a b) (k : AStp B b c x q') : AStp B a c x q' := ⟨k.a, (Apart.of_below h).trans k.ap⟩
theorem AStp.post {B : Nat} {a b c : World} {x : Nat} {q' : Ar} (k : AStp B a b x q') (h : Below b.heap.size b c) : AStp B a c x q' := ⟨k.a.below h, k.ap.trans (Apart.of_below h)⟩
theorem RStp.pre {B : Nat} {a b c : World} {x : Nat} {q' : Ar} (h : Below a.heap.size a b) (k : RStp B b c x q') : RStp B a c x q' := ⟨k.a, (Apart.of_below h).trans k.ap⟩
theorem RStp.post {B : Nat} {a b c : World} {x : Nat} {q' : Ar} (k : RStp B a b x q') (h : Below b.heap.size b c) : RStp B a c x q' := ⟨k.a.below h, k.ap.trans (Apart.of_below h)⟩
theorem below_new (w : World) (o : Obj) : Below w.heap.size w (w.alloc o) := (Below.refl _ w).alloc (Nat.le_refl _) _
theorem below_drew (w : World) : Below w.heap.size w w.drew := (Below.refl _ w).drew
/-- A block is laid anew as a whole. -/
theorem Cl.row {w : World} {b : Nat} {t : TypeId} {c : List Value} (h : Cl w b t c) (d : List Value) : Cl (w.setRow b d.toArray) b t d := setRow_heap w b _ _ _ _ h
theorem Apart.row (w : World) (b : Nat) (d : Array Value) : Apart (XB b) w (w.setRow b d) := ⟨rfl, rfl, rfl, by rw [size_setRow]; exact Nat.le_refl _, fun k hk hx => setRow_other w b k d hx⟩
theorem AStp.row {B : Nat} {w : World} {b : Nat} {q q' : Ar} (h : Ac B w b q) (ok : q'.Ok) : AStp B w (w.setRow b (aCs q').toArray) b q' := ⟨⟨h.g, h.c.row _, ok⟩, Apart.row w b _⟩
/-- A struct is loaded; it is stored. -/
theorem loads {w : World} {b : Nat} {t : TypeId} {cs : List Value} (h : Cl w b t cs) (ty : TypeId) (o n : Nat) (xs : List Value) (ha : (isAgg ty).run Try.prog w = .ok true w) (hi : (Try.prog.info? ty).map (·.size) = some n) (hx : (cs.drop o).take n = xs) (hl : xs.length = n) :
    (Instr.loadAt ty (.pointer (some ⟨b, o, none⟩))).run Try.prog w = .ok (.agg xs.toArray) w := by
  have hl' := run_loadCells_list (P := Try.prog) w ⟨b, o, none⟩ xs (fun j v hj => by
    rw [Addr.add_mid]
    rw [h.cell]
    rw [← hx] at hj
    rw [List.getElem?_take] at hj
    split at hj
    · rw [List.getElem?_drop] at hj; exact hj
    · cases hj)
  rw [hl] at hl'
  rw [Option.map_eq_some_iff] at hi
  obtain ⟨i, hi, hs⟩ := hi
  simp [Instr.loadAt, Instr.sureAddr, loadVar, ha, sizeOf, typeInfo, hi, hs, hl']
theorem stores {w : World} {b : Nat} {t : TypeId} {cs : List Value} (h : Cl w b t cs) (ty : TypeId) (o n : Nat) (xs : List Value) (hi : (Try.prog.info? ty).map (·.size) = some n) (hl : xs.length = n) (h1 : ∀ v ∈ xs, v.oneCell' = true) (ho : o + n ≤ cs.length) :
    (Instr.storeAt ty (.pointer (some ⟨b, o, none⟩)) (.agg xs.toArray)).run Try.prog w = .ok () (w.setRow b (cs.take o ++ xs ++ cs.drop (o + n)).toArray) := by
  have hst := run_storeCells_at Try.prog b o t xs 0 cs.toArray w h (by simp [hl]; omega) h1
  rw [Option.map_eq_some_iff] at hi
  obtain ⟨i, hi, hs⟩ := hi
  simp [hl] at hst
  simp [Instr.storeAt, Instr.sureAddr, storeVar, sizeOf, typeInfo, hi, hs, hl, Value.cells, hst]
end Go.Proofs.Ytgoofonogdhhoab
