/- Worlds that are as they were but for some blocks; blocks of cells; functions that are laid anew at one place. -/
import Derived.Test.YtdegjmceeggldaaRows
import Derived.WalkKit
import Derived.WalkSpells
import Derived.WalkLawsBesides
import Derived.Handy
import Derived.Deep.QuietTactic
import Derived.BigQuiet
import Derived.Deep.RegionHeld3
import Derived.Maps.AppendAt
import Derived.Laws.AppendOwnNone
import Derived.Laws.StructEq
import Derived.Lib.SliceRun
import Derived.Lib.Builder
import Derived.Carry
import Derived.Shelf.Abstract
namespace Go.Proofs.Ytdegjmceeggldaa
open Go.RowKit Go.Maps
set_option linter.unusedVariables false
set_option maxRecDepth 100000

/-- But for some blocks a world is as it was. -/
structure Apart (X : Nat → Prop) (w w' : World) : Prop where
  os : w'.os = w.os
  tape : w'.tape = w.tape
  output : w'.output = w.output
  size : w.heap.size ≤ w'.heap.size
  block : ∀ k, k < w.heap.size → ¬ X k → w'.heap[k]? = w.heap[k]?
theorem Apart.refl (X : Nat → Prop) (w : World) : Apart X w w := ⟨rfl, rfl, rfl, Nat.le_refl _, fun _ _ _ => rfl⟩
theorem Apart.trans {X : Nat → Prop} {a b c : World} (h : Apart X a b) (k : Apart X b c) : Apart X a c :=
  ⟨k.os.trans h.os, k.tape.trans h.tape, k.output.trans h.output, Nat.le_trans h.size k.size, fun i hi hx => (k.block i (Nat.lt_of_lt_of_le hi h.size) hx).trans (h.block i hi hx)⟩
theorem Apart.then {X Y : Nat → Prop} {a b c : World} (h : Apart X a b) (k : Apart Y b c) (hy : ∀ i, i < a.heap.size → Y i → X i) : Apart X a c :=
  ⟨k.os.trans h.os, k.tape.trans h.tape, k.output.trans h.output, Nat.le_trans h.size k.size, fun i hi hx => (k.block i (Nat.lt_of_lt_of_le hi h.size) (fun y => hx (hy i hi y))).trans (h.block i hi hx)⟩
theorem Apart.wide {X Y : Nat → Prop} {a b : World} (h : Apart X a b) (hy : ∀ i, i < a.heap.size → X i → Y i) : Apart Y a b :=
  ⟨h.os, h.tape, h.output, h.size, fun i hi hx => h.block i hi (fun y => hx (hy i hi y))⟩
theorem Apart.of_below {X : Nat → Prop} {a b : World} (h : Below a.heap.size a b) : Apart X a b := ⟨h.os, h.tape, h.output, h.size, fun k hk _ => h.block k hk⟩
theorem Apart.below {X : Nat → Prop} {a b : World} (h : Apart X a b) (B : Nat) (hx : ∀ k, X k → B ≤ k) (hB : B ≤ a.heap.size) : Below B a b :=
  ⟨h.os, h.tape, h.output, h.size, fun k hk => h.block k (by omega) (fun y => by have := hx k y; omega)⟩
theorem size_setCell (w : World) (p : Addr) (u : Value) : (w.setCell p u).heap.size = w.heap.size := by simp [World.setCell]
theorem Apart.set (w : World) (p : Addr) (u : Value) : Apart (fun k => k = p.block) w (w.setCell p u) :=
  ⟨rfl, rfl, rfl, by rw [size_setCell]; exact Nat.le_refl _, fun k hk hx => Below.heap_setCell w p u k hx⟩
theorem Apart.at {X : Nat → Prop} (w : World) (b j : Nat) (u : Value) (hx : X b) : Apart X w (w.setCell ⟨b, j, none⟩ u) := (Apart.set w ⟨b, j, none⟩ u).wide (fun i _ e => by rw [e]; exact hx)
theorem Apart.drew {X : Nat → Prop} {a b : World} (h : Apart X a b) : Apart X a b.drew := ⟨h.os, h.tape, h.output, h.size, h.block⟩

/-- A block of cells of a type. -/
def Cl (w : World) (b : Nat) (t : TypeId) (c : List Value) : Prop := w.heap[b]? = some (.cells c.toArray t (0, 0))
theorem Cl.lt {w : World} {b : Nat} {t : TypeId} {c : List Value} (h : Cl w b t c) : b < w.heap.size := (Array.getElem?_eq_some_iff.1 h).1
theorem Cl.cell {w : World} {b : Nat} {t : TypeId} {c : List Value} (h : Cl w b t c) (j : Nat) : w.cell? ⟨b, j, none⟩ = c[j]? := by
  rw [Lib.cell_of_heap h]; simp
theorem Cl.thaw {w : World} {b : Nat} {t : TypeId} {c : List Value} (h : Cl w b t c) (j : Nat) : w.frozen? ⟨b, j, none⟩ = false := Lib.frozen_of_heap h j
theorem Cl.stay {w w' : World} {b : Nat} {t : TypeId} {c : List Value} {X : Nat → Prop} (h : Cl w b t c) (k : Apart X w w') (hx : ¬ X b) : Cl w' b t c := (k.block b h.lt hx).trans h
theorem Cl.below {w w' : World} {b : Nat} {t : TypeId} {c : List Value} (h : Cl w b t c) (k : Below w.heap.size w w') : Cl w' b t c := (k.block b h.lt).trans h
theorem Cl.drew {w : World} {b : Nat} {t : TypeId} {c : List Value} (h : Cl w b t c) : Cl w.drew b t c := h
theorem Cl.alloc {w : World} {b : Nat} {t : TypeId} {c : List Value} (h : Cl w b t c) (o : Obj) : Cl (w.alloc o) b t c := (Lib.alloc_old w o b h.lt).trans h
theorem Cl.set {w : World} {b : Nat} {t : TypeId} {c : List Value} (h : Cl w b t c) (j : Nat) (v : Value) : Cl (w.setCell ⟨b, j, none⟩ v) b t (c.set j v) := by
  have h' : w.heap[b]? = some (.cells c.toArray t (0, 0)) := h
  simp [Cl, World.setCell, Array.getElem?_modify, h']
theorem Cl.other {w : World} {b d : Nat} {t : TypeId} {c : List Value} (h : Cl w b t c) (hne : b ≠ d) (j : Nat) (v : Value) : Cl (w.setCell ⟨d, j, none⟩ v) b t c := (Below.heap_setCell w ⟨d, j, none⟩ v b hne).trans h
theorem Cl.ne {w : World} {b d : Nat} {t u : TypeId} {c e : List Value} (h : Cl w b t c) (k : Cl w d u e) (ht : t ≠ u) : b ≠ d := by
  intro e
  subst e
  have := h.symm.trans k
  injection this with this
  injection this with _ this
  exact ht this
theorem Cl.new (w : World) (t : TypeId) (c : List Value) : Cl (w.alloc (.cells c.toArray t)) w.heap.size t c := heap_alloc_new w _

def upd {n : Nat} {α : Type} (f : Fin n → α) (k : Fin n) (v : α) : Fin n → α := fun i => if i = k then v else f i
theorem upd_same {n : Nat} {α : Type} (f : Fin n → α) (k : Fin n) (v : α) : upd f k v k = v := by simp [upd]
theorem upd_other {n : Nat} {α : Type} (f : Fin n → α) (k i : Fin n) (v : α) (h : i ≠ k) : upd f k v i = f i := by simp [upd, h]
theorem below_new (w : World) (o : Obj) : Below w.heap.size w (w.alloc o) := (Below.refl _ w).alloc (Nat.le_refl _) _
theorem below_newd (w : World) (o : Obj) : Below w.heap.size w (w.alloc o).drew := by
  have h := below_new w o
  exact ⟨h.os, h.tape, h.output, h.size, h.block⟩
structure Hid3 (p : Prop) : Prop where
  out : p
end Go.Proofs.Ytdegjmceeggldaa
