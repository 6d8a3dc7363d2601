/- Maps of numbers in memory, beside mem. -/
import Derived.Test.YtfmcoibpbcheiaaMemI
import Derived.WalkKit
import Derived.WalkSpells
import Derived.WalkLawsBesides
import Derived.Handy
import Derived.Deep.QuietTactic
import Derived.BigQuiet
import Derived.Deep.RegionHeld3
import Derived.Maps.AppendAt
import Derived.Laws.AppendOwnNone
import Derived.Laws.StructEq
import Derived.Lib.SliceRun
import Derived.Lib.Builder
import Derived.Carry
import Derived.Shelf.Abstract
import Derived.Deep.RegionLaw
import Derived.Deep.WholeRow
import Derived.Deep.AppendLies
import Derived.Deep.Cut
import Derived.Laws.Tables
import Derived.Laws.CopyRow
import Derived.MapKept
namespace Go.Proofs.Ytfmcoibpbcheiaa
open Go.RowKit Go.Maps
set_option linter.unusedVariables false
set_option maxRecDepth 100000

/-- But for some blocks a world is as it was. -/
structure Apart (X : Nat → Prop) (w w' : World) : Prop where
  os : w'.os = w.os
  tape : w'.tape = w.tape
  output : w'.output = w.output
  size : w.heap.size ≤ w'.heap.size
  block : ∀ k, k < w.heap.size → ¬ X k → w'.heap[k]? = w.heap[k]?
theorem Apart.refl (X : Nat → Prop) (w : World) : Apart X w w := ⟨rfl, rfl, rfl, Nat.le_refl _, fun _ _ _ => rfl⟩
theorem Apart.trans {X : Nat → Prop} {a b c : World} (h : Apart X a b) (k : Apart X b c) : Apart X a c :=
  ⟨k.os.trans h.os, k.tape.trans h.tape, k.output.trans h.output, Nat.le_trans h.size k.size, fun i hi hx => (k.block i (Nat.lt_of_lt_of_le hi h.size) hx).trans (h.block i hi hx)⟩
theorem Apart.then {X Y : Nat → Prop} {a b c : World} (h : Apart X a b) (k : Apart Y b c) (hy : ∀ i, i < a.heap.size → Y i → X i) : Apart X a c :=
  ⟨k.os.trans h.os, k.tape.trans h.tape, k.output.trans h.output, Nat.le_trans h.size k.size, fun i hi hx => (k.block i (Nat.lt_of_lt_of_le hi h.size) (fun y => hx (hy i hi y))).trans (h.block i hi hx)⟩
theorem Apart.wide {X Y : Nat → Prop} {a b : World} (h : Apart X a b) (hy : ∀ i, i < a.heap.size → X i → Y i) : Apart Y a b :=
  ⟨h.os, h.tape, h.output, h.size, fun i hi hx => h.block i hi (fun y => hx (hy i hi y))⟩
theorem Apart.of_below {X : Nat → Prop} {a b : World} (h : Below a.heap.size a b) : Apart X a b := ⟨h.os, h.tape, h.output, h.size, fun k hk _ => h.block k hk⟩
theorem Apart.below {X : Nat → Prop} {a b : World} (h : Apart X a b) (B : Nat) (hx : ∀ k, X k → B ≤ k) (hB : B ≤ a.heap.size) : Below B a b :=
  ⟨h.os, h.tape, h.output, h.size, fun k hk => h.block k (by omega) (fun y => by have := hx k y; omega)⟩
theorem size_setCell (w : World) (p : Addr) (u : Value) : (w.setCell p u).heap.size = w.heap.size := by simp [World.setCell]
theorem Apart.set (w : World) (p : Addr) (u : Value) : Apart (fun k => k = p.block) w (w.setCell p u) :=
  ⟨rfl, rfl, rfl, by rw [size_setCell]; exact Nat.le_refl _, fun k hk hx => Below.heap_setCell w p u k hx⟩
theorem Apart.at {X : Nat → Prop} (w : World) (b j : Nat) (u : Value) (hx : X b) : Apart X w (w.setCell ⟨b, j, none⟩ u) := (Apart.set w ⟨b, j, none⟩ u).wide (fun i _ e => by rw [e]; exact hx)
theorem Apart.drew {X : Nat → Prop} {a b : World} (h : Apart X a b) : Apart X a b.drew := ⟨h.os, h.tape, h.output, h.size, h.block⟩

/-- A block of cells of a type. -/
def Cl (w : World) (b : Nat) (t : TypeId) (c : List Value) : Prop := w.heap[b]? = some (.cells c.toArray t (0, 0))
theorem Cl.lt {w : World} {b : Nat} {t : TypeId} {c : List Value} (h : Cl w b t c) : b < w.heap.size := (Array.getElem?_eq_some_iff.1 h).1
theorem Cl.cell {w : World} {b : Nat} {t : TypeId} {c : List Value} (h : Cl w b t c) (j : Nat) : w.cell? ⟨b, j, none⟩ = c[j]? := by
  rw [Lib.cell_of_heap h]; simp
theorem Cl.thaw {w : World} {b : Nat} {t : TypeId} {c : List Value} (h : Cl w b t c) (j : Nat) : w.frozen? ⟨b, j, none⟩ = false := Lib.frozen_of_heap h j
theorem Cl.stay {w w' : World} {b : Nat} {t : TypeId} {c : List Value} {X : Nat → Prop} (h : Cl w b t c) (k : Apart X w w') (hx : ¬ X b) : Cl w' b t c := (k.block b h.lt hx).trans h
theorem Cl.below {w w' : World} {b : Nat} {t : TypeId} {c : List Value} (h : Cl w b t c) (k : Below w.heap.size w w') : Cl w' b t c := (k.block b h.lt).trans h
theorem Cl.drew {w : World} {b : Nat} {t : TypeId} {c : List Value} (h : Cl w b t c) : Cl w.drew b t c := h
theorem Cl.alloc {w : World} {b : Nat} {t : TypeId} {c : List Value} (h : Cl w b t c) (o : Obj) : Cl (w.alloc o) b t c := (Lib.alloc_old w o b h.lt).trans h
theorem Cl.set {w : World} {b : Nat} {t : TypeId} {c : List Value} (h : Cl w b t c) (j : Nat) (v : Value) : Cl (w.setCell ⟨b, j, none⟩ v) b t (c.set j v) := by
  have h' : w.heap[b]? = some (.cells c.toArray t (0, 0)) := h
  simp [Cl, World.setCell, Array.getElem?_modify, h']
theorem Cl.other {w : World} {b d : Nat} {t : TypeId} {c : List Value} (h : Cl w b t c) (hne : b ≠ d) (j : Nat) (v : Value) : Cl (w.setCell ⟨d, j, none⟩ v) b t c := (Below.heap_setCell w ⟨d, j, none⟩ v b hne).trans h
theorem Cl.ne {w : World} {b d : Nat} {t u : TypeId} {c e : List Value} (h : Cl w b t c) (k : Cl w d u e) (ht : t ≠ u) : b ≠ d := by
  intro e
  subst e
  have := h.symm.trans k
  injection this with this
  injection this with _ this
  exact ht this
theorem Cl.new (w : World) (t : TypeId) (c : List Value) : Cl (w.alloc (.cells c.toArray t)) w.heap.size t c := heap_alloc_new w _

def XB (b : Nat) : Nat → Prop := fun k => k = b
theorem below_new (w : World) (o : Obj) : Below w.heap.size w (w.alloc o) := (Below.refl _ w).alloc (Nat.le_refl _) _
theorem below_drew (w : World) : Below w.heap.size w w.drew := (Below.refl _ w).drew
theorem below_eq {w w' : World} (h : w' = w) : Below w.heap.size w w' := by subst h; exact Below.refl _ _
/-- What a key leads to; a key laid anew; one taken out. -/
def lk : List (Int × Value) → Int → Option Value
  | [], _ => none
  | p :: r, k => if k = p.1 then some p.2 else lk r k
def put (k : Int) (v : Value) : List (Int × Value) → List (Int × Value)
  | [] => [(k, v)]
  | p :: r => if k = p.1 then (k, v) :: r else p :: put k v r
def del (k : Int) : List (Int × Value) → List (Int × Value)
  | [] => []
  | p :: r => if k = p.1 then r else p :: del k r
def keys (es : List (Int × Value)) : List Int := es.map (·.1)
theorem lk_none : ∀ (es : List (Int × Value)) (k : Int), lk es k = none ↔ k ∉ keys es
  | [], k => by simp [lk, keys]
  | p :: r, k => by
    have := lk_none r k
    simp only [lk, keys, List.map_cons, List.mem_cons] at *
    by_cases h : k = p.1
    · simp [h]
    · simp [h, this]
theorem lk_put : ∀ (es : List (Int × Value)) (k j : Int) (v : Value), lk (put k v es) j = if j = k then some v else lk es j
  | [], k, j, v => by simp [put, lk]
  | p :: r, k, j, v => by
    simp only [put]
    by_cases h : k = p.1
    · rw [if_pos h]
      simp only [lk]
      by_cases hj : j = k
      · simp [hj]
      · rw [if_neg hj, if_neg hj, if_neg (by rw [← h]; exact hj)]
    · rw [if_neg h]
      simp only [lk]
      by_cases hj : j = p.1
      · rw [if_pos hj, if_pos hj, if_neg (fun e => h (e.symm.trans hj))]
      · rw [if_neg hj, if_neg hj, lk_put r k j v]
theorem keys_put : ∀ (es : List (Int × Value)) (k : Int) (v : Value) (j : Int), j ∈ keys (put k v es) ↔ j = k ∨ j ∈ keys es
  | [], k, v, j => by simp [put, keys]
  | p :: r, k, v, j => by
    have := keys_put r k v j
    simp only [put]
    by_cases h : k = p.1
    · rw [if_pos h]
      simp only [keys, List.map_cons, List.mem_cons] at *
      rw [← h]
      constructor
      · rintro (e | e)
        · exact .inl e
        · exact .inr (.inr e)
      · rintro (e | e | e)
        · exact .inl e
        · exact .inl e
        · exact .inr e
    · rw [if_neg h]
      simp only [keys, List.map_cons, List.mem_cons] at *
      rw [this]
      constructor
      · rintro (e | e | e)
        · exact .inr (.inl e)
        · exact .inl e
        · exact .inr (.inr e)
      · rintro (e | e | e)
        · exact .inr (.inl e)
        · exact .inl e
        · exact .inr (.inr e)
theorem nodup_put : ∀ (es : List (Int × Value)) (k : Int) (v : Value), (keys es).Nodup → (keys (put k v es)).Nodup
  | [], k, v, _ => by simp [put, keys]
  | p :: r, k, v, h => by
    have hc : p.1 ∉ keys r ∧ (keys r).Nodup := by simpa [keys] using h
    simp only [put]
    by_cases e : k = p.1
    · rw [if_pos e]
      have : (k :: keys r).Nodup := List.nodup_cons.2 ⟨by rw [e]; exact hc.1, hc.2⟩
      exact this
    · rw [if_neg e]
      have : (p.1 :: keys (put k v r)).Nodup := List.nodup_cons.2 ⟨fun m => by
        rcases (keys_put r k v p.1).1 m with m | m
        · exact e m.symm
        · exact hc.1 m, nodup_put r k v hc.2⟩
      exact this
theorem lk_del : ∀ (es : List (Int × Value)) (k j : Int), (keys es).Nodup → lk (del k es) j = if j = k then none else lk es j
  | [], k, j, _ => by simp [del, lk]
  | p :: r, k, j, h => by
    have hc : p.1 ∉ keys r ∧ (keys r).Nodup := by simpa [keys] using h
    simp only [del]
    by_cases e : k = p.1
    · rw [if_pos e]
      simp only [lk]
      by_cases hj : j = k
      · rw [if_pos hj, hj, e]
        exact (lk_none r p.1).2 hc.1
      · rw [if_neg hj, if_neg (by rw [← e]; exact hj)]
    · rw [if_neg e]
      simp only [lk]
      by_cases hj : j = p.1
      · rw [if_pos hj, if_pos hj, if_neg (fun x => e (x.symm.trans hj))]
      · rw [if_neg hj, if_neg hj, lk_del r k j hc.2]
theorem keys_del : ∀ (es : List (Int × Value)) (k j : Int), j ∈ keys (del k es) → j ∈ keys es
  | [], k, j, h => by cases h
  | p :: r, k, j, h => by
    simp only [del] at h
    by_cases e : k = p.1
    · rw [if_pos e] at h
      exact List.mem_cons_of_mem _ h
    · rw [if_neg e] at h
      have h : j ∈ p.1 :: keys (del k r) := h
      rcases List.mem_cons.1 h with h | h
      · rw [h]; exact List.mem_cons_self
      · exact List.mem_cons_of_mem _ (keys_del r k j h)
theorem nodup_del : ∀ (es : List (Int × Value)) (k : Int), (keys es).Nodup → (keys (del k es)).Nodup
  | [], k, _ => by simp [del, keys]
  | p :: r, k, h => by
    have hc : p.1 ∉ keys r ∧ (keys r).Nodup := by simpa [keys] using h
    simp only [del]
    by_cases e : k = p.1
    · rw [if_pos e]; exact hc.2
    · rw [if_neg e]
      have : (p.1 :: keys (del k r)).Nodup := List.nodup_cons.2 ⟨fun m => hc.1 (keys_del r k p.1 m), nodup_del r k hc.2⟩
      exact this
def enV (ik : IntKind) (p : Int × Value) : Value × Value := (.int ik p.1, p.2)
/-- A map in memory. -/
def Mp (w : World) (r : Nat) (ik : IntKind) (es : List (Int × Value)) : Prop := ∃ (arr : Array MapEntry) (clock : Nat), w.heap[r]? = some (.map arr clock) ∧ arr.toList.map (fun e => (e.key, e.val)) = es.map (enV ik) ∧ (arr.toList.map (·.born)).Nodup ∧ ∀ e ∈ arr.toList, e.born < clock
theorem Mp.lt {w : World} {r : Nat} {ik : IntKind} {es : List (Int × Value)} (h : Mp w r ik es) : r < w.heap.size := by
  obtain ⟨_, _, h, _⟩ := h
  exact (Array.getElem?_eq_some_iff.1 h).1
theorem Mp.stay {w w' : World} {r : Nat} {ik : IntKind} {es : List (Int × Value)} {X : Nat → Prop} (h : Mp w r ik es) (k : Apart X w w') (hx : ¬ X r) : Mp w' r ik es := by
  have hl := h.lt
  obtain ⟨arr, c, h1, h2⟩ := h
  exact ⟨arr, c, (k.block r hl hx).trans h1, h2⟩
theorem Mp.below {w w' : World} {r : Nat} {ik : IntKind} {es : List (Int × Value)} (h : Mp w r ik es) (k : Below w.heap.size w w') : Mp w' r ik es := h.stay (Apart.of_below (X := fun _ => False) k) id
theorem Mp.new (w : World) (ik : IntKind) : Mp (w.alloc (.map #[] 0)) w.heap.size ik [] := ⟨#[], 0, heap_alloc_new w _, rfl, by simp, by simp⟩
theorem find_int (ik : IntKind) (k : Int) : ∀ (L : List MapEntry) (es : List (Int × Value)) (i : Nat), L.map (fun e => (e.key, e.val)) = es.map (enV ik) →
    ∃ o, Instr.findNow (.int ik) (.int ik k) L i = some o ∧ ((o = none ∧ lk es k = none ∧ del k es = es ∧ ∀ v, put k v es = es ++ [(k, v)]) ∨ ∃ j v, o = some (i + j, v) ∧ lk es k = some v ∧ j < L.length ∧ es[j]?.map (·.1) = some k ∧ del k es = es.eraseIdx j ∧ ∀ u, put k u es = es.set j (k, u))
  | [], [], i, _ => ⟨none, rfl, .inl ⟨rfl, rfl, rfl, fun _ => rfl⟩⟩
  | [], p :: r, i, h => by cases h
  | e :: L, [], i, h => by cases h
  | e :: L, p :: r, i, h => by
    simp only [List.map_cons, List.cons.injEq, enV, Prod.mk.injEq] at h
    obtain ⟨⟨h1, h2⟩, h3⟩ := h
    by_cases hk : k = p.1
    · refine ⟨some (i, e.val), ?_, .inr ⟨0, e.val, rfl, by simp [lk, hk, h2], by simp, by simp [hk], by simp [del, hk], fun u => by simp [put, hk]⟩⟩
      simp [Instr.findNow, Instr.sameNow, h1, hk]
    · obtain ⟨o, h4, h5⟩ := find_int ik k L r (i + 1) (by simpa [enV] using h3)
      refine ⟨o, ?_, ?_⟩
      · have hb : (k == p.1) = false := by simpa using hk
        simp [Instr.findNow, Instr.sameNow, h1, hb, h4]
      · rcases h5 with ⟨h5, h6, h7, h8⟩ | ⟨j, v, h5, h6, h7, h8, h9, h10⟩
        · exact .inl ⟨h5, by simp [lk, hk, h6], by simp [del, hk, h7], fun v => by simp [put, hk, h8]⟩
        · exact .inr ⟨j + 1, v, by rw [h5]; congr 2; omega, by simp [lk, hk, h6], by simp; omega, by simpa using h8, by simp [del, hk, h9], fun u => by simp [put, hk, h10]⟩
theorem get_map {w : World} {r : Nat} {es : Array MapEntry} {clock : Nat} (hb : w.heap[r]? = some (.map es clock)) : (getObj r).run Try.prog w = .ok (.map es clock) w := by
  simp [getObj, Sem.run, hb]
theorem set_map {w : World} {r : Nat} {es : Array MapEntry} {clock : Nat} (o : Obj) (hb : w.heap[r]? = some (.map es clock)) : (setObj r o).run Try.prog w = .ok () { w with heap := w.heap.setIfInBounds r o } := by
  simp [setObj, Sem.run, hb]
theorem key_ok {kt : TypeId} {ik : IntKind} (hk : Try.prog.underlying kt = some (.int ik)) (w : World) (k : Int) (e : Bool) : (Instr.checkKey e 10000 kt (.int ik k)).run Try.prog w = .ok () w := by
  show (Instr.checkKey e (9999 + 1) kt (.int ik k)).run Try.prog w = _
  rw [Instr.checkKey]
  simp [run_underlying hk]
theorem look_run {w : World} {r : Nat} {ik : IntKind} {es : List (Int × Value)} (h : Mp w r ik es) {t kt et : TypeId} (ht : Try.prog.underlying t = some (.map kt et)) (hk : Try.prog.underlying kt = some (.int ik)) {z : Value} (hz : (zeroValue et).run Try.prog w = .ok z w) (k : Int) :
    (Instr.lookup t (.map (some r)) (.int ik k) true).run Try.prog w = .ok (.tuple #[(lk es k).getD z, .bool (lk es k).isSome]) w := by
  obtain ⟨arr, c, h1, h2, _⟩ := h
  obtain ⟨o, h3, h4⟩ := find_int ik k arr.toList es 0 h2
  simp only [Instr.lookup, Sem.run_bind, run_underlying ht, Result.andThen_ok, get_map h1, Sem.run_pure, key_ok hk, Instr.findKey, run_underlying hk, h3]
  rcases h4 with ⟨rfl, h5, _⟩ | ⟨j, v, rfl, h5, _⟩
  · simp [hz, h5]
  · simp [h5]
theorem apart_put (w : World) (r : Nat) (o : Obj) : Apart (XB r) w { w with heap := w.heap.setIfInBounds r o } :=
  ⟨rfl, rfl, rfl, by simp, fun k hk hx => by
    have : k ≠ r := hx
    simp [Array.getElem?_setIfInBounds_ne (Ne.symm this)]⟩
theorem map_erase {α β : Type} (f : α → β) : ∀ (l : List α) (j : Nat), (l.eraseIdx j).map f = (l.map f).eraseIdx j
  | [], j => by simp
  | a :: r, 0 => by simp
  | a :: r, j + 1 => by simp [map_erase f r j]
theorem put_heap {w : World} {r : Nat} (hl : r < w.heap.size) (o : Obj) : ({ w with heap := w.heap.setIfInBounds r o } : World).heap[r]? = some o := by simp [hl]
theorem upd_run {w : World} {r : Nat} {ik : IntKind} {es : List (Int × Value)} (h : Mp w r ik es) {t kt et : TypeId} (ht : Try.prog.underlying t = some (.map kt et)) (hk : Try.prog.underlying kt = some (.int ik)) (k : Int) (v : Value) :
    ∃ w', (Instr.mapUpdate t (.map (some r)) (.int ik k) v).run Try.prog w = .ok () w' ∧ Mp w' r ik (put k v es) ∧ Apart (XB r) w w' := by
  have hl := h.lt
  obtain ⟨arr, c, h1, h2, hbn, hbc⟩ := h
  obtain ⟨o, h3, h4⟩ := find_int ik k arr.toList es 0 h2
  simp only [Instr.mapUpdate, Sem.run_bind, run_underlying ht, Result.andThen_ok, get_map h1, key_ok hk, Instr.findKey, run_underlying hk, h3, Sem.run_pure]
  rcases h4 with ⟨rfl, h5, _, h7⟩ | ⟨j, u, rfl, h5, h6, h7, _, h9⟩
  · refine ⟨_, set_map _ h1, ⟨_, _, put_heap hl _, ?_, ?_, ?_⟩, apart_put w r _⟩
    · rw [h7]
      simp [h2, enV]
    · rw [Array.toList_push, List.map_append]
      refine List.nodup_append.2 ⟨hbn, by simp, fun a ha b hb => ?_⟩
      obtain ⟨e, he, rfl⟩ := List.mem_map.1 ha
      have hb : b = c := by simpa using hb
      have := hbc e he
      omega
    · intro e he
      rw [Array.toList_push, List.mem_append] at he
      rcases he with he | he
      · have := hbc e he
        omega
      · have he := List.mem_singleton.1 he
        rw [he]
        exact Nat.lt_succ_self _
  · have hkey : (arr[j]?).map (·.key) = some (.int ik k) := by
      have := congrArg (fun l => l[j]?) h2
      simp only [List.getElem?_map] at this
      cases he : es[j]? with
      | none => rw [he] at h7; cases h7
      | some p =>
        rw [he] at h7 this
        simp only [Option.map_some, Option.some.injEq] at h7
        cases ha : arr[j]? with
        | none => rw [Array.getElem?_toList, ha] at this; cases this
        | some q =>
          rw [Array.getElem?_toList, ha] at this
          simp only [Option.map_some, Option.some.injEq, enV, Prod.mk.injEq] at this
          rw [Option.map_some, this.1, h7]
    simp only [Nat.zero_add, hkey, Option.getD_some, Instr.keyThatStays]
    have hsb : Instr.sameBits 10000 (.int ik k) (.int ik k) = true := by
      show Instr.sameBits (9999 + 1) _ _ = true
      unfold Instr.sameBits
      simp
    simp only [hsb, if_true]
    have hborn : (arr.modify j fun e => { e with key := .int ik k, val := v }).toList.map (·.born) = arr.toList.map (·.born) := by
      apply List.ext_getElem?
      intro i
      rw [List.getElem?_map, List.getElem?_map, Array.getElem?_toList, Array.getElem?_modify, Array.getElem?_toList]
      split
      · cases arr[i]? <;> rfl
      · rfl
    refine ⟨_, set_map _ h1, ⟨_, _, put_heap hl _, ?_, by rw [hborn]; exact hbn, fun e he => ?_⟩, apart_put w r _⟩
    rotate_left
    · have hm : e.born ∈ (arr.modify j fun e => { e with key := .int ik k, val := v }).toList.map (·.born) := List.mem_map_of_mem he
      rw [hborn] at hm
      obtain ⟨e', he', hee⟩ := List.mem_map.1 hm
      have := hbc e' he'
      omega
    rw [h9]
    apply List.ext_getElem?
    intro i
    have := congrArg (fun l => l[i]?) h2
    simp only [List.getElem?_map] at this
    rw [List.getElem?_map, List.getElem?_map, Array.getElem?_toList, Array.getElem?_modify, List.getElem?_set]
    rw [Array.getElem?_toList] at this
    have hjl : j < es.length := by
      cases he : es[j]? with
      | none => rw [he] at h7; cases h7
      | some p => exact (List.getElem?_eq_some_iff.1 he).1
    have hja : j < arr.size := by simpa using h6
    by_cases hij : j = i
    · subst hij
      rw [if_pos rfl, if_pos rfl, if_pos hjl, Array.getElem?_eq_getElem hja]
      simp [enV]
    · rw [if_neg hij, if_neg hij]
      exact this
theorem del_run {w : World} {r : Nat} {ik : IntKind} {es : List (Int × Value)} (h : Mp w r ik es) {t kt et ty : TypeId} {ts : TypeId} (ht : Try.prog.underlying t = some (.map kt et)) (hk : Try.prog.underlying kt = some (.int ik)) (k : Int) :
    ∃ w', (Builtin.delete_ #[t, ts] ty #[.map (some r), .int ik k]).run Try.prog w = .ok (.tuple #[]) w' ∧ Mp w' r ik (del k es) ∧ Apart (XB r) w w' := by
  have hl := h.lt
  obtain ⟨arr, c, h1, h2, hbn, hbc⟩ := h
  obtain ⟨o, h3, h4⟩ := find_int ik k arr.toList es 0 h2
  simp only [Builtin.delete_, List.getElem?_toArray, List.getElem?_cons_zero, List.getElem?_cons_succ, Sem.run_bind, run_underlying ht, Result.andThen_ok, get_map h1, key_ok hk, Instr.findKey, run_underlying hk, h3, Sem.run_pure]
  rcases h4 with ⟨rfl, _, h6, _⟩ | ⟨j, u, rfl, _, h6, _, h8, _⟩
  · refine ⟨_, by (simp only [Sem.run_bind, set_map _ h1, Result.andThen_ok, Sem.run_pure]; try rfl), ⟨_, _, put_heap hl _, ?_, hbn, hbc⟩, apart_put w r _⟩
    rw [h6]
    exact h2
  · refine ⟨_, by (simp only [Sem.run_bind, set_map _ h1, Result.andThen_ok, Sem.run_pure]; rfl), ⟨_, _, put_heap hl _, ?_, ?_, fun e he => ?_⟩, apart_put w r _⟩
    rotate_left
    · have hja : 0 + j < arr.size := by simpa using h6
      rw [Array.eraseIdxIfInBounds, dif_pos hja, Array.toList_eraseIdx, map_erase]
      exact List.Nodup.sublist (List.eraseIdx_sublist _ _) hbn
    · have hja : 0 + j < arr.size := by simpa using h6
      rw [Array.eraseIdxIfInBounds, dif_pos hja, Array.toList_eraseIdx] at he
      exact hbc e (List.mem_of_mem_eraseIdx he)
    rw [h8]
    have hja : 0 + j < arr.size := by simpa using h6
    rw [Array.eraseIdxIfInBounds, dif_pos hja, Array.toList_eraseIdx, map_erase, h2, map_erase, Nat.zero_add]
end Go.Proofs.Ytfmcoibpbcheiaa
