/- The program's Frames: the keys are gone through in whichever order, and gathered (what the sort makes of them is left open). -/
import Derived.Test.YtknmbecabgencaaRgC
import Derived.Maps.RangeRun
import Derived.Maps.RangeWalk
namespace Go.Proofs.Ytknmbecabgencaa
open Go.RowKit Go.Maps
open Go.ChangeMaps (setBlock)
set_option linter.unusedVariables false
set_option maxRecDepth 100000
def u8V (z : Int) : Value := .int .u8 z
theorem filt_push (e : MapEntry) (p : Nat → Bool) : ∀ l : List MapEntry, (l.map (·.born)).Nodup → e ∈ l → p e.born = false → (l.filter fun x => p x.born || x.born == e.born).Perm (e :: l.filter fun x => p x.born)
  | [], _, h, _ => by cases h
  | x :: l, hn, h, hp => by
    have hn' : x.born ∉ l.map (·.born) ∧ (l.map (·.born)).Nodup := List.nodup_cons.1 hn
    rcases List.mem_cons.1 h with rfl | h
    · rw [List.filter_cons, if_pos (by simp), List.filter_cons, if_neg (by simp [hp])]
      refine List.Perm.cons _ ?_
      rw [List.filter_congr (q := fun x => p x.born)]
      intro y hy
      have : y.born ≠ e.born := fun c => hn'.1 (by rw [← c]; exact List.mem_map_of_mem hy)
      simp [this]
    · have hne : x.born ≠ e.born := fun c => hn'.1 (by rw [c]; exact List.mem_map_of_mem h)
      have ih := filt_push e p l hn'.2 h hp
      by_cases hx : p x.born = true
      · rw [List.filter_cons, if_pos (by simp [hx]), List.filter_cons, if_pos hx]
        exact (ih.cons x).trans (List.Perm.swap _ _ _)
      · rw [List.filter_cons, if_neg (by simp [hx, hne]), List.filter_cons, if_neg hx]
        exact ih
/-- A map that is gone through: of its keys K those in dn have come. -/
def It (w : World) (r rc : Nat) (K dn : List Int) : Prop := ∃ (arr : Array MapEntry) (clock : Nat) (seen : Array Nat), w.heap[rc]? = some (.map arr clock) ∧ w.heap[r]? = some (.mapIter (some rc) clock seen clock) ∧ arr.toList.map (·.key) = K.map u8V ∧ (arr.toList.map (·.born)).Nodup ∧ (∀ e ∈ arr.toList, e.born < clock) ∧ (dn.map u8V).Perm ((arr.toList.filter fun x => seen.contains x.born).map (·.key))
theorem It.stay {w w' : World} {r rc : Nat} {K dn : List Int} {X : Nat → Prop} (h : It w r rc K dn) (k : Apart X w w') (h1 : ¬ X r) (h2 : ¬ X rc) : It w' r rc K dn := by
  obtain ⟨arr, clock, seen, a1, a2, a3⟩ := h
  exact ⟨arr, clock, seen, (k.block rc (Array.getElem?_eq_some_iff.1 a1).1 h2).trans a1, (k.block r (Array.getElem?_eq_some_iff.1 a2).1 h1).trans a2, a3⟩
theorem It.le {w : World} {r rc : Nat} {K dn : List Int} (h : It w r rc K dn) : dn.length ≤ K.length := by
  obtain ⟨arr, clock, seen, a1, a2, a3, a4, a5, a6⟩ := h
  have l1 := a6.length_eq
  have l2 := congrArg List.length a3
  have l3 := List.length_filter_le (fun x : MapEntry => seen.contains x.born) arr.toList
  simp only [List.length_map] at l1 l2
  omega
theorem It.start {w : World} {rc : Nat} {es : List (Int × Value)} (h : Mp w rc .u8 es) {t kt et : TypeId} (ht : Try.prog.underlying t = some (.map kt et)) : ∃ o, (Instr.range t (.map (some rc))).run Try.prog w = .ok (.pointer (some ⟨w.heap.size, 0, none⟩)) (w.alloc o) ∧ It (w.alloc o) w.heap.size rc (keys es) [] := by
  have hl := h.lt
  obtain ⟨arr, c, h1, h2, h3, h4⟩ := h
  refine ⟨_, run_range_map w t kt et rc arr c ht h1, arr, c, #[], (Lib.alloc_old w _ rc hl).trans h1, heap_alloc_new w _, ?_, h3, h4, by simp⟩
  have := congrArg (List.map Prod.fst) h2
  rw [List.map_map, List.map_map] at this
  rw [keys, List.map_map]
  exact this
theorem setBlock_apart (w : World) (r : Nat) (o : Obj) : Apart (XB r) w (setBlock w r o) := apart_put w r o
/-- The step: nothing is left, or a key comes. -/
theorem It.next {w : World} {r rc : Nat} {K dn : List Int} (h : It w r rc K dn) (hne : r ≠ rc) (ty : TypeId) :
    (dn.Perm K ∧ (Instr.next (.pointer (some ⟨r, 0, none⟩)) false ty).run Try.prog w = .ok (.tuple #[.bool false]) w) ∨
    ∃ z ∈ K, ∃ v w', (Instr.next (.pointer (some ⟨r, 0, none⟩)) false ty).run Try.prog w = .ok (.tuple #[.bool true, .int .u8 z, v]) w' ∧ (Instr.entry (.pointer (some ⟨r, 0, none⟩))).run Try.prog w' = .ok (.tuple #[.int .u8 z, v]) w' ∧ It w' r rc K (dn ++ [z]) ∧ Apart (XB r) w w' ∧ w'.heap.size = w.heap.size := by
  obtain ⟨arr, clock, seen, a1, a2, a3, a4, a5, a6⟩ := h
  rcases run_next_at (P := Try.prog) w ty r rc clock clock seen arr clock a2 a1 a5 (Nat.le_refl _) with ⟨h0, hr⟩ | ⟨e, he, w1, hw1, hr⟩
  · refine .inl ⟨?_, hr⟩
    have hall : arr.toList.filter (fun x => seen.contains x.born) = arr.toList := by
      rw [List.filter_eq_self]
      intro x hx
      cases hc : seen.contains x.born with
      | true => rfl
      | false =>
        have hm : x ∈ leftOf arr seen := Array.mem_filter.2 ⟨Array.mem_toList_iff.1 hx, by rw [hc]; rfl⟩
        have h1 := Array.size_pos_of_mem hm
        omega
    rw [hall, a3] at a6
    have := a6.map (fun v => match v with | .int _ z => z | _ => 0)
    rw [List.map_map, List.map_map] at this
    have e1 : ∀ l : List Int, l.map ((fun v => match v with | .int _ z => z | _ => 0) ∘ u8V) = l := fun l => by
      have : ((fun v => match v with | .int _ z => z | _ => 0) ∘ u8V) = id := by funext z; rfl
      rw [this, List.map_id]
    rw [e1, e1] at this
    exact this
  · obtain ⟨hm, hs⟩ := mem_left he
    have hk : e.key ∈ K.map u8V := by rw [← a3]; exact List.mem_map_of_mem hm
    obtain ⟨z, hz, hzk⟩ := List.mem_map.1 hk
    have b1 : w1.heap[rc]? = some (.map arr clock) := by rcases hw1 with rfl | rfl <;> exact a1
    have b2 : w1.heap[r]? = some (.mapIter (some rc) clock seen clock) := by rcases hw1 with rfl | rfl <;> exact a2
    have ap1 : Apart (XB r) w w1 := by
      rcases hw1 with rfl | rfl
      · exact Apart.refl _ _
      · exact (Apart.refl _ _).drew
    have sz1 : w1.heap.size = w.heap.size := by rcases hw1 with rfl | rfl <;> rfl
    have c1 : (setBlock w1 r (.mapIter (some rc) clock (seen.push e.born) clock)).heap[rc]? = some (.map arr clock) := ((setBlock_apart w1 r _).block rc (Array.getElem?_eq_some_iff.1 b1).1 (fun c => hne c.symm)).trans b1
    have c2 : (setBlock w1 r (.mapIter (some rc) clock (seen.push e.born) clock)).heap[r]? = some (.mapIter (some rc) clock (seen.push e.born) clock) := put_heap (Array.getElem?_eq_some_iff.1 b2).1 _
    refine .inr ⟨z, hz, e.val, _, ?_, ?_, ⟨arr, clock, seen.push e.born, c1, c2, a3, a4, a5, ?_⟩, ap1.trans (setBlock_apart w1 r _), ?_⟩
    · rw [hr, ← hzk]
      rfl
    · rw [run_entry_at _ r rc clock seen arr clock e c2 c1 hm a4, ← hzk]
      rfl
    · have hf : (arr.toList.filter fun x => (seen.push e.born).contains x.born) = arr.toList.filter fun x => seen.contains x.born || x.born == e.born := by
        apply List.filter_congr
        intro x _
        rw [contains_push]
      rw [hf, List.map_append]
      have := (filt_push e (fun b => seen.contains b) arr.toList a4 hm hs).map (·.key)
      rw [List.map_cons, ← hzk] at this
      exact ((List.perm_append_comm (l₁ := dn.map u8V) (l₂ := [z].map u8V)).trans (a6.cons _)).trans this.symm
    · show (w1.heap.setIfInBounds r _).size = _
      rw [Array.size_setIfInBounds, sz1]
theorem wpList_rng {ops : Array Oper} {rest : List Oper} {o : Oper} {a : Act} {w w' : World} {Q : Exit → Act → World → Prop} (hgd : o.guard = none) (t : TypeId) (x : Operand) (ho : o.op = .range t x) (xv u : Value) (hx : a.eval x = xv) (hL : (Instr.range t xv).run Try.prog w = .ok u w')
    (h : wpList Try.prog ops Q rest (a.put o.dst u) w') : wpList Try.prog ops Q (o :: rest) a w :=
  wpList_plain hgd fun K hK => by
    unfold Oper.wp
    simp [execOp, ho, hx, hL, Result.andThen]
    exact hK _ _ h
theorem wpList_nxt {ops : Array Oper} {rest : List Oper} {o : Oper} {a : Act} {w w' : World} {Q : Exit → Act → World → Prop} (hgd : o.guard = none) (x : Operand) (ho : o.op = .next x false) (xv u : Value) (hx : a.eval x = xv) (hL : (Instr.next xv false o.type).run Try.prog w = .ok u w')
    (h : wpList Try.prog ops Q rest (a.put o.dst u) w') : wpList Try.prog ops Q (o :: rest) a w :=
  wpList_plain hgd fun K hK => by
    unfold Oper.wp
    simp [execOp, ho, hx, hL, Result.andThen]
    exact hK _ _ h
theorem wpList_ent {ops : Array Oper} {rest : List Oper} {o : Oper} {a : Act} {w w' : World} {Q : Exit → Act → World → Prop} (hgd : o.guard = none) (x : Operand) (ho : o.op = .entry x) (xv u : Value) (hx : a.eval x = xv) (hL : (Instr.entry xv).run Try.prog w = .ok u w')
    (h : wpList Try.prog ops Q rest (a.put o.dst u) w') : wpList Try.prog ops Q (o :: rest) a w :=
  wpList_plain hgd fun K hK => by
    unfold Oper.wp
    simp [execOp, ho, hx, hL, Result.andThen]
    exact hK _ _ h
end Go.Proofs.Ytknmbecabgencaa
