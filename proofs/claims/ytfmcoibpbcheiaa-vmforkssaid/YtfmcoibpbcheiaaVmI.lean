/- A map by number is gone through, in whichever order; how many of its values are so. -/
import Derived.Test.YtfmcoibpbcheiaaVmH
import Derived.Maps.RangeRun
import Derived.Maps.RangeWalk
namespace Go.Proofs.Ytfmcoibpbcheiaa
open Go.RowKit Go.Maps
open Go.ChangeMaps (setBlock)
set_option linter.unusedVariables false
set_option maxRecDepth 100000
theorem filt_push (e : MapEntry) (p : Nat → Bool) : ∀ l : List MapEntry, (l.map (·.born)).Nodup → e ∈ l → p e.born = false → (l.filter fun x => p x.born || x.born == e.born).Perm (e :: l.filter fun x => p x.born)
  | [], _, h, _ => by cases h
  | x :: l, hn, h, hp => by
    have hn' : x.born ∉ l.map (·.born) ∧ (l.map (·.born)).Nodup := List.nodup_cons.1 hn
    rcases List.mem_cons.1 h with rfl | h
    · rw [List.filter_cons, if_pos (by simp), List.filter_cons, if_neg (by simp [hp])]
      refine List.Perm.cons _ ?_
      rw [List.filter_congr (q := fun x => p x.born)]
      intro y hy
      have : y.born ≠ e.born := fun c => hn'.1 (by rw [← c]; exact List.mem_map_of_mem hy)
      simp [this]
    · have hne : x.born ≠ e.born := fun c => hn'.1 (by rw [c]; exact List.mem_map_of_mem h)
      have ih := filt_push e p l hn'.2 h hp
      by_cases hx : p x.born = true
      · rw [List.filter_cons, if_pos (by simp [hx]), List.filter_cons, if_pos hx]
        exact (ih.cons x).trans (List.Perm.swap _ _ _)
      · rw [List.filter_cons, if_neg (by simp [hx, hne]), List.filter_cons, if_neg hx]
        exact ih
def kV (z : Int) : Value := .int .i64 z
theorem kV_inj : Function.Injective kV := fun a b h => by injection h
theorem lk_mem : ∀ (es : List (Int × Value)) (z : Int) (v : Value), (keys es).Nodup → (z, v) ∈ es → lk es z = some v
  | [], _, _, _, h => by cases h
  | p :: r, z, v, hn, h => by
    have hc := List.nodup_cons.1 hn
    rcases List.mem_cons.1 h with e | h
    · rw [← e]
      simp [lk]
    · have hm : z ∈ r.map (·.1) := List.mem_map_of_mem (f := (·.1)) h
      have hne : ¬ z = p.1 := fun e => hc.1 (by show p.1 ∈ _; rw [← e]; exact hm)
      simp only [lk, if_neg hne]
      exact lk_mem r z v hc.2 h
theorem keys_lk (es : List (Int × Value)) (z : Int) : z ∈ keys es ↔ lk es z ≠ none := by
  have := lk_none es z
  constructor
  · intro h e
    exact this.1 e h
  · intro h
    by_cases e : z ∈ keys es
    · exact e
    · exact absurd (this.2 e) h
/-- A map that is gone through: those in dn have come. -/
def It (w : World) (r rc : Nat) (f : Int → Option Int) (dn : List Int) : Prop := ∃ (arr : Array MapEntry) (clock : Nat) (seen : Array Nat) (es : List (Int × Value)), w.heap[rc]? = some (.map arr clock) ∧ w.heap[r]? = some (.mapIter (some rc) clock seen clock) ∧ arr.toList.map (fun e => (e.key, e.val)) = es.map (enV .i64) ∧ (arr.toList.map (·.born)).Nodup ∧ (∀ e ∈ arr.toList, e.born < clock) ∧ (dn.map kV).Perm ((arr.toList.filter fun x => seen.contains x.born).map (·.key)) ∧ (keys es).Nodup ∧ (∀ k, lk es k = (f k).map (Value.int .i64)) ∧ seen.size = dn.length
theorem It.stay {w w' : World} {r rc : Nat} {f : Int → Option Int} {dn : List Int} {X : Nat → Prop} (h : It w r rc f dn) (k : Apart X w w') (h1 : ¬ X r) (h2 : ¬ X rc) : It w' r rc f dn := by
  obtain ⟨arr, clock, seen, es, a1, a2, a3⟩ := h
  exact ⟨arr, clock, seen, es, (k.block rc (Array.getElem?_eq_some_iff.1 a1).1 h2).trans a1, (k.block r (Array.getElem?_eq_some_iff.1 a2).1 h1).trans a2, a3⟩
/-- How many have come, read off the world. -/
def itN (w : World) (r : Nat) : Nat := match w.heap[r]? with | some (.mapIter _ _ seen _) => seen.size | _ => 0
theorem It.n {w : World} {r rc : Nat} {f : Int → Option Int} {dn : List Int} (h : It w r rc f dn) : itN w r = dn.length := by
  obtain ⟨arr, clock, seen, es, a1, a2, a3, a4, a5, a6, a7, a8, a9⟩ := h
  simp only [itN, a2]
  exact a9
theorem It.lt {w : World} {r rc : Nat} {f : Int → Option Int} {dn : List Int} (h : It w r rc f dn) : r < w.heap.size := by
  obtain ⟨arr, clock, seen, es, a1, a2, _⟩ := h
  exact (Array.getElem?_eq_some_iff.1 a2).1
theorem keys_eq {arr : Array MapEntry} {es : List (Int × Value)} (h : arr.toList.map (fun e => (e.key, e.val)) = es.map (enV .i64)) : arr.toList.map (·.key) = (keys es).map kV := by
  have := congrArg (List.map Prod.fst) h
  rw [List.map_map, List.map_map] at this
  rw [keys, List.map_map]
  exact this
theorem nodup_of_map {α β : Type} (g : α → β) : ∀ l : List α, (l.map g).Nodup → l.Nodup
  | [], _ => List.nodup_nil
  | a :: l, h => by
    have hc := List.nodup_cons.1 h
    exact List.nodup_cons.2 ⟨fun m => hc.1 (List.mem_map_of_mem m), nodup_of_map g l hc.2⟩
theorem nodup_map {α β : Type} {g : α → β} (hg : Function.Injective g) : ∀ l : List α, l.Nodup → (l.map g).Nodup
  | [], _ => List.nodup_nil
  | a :: l, h => by
    have hc := List.nodup_cons.1 h
    refine List.nodup_cons.2 ⟨fun m => ?_, nodup_map hg l hc.2⟩
    obtain ⟨b, hb, e⟩ := List.mem_map.1 m
    exact hc.1 (by rw [← hg e]; exact hb)
/-- Those that have come are apart, and are keys. -/
theorem It.dn {w : World} {r rc : Nat} {f : Int → Option Int} {dn : List Int} (h : It w r rc f dn) : dn.Nodup ∧ ∀ z ∈ dn, f z ≠ none := by
  obtain ⟨arr, clock, seen, es, a1, a2, a3, a4, a5, a6, a7, a8, a9⟩ := h
  have hk := keys_eq a3
  have hs : (arr.toList.filter fun x => seen.contains x.born).Sublist arr.toList := List.filter_sublist
  have hs2 := hs.map (fun e : MapEntry => e.key)
  rw [hk] at hs2
  have hn : ((keys es).map kV).Nodup := nodup_map kV_inj _ a7
  have hd : (dn.map kV).Nodup := a6.nodup_iff.2 (hn.sublist hs2)
  refine ⟨nodup_of_map kV _ hd, fun z hz e => ?_⟩
  have hm : kV z ∈ (keys es).map kV := hs2.subset (a6.subset (List.mem_map_of_mem hz))
  obtain ⟨y, hy, he⟩ := List.mem_map.1 hm
  rw [kV_inj he] at hy
  have := (keys_lk es z).1 hy
  rw [a8, e] at this
  exact this rfl
theorem It.start {w : World} {rc : Nat} {f : Int → Option Int} (h : Sp w rc f) {t kt et : TypeId} (ht : Try.prog.underlying t = some (.map kt et)) : ∃ o, (Instr.range t (.map (some rc))).run Try.prog w = .ok (.pointer (some ⟨w.heap.size, 0, none⟩)) (w.alloc o) ∧ It (w.alloc o) w.heap.size rc f [] := by
  obtain ⟨es, h, hn, hk⟩ := h
  have hl := h.lt
  obtain ⟨arr, c, h1, h2, h3, h4⟩ := h
  exact ⟨_, run_range_map w t kt et rc arr c ht h1, arr, c, #[], es, (Lib.alloc_old w _ rc hl).trans h1, heap_alloc_new w _, h2, h3, h4, by simp, hn, hk, rfl⟩
/-- The step: nothing is left, or a key comes. -/
theorem It.next {w : World} {r rc : Nat} {f : Int → Option Int} {dn : List Int} (h : It w r rc f dn) (hne : r ≠ rc) (ty : TypeId) :
    ((∀ z, f z ≠ none → z ∈ dn) ∧ (Instr.next (.pointer (some ⟨r, 0, none⟩)) false ty).run Try.prog w = .ok (.tuple #[.bool false]) w) ∨
    ∃ z v w', f z = some v ∧ (Instr.next (.pointer (some ⟨r, 0, none⟩)) false ty).run Try.prog w = .ok (.tuple #[.bool true, .int .i64 z, .int .i64 v]) w' ∧ (Instr.entry (.pointer (some ⟨r, 0, none⟩))).run Try.prog w' = .ok (.tuple #[.int .i64 z, .int .i64 v]) w' ∧ It w' r rc f (dn ++ [z]) ∧ Apart (XB r) w w' ∧ w'.heap.size = w.heap.size := by
  obtain ⟨arr, clock, seen, es, a1, a2, a3, a4, a5, a6, a7, a8, a9⟩ := h
  rcases run_next_at (P := Try.prog) w ty r rc clock clock seen arr clock a2 a1 a5 (Nat.le_refl _) with ⟨h0, hr⟩ | ⟨e, he, w1, hw1, hr⟩
  · refine .inl ⟨fun z hz => ?_, hr⟩
    have hall : arr.toList.filter (fun x => seen.contains x.born) = arr.toList := by
      rw [List.filter_eq_self]
      intro x hx
      cases hc : seen.contains x.born with
      | true => rfl
      | false =>
        have hm : x ∈ leftOf arr seen := Array.mem_filter.2 ⟨Array.mem_toList_iff.1 hx, by rw [hc]; rfl⟩
        have h1 := Array.size_pos_of_mem hm
        omega
    rw [hall, keys_eq a3] at a6
    have hzk : z ∈ keys es := (keys_lk es z).2 (by rw [a8]; intro e; exact hz (Option.map_eq_none_iff.1 e))
    have := a6.symm.subset (List.mem_map_of_mem (f := kV) hzk)
    obtain ⟨y, hy, e⟩ := List.mem_map.1 this
    rw [← kV_inj e]
    exact hy
  · obtain ⟨hm, hs⟩ := mem_left he
    have hk : (e.key, e.val) ∈ es.map (enV .i64) := by rw [← a3]; exact List.mem_map_of_mem (f := fun e : MapEntry => (e.key, e.val)) hm
    obtain ⟨⟨z, u⟩, hz, hzk⟩ := List.mem_map.1 hk
    have hk1 : e.key = kV z := (congrArg Prod.fst hzk).symm
    have hk2 : e.val = u := (congrArg Prod.snd hzk).symm
    have hlk := lk_mem es z u a7 hz
    rw [a8] at hlk
    obtain ⟨v, hv, hvu⟩ := Option.map_eq_some_iff.1 hlk
    have b1 : w1.heap[rc]? = some (.map arr clock) := by rcases hw1 with rfl | rfl <;> exact a1
    have b2 : w1.heap[r]? = some (.mapIter (some rc) clock seen clock) := by rcases hw1 with rfl | rfl <;> exact a2
    have ap1 : Apart (XB r) w w1 := by
      rcases hw1 with rfl | rfl
      · exact Apart.refl _ _
      · exact (Apart.refl _ _).drew
    have sz1 : w1.heap.size = w.heap.size := by rcases hw1 with rfl | rfl <;> rfl
    have c1 : (setBlock w1 r (.mapIter (some rc) clock (seen.push e.born) clock)).heap[rc]? = some (.map arr clock) := ((apart_put w1 r _).block rc (Array.getElem?_eq_some_iff.1 b1).1 (fun c => hne c.symm)).trans b1
    have c2 : (setBlock w1 r (.mapIter (some rc) clock (seen.push e.born) clock)).heap[r]? = some (.mapIter (some rc) clock (seen.push e.born) clock) := put_heap (Array.getElem?_eq_some_iff.1 b2).1 _
    refine .inr ⟨z, v, _, hv, ?_, ?_, ⟨arr, clock, seen.push e.born, es, c1, c2, a3, a4, a5, ?_, a7, a8, by rw [Array.size_push, List.length_append, a9]; rfl⟩, ap1.trans (apart_put w1 r _), ?_⟩
    · rw [hr, hk1, hk2, ← hvu]
      rfl
    · rw [run_entry_at _ r rc clock seen arr clock e c2 c1 hm a4, hk1, hk2, ← hvu]
      rfl
    · have hf : (arr.toList.filter fun x => (seen.push e.born).contains x.born) = arr.toList.filter fun x => seen.contains x.born || x.born == e.born := by
        apply List.filter_congr
        intro x _
        rw [contains_push]
      rw [hf, List.map_append]
      have := (filt_push e (fun b => seen.contains b) arr.toList a4 hm hs).map (·.key)
      rw [List.map_cons, hk1] at this
      exact ((List.perm_append_comm (l₁ := dn.map kV) (l₂ := [z].map kV)).trans (a6.cons _)).trans this.symm
    · show (w1.heap.setIfInBounds r _).size = _
      rw [Array.size_setIfInBounds, sz1]
/-- Numbers below n, each once: there are no more than n. -/
theorem pigeon : ∀ (n : Nat) (l : List Int), l.Nodup → (∀ x ∈ l, 0 ≤ x ∧ x < (n : Int)) → l.length ≤ n
  | 0, l, _, h => by
    cases l with
    | nil => exact Nat.le_refl 0
    | cons a l => have := h a (List.mem_cons_self ..); omega
  | n + 1, l, hn, h => by
    have hl := pigeon n (l.erase (n : Int)) (hn.erase _) (fun x hx => by
      have h1 := h x (List.mem_of_mem_erase hx)
      have h2 : x ≠ (n : Int) := fun e => by
        rw [e] at hx
        exact (hn.mem_erase_iff.1 hx).1 rfl
      omega)
    rw [List.length_erase] at hl
    split at hl <;> omega
/-- How many of the numbers below n are so. -/
def cnN (p : Int → Bool) : Nat → Nat
  | 0 => 0
  | k + 1 => cnN p k + if p (k : Int) = true then 1 else 0
theorem cn_eq (p : Int → Bool) : ∀ (n : Nat) (l : List Int), l.Nodup → (∀ x ∈ l, 0 ≤ x ∧ x < (n : Int)) → (∀ k : Nat, k < n → p (k : Int) = true → (k : Int) ∈ l) → (l.filter p).length = cnN p n
  | 0, l, _, h, _ => by
    cases l with
    | nil => rfl
    | cons a l => have := h a (List.mem_cons_self ..); omega
  | n + 1, l, hn, h, hp => by
    have ih := cn_eq p n (l.erase (n : Int)) (hn.erase _) (fun x hx => by
      have h1 := h x (List.mem_of_mem_erase hx)
      have h2 : x ≠ (n : Int) := fun e => by
        rw [e] at hx
        exact (hn.mem_erase_iff.1 hx).1 rfl
      omega) (fun k hk hpk => hn.mem_erase_iff.2 ⟨by omega, hp k (by omega) hpk⟩)
    unfold cnN
    rw [← ih]
    by_cases hm : (n : Int) ∈ l
    · have := ((List.perm_cons_erase hm).filter p).length_eq
      rw [this, List.filter_cons]
      split <;> simp_all
    · rw [List.erase_of_not_mem hm]
      have : ¬ p (n : Int) = true := fun e => hm (hp n (by omega) e)
      rw [if_neg this, Nat.add_zero]
theorem wpList_rng {ops : Array Oper} {rest : List Oper} {o : Oper} {a : Act} {w w' : World} {Q : Exit → Act → World → Prop} (hgd : o.guard = none) (t : TypeId) (x : Operand) (ho : o.op = .range t x) (xv u : Value) (hx : a.eval x = xv) (hL : (Instr.range t xv).run Try.prog w = .ok u w')
    (h : wpList Try.prog ops Q rest (a.put o.dst u) w') : wpList Try.prog ops Q (o :: rest) a w :=
  wpList_plain hgd fun K hK => by
    unfold Oper.wp
    simp [execOp, ho, hx, hL, Result.andThen]
    exact hK _ _ h
theorem wpList_nxt {ops : Array Oper} {rest : List Oper} {o : Oper} {a : Act} {w w' : World} {Q : Exit → Act → World → Prop} (hgd : o.guard = none) (x : Operand) (ho : o.op = .next x false) (xv u : Value) (hx : a.eval x = xv) (hL : (Instr.next xv false o.type).run Try.prog w = .ok u w')
    (h : wpList Try.prog ops Q rest (a.put o.dst u) w') : wpList Try.prog ops Q (o :: rest) a w :=
  wpList_plain hgd fun K hK => by
    unfold Oper.wp
    simp [execOp, ho, hx, hL, Result.andThen]
    exact hK _ _ h
theorem wpList_ent {ops : Array Oper} {rest : List Oper} {o : Oper} {a : Act} {w w' : World} {Q : Exit → Act → World → Prop} (hgd : o.guard = none) (x : Operand) (ho : o.op = .entry x) (xv u : Value) (hx : a.eval x = xv) (hL : (Instr.entry xv).run Try.prog w = .ok u w')
    (h : wpList Try.prog ops Q rest (a.put o.dst u) w') : wpList Try.prog ops Q (o :: rest) a w :=
  wpList_plain hgd fun K hK => by
    unfold Oper.wp
    simp [execOp, ho, hx, hL, Result.andThen]
    exact hK _ _ h
end Go.Proofs.Ytfmcoibpbcheiaa
