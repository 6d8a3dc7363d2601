/- The library's sort at uint8: rows, Less, the insertion sort. -/
import Derived.Test.YtknmbecabgencaaRgA
import Derived.BigRegion
namespace Go.Proofs.Ytknmbecabgencaa
open Go.RowKit Go.Maps
set_option linter.unusedVariables false
set_option maxRecDepth 100000
/-- The first n cells of a block are the numbers that f tells. -/
structure Ro (w : World) (g n : Nat) (f : Nat → Int) : Prop where
  r : ∃ arr : Array Value, w.heap[g]? = some (.cells arr 5 (0, 0)) ∧ n ≤ arr.size ∧ ∀ i, i < n → arr[i]? = some (.int .u8 (f i))
theorem Ro.lt {w : World} {g n : Nat} {f : Nat → Int} (h : Ro w g n f) : g < w.heap.size := by
  obtain ⟨_, h1, _⟩ := h.r
  exact (Array.getElem?_eq_some_iff.1 h1).1
theorem Ro.cell {w : World} {g n : Nat} {f : Nat → Int} (h : Ro w g n f) (i : Nat) (hi : i < n) : w.cell? ⟨g, i, none⟩ = some (.int .u8 (f i)) := by
  obtain ⟨arr, h1, _, h3⟩ := h.r
  rw [Lib.cell_of_heap h1]
  exact h3 i hi
theorem Ro.thaw {w : World} {g n : Nat} {f : Nat → Int} (h : Ro w g n f) (i : Nat) : w.frozen? ⟨g, i, none⟩ = false := by
  obtain ⟨arr, h1, _⟩ := h.r
  exact Lib.frozen_of_heap h1 i
theorem Ro.drew {w : World} {g n : Nat} {f : Nat → Int} (h : Ro w g n f) : Ro w.drew g n f := ⟨h.r⟩
def upN (f : Nat → Int) (i : Nat) (x : Int) : Nat → Int := fun j => if j = i then x else f j
theorem Ro.set {w : World} {g n : Nat} {f : Nat → Int} (h : Ro w g n f) (i : Nat) (hi : i < n) (x : Int) : Ro (w.setCell ⟨g, i, none⟩ (.int .u8 x)) g n (upN f i x) := by
  obtain ⟨arr, h1, h2, h3⟩ := h.r
  refine ⟨_, heap_setCell_same _ _ _ _ _ _ h1, by simpa using h2, fun j hj => ?_⟩
  unfold upN
  by_cases e : j = i
  · subst e
    rw [if_pos rfl, Array.getElem?_setIfInBounds_self_of_lt (by omega)]
  · rw [if_neg e, Array.getElem?_setIfInBounds_ne (by omega)]
    exact h3 j hj
/-- Two exchanged. -/
def swF (f : Nat → Int) (i j : Nat) : Nat → Int := fun k => if k = i then f j else if k = j then f i else f k
theorem Ro.swap {w : World} {g n : Nat} {f : Nat → Int} (h : Ro w g n f) (i j : Nat) (hi : i < n) (hj : j < n) : Ro ((w.setCell ⟨g, i, none⟩ (.int .u8 (f j))).setCell ⟨g, j, none⟩ (.int .u8 (f i))) g n (swF f i j) := by
  have := (h.set i hi (f j)).set j hj (f i)
  refine ⟨this.r.elim fun arr ha => ⟨arr, ha.1, ha.2.1, fun k hk => ?_⟩⟩
  rw [ha.2.2 k hk]
  unfold upN swF
  by_cases e1 : k = j
  · subst e1
    by_cases e2 : k = i
    · subst e2
      simp
    · rw [if_pos rfl, if_neg e2, if_pos rfl]
  · rw [if_neg e1]
    by_cases e2 : k = i
    · rw [if_pos e2, if_pos e2]
    · rw [if_neg e2, if_neg e2, if_neg e1]
/-- The same numbers in another order, from a to below b. -/
def Sh (a b : Nat) (f f' : Nat → Int) : Prop := (∃ s t : Nat → Nat, (∀ i, a ≤ i → i < b → (a ≤ s i ∧ s i < b ∧ t (s i) = i) ∧ (a ≤ t i ∧ t i < b ∧ s (t i) = i)) ∧ ∀ i, a ≤ i → i < b → f' i = f (s i)) ∧ ∀ i, i < a ∨ b ≤ i → f' i = f i
theorem Sh.refl (a b : Nat) (f : Nat → Int) : Sh a b f f := ⟨⟨id, id, fun i h1 h2 => ⟨⟨h1, h2, rfl⟩, ⟨h1, h2, rfl⟩⟩, fun _ _ _ => rfl⟩, fun _ _ => rfl⟩
theorem Sh.trans {a b : Nat} {f g h : Nat → Int} (x : Sh a b f g) (y : Sh a b g h) : Sh a b f h := by
  obtain ⟨⟨s, t, h1, h2⟩, h3⟩ := x
  obtain ⟨⟨s', t', k1, k2⟩, k3⟩ := y
  refine ⟨⟨fun i => s (s' i), fun i => t' (t i), fun i hi hj => ?_, fun i hi hj => ?_⟩, fun i hi => by rw [k3 i hi, h3 i hi]⟩
  · obtain ⟨⟨p1, p2, p3⟩, ⟨p4, p5, p6⟩⟩ := k1 i hi hj
    obtain ⟨⟨q1, q2, q3⟩, ⟨q4, q5, q6⟩⟩ := h1 i hi hj
    obtain ⟨⟨r1, r2, r3⟩, _⟩ := h1 (s' i) p1 p2
    obtain ⟨_, ⟨u1, u2, u3⟩⟩ := k1 (t i) q4 q5
    exact ⟨⟨r1, r2, by show t' (t (s (s' i))) = i; rw [r3, p3]⟩, ⟨u1, u2, by show s (s' (t' (t i))) = i; rw [u3, q6]⟩⟩
  · obtain ⟨⟨p1, p2, p3⟩, _⟩ := k1 i hi hj
    rw [k2 i hi hj, h2 (s' i) p1 p2]
theorem Sh.swap (a b : Nat) (f : Nat → Int) (i j : Nat) (i1 : a ≤ i) (i2 : i < b) (j1 : a ≤ j) (j2 : j < b) : Sh a b f (swF f i j) := by
  refine ⟨⟨fun k => if k = i then j else if k = j then i else k, fun k => if k = i then j else if k = j then i else k, fun k hk1 hk2 => ?_, fun k _ _ => ?_⟩, fun k hk => ?_⟩
  · simp only
    by_cases e1 : k = i
    · subst e1
      simp only [if_true]
      by_cases e2 : j = k
      · subst e2; simp; omega
      · simp [e2]; omega
    · by_cases e2 : k = j
      · subst e2
        simp [e1]; omega
      · simp [e1, e2]; omega
  · unfold swF
    simp only
    split
    · rfl
    · split <;> rfl
  · unfold swF
    rw [if_neg (by omega), if_neg (by omega)]
set_option maxHeartbeats 1000000 in
theorem less_any (x y : Int) (w : World) : Calls Try.prog 24 #[.int .u8 x, .int .u8 y] w fun r w' => r = .returned (.bool (decide (x < y))) ∧ w' = w := by
  go_enter Try.func24, Try.ntmps24
  go_wp2
  all_goals (
    go_ret
    first | exact ⟨rfl, rfl⟩ | (refine ⟨?_, rfl⟩; congr 2; simp_all))
end Go.Proofs.Ytknmbecabgencaa
