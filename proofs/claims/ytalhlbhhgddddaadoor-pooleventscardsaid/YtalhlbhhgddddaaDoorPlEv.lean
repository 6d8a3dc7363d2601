/- What events tell of who has which frames. -/
import Derived.Test.YtalhlbhhgddddaaDoorLawPlO
namespace Go.Proofs.YtalhlbhhgddddaaDoor
open Go.RowKit Go.Maps
set_option linter.unusedVariables false
set_option maxRecDepth 100000
/-- Who has what behind events. -/
def rst (h : Nat → Nat → Bool) (x : Nat × Nat × Nat) : Nat → Nat → Bool := fun f e => if f = x.2.2 ∧ e = x.2.1 then decide (x.1 = 1 ∨ x.1 = 2) else h f e
def rep (L : List (Nat × Nat × Nat)) : Nat → Nat → Bool := L.foldl rst (fun _ _ => false)
def some6 (h : Nat → Nat → Bool) (f : Nat) : Bool := h f 0 || h f 1 || h f 2 || h f 3 || h f 4 || h f 5
/-- An event that can be. -/
def okE (h : Nat → Nat → Bool) (x : Nat × Nat × Nat) : Prop := x.2.1 < 6 ∧ x.2.2 < 8 ∧ ((x.1 = 1 ∧ some6 h x.2.2 = false) ∨ (x.1 = 2 ∧ some6 h x.2.2 = true ∧ h x.2.2 x.2.1 = false) ∨ ((x.1 = 3 ∨ x.1 = 4) ∧ h x.2.2 x.2.1 = true))
def evI (x : Nat × Nat × Nat) : Ev := ((x.1 : Int), (x.2.1 : Int), (x.2.2 : Int))
/-- Events tell who has what, and each can be. -/
structure EvOk (q : Ps) : Prop where
  ex : ∃ L : List (Nat × Nat × Nat), q.E = L.map evI ∧ (∀ f, f < 8 → ∀ e, e < 6 → rep L f e = (q.O f).testBit e) ∧ ∀ i x, L[i]? = some x → okE (rep (L.take i)) x
  o : ∀ i, i < 8 → q.O i < 64
theorem rep_snoc (L : List (Nat × Nat × Nat)) (x : Nat × Nat × Nat) : rep (L ++ [x]) = rst (rep L) x := by unfold rep; rw [List.foldl_append]; rfl
theorem some_zero : ∀ x : Nat, x < 64 → (x.testBit 0 || x.testBit 1 || x.testBit 2 || x.testBit 3 || x.testBit 4 || x.testBit 5) = decide (x ≠ 0) := by decide +kernel
theorem some_eq {L : List (Nat × Nat × Nat)} {q : Ps} (h : ∀ f, f < 8 → ∀ e, e < 6 → rep L f e = (q.O f).testBit e) (ho : ∀ i, i < 8 → q.O i < 64) (f : Nat) (hf : f < 8) : some6 (rep L) f = decide (q.O f ≠ 0) := by
  unfold some6
  rw [h f hf 0 (by decide), h f hf 1 (by decide), h f hf 2 (by decide), h f hf 3 (by decide), h f hf 4 (by decide), h f hf 5 (by decide)]
  exact some_zero _ (ho f hf)
/-- One event more. -/
theorem EvOk.more {q q' : Ps} (h : EvOk q) (x : Nat × Nat × Nat) (hE : q'.E = q.E ++ [evI x]) (he : x.2.1 < 6) (hf : x.2.2 < 8) (O' : Nat) (hO' : O' < 64) (hO : q'.O = updN q.O x.2.2 O') (hb : ∀ i, i < 6 → O'.testBit i = if i = x.2.1 then decide (x.1 = 1 ∨ x.1 = 2) else (q.O x.2.2).testBit i)
    (hk : (x.1 = 1 ∧ q.O x.2.2 = 0) ∨ (x.1 = 2 ∧ q.O x.2.2 ≠ 0 ∧ (q.O x.2.2).testBit x.2.1 = false) ∨ ((x.1 = 3 ∨ x.1 = 4) ∧ (q.O x.2.2).testBit x.2.1 = true)) : EvOk q' := by
  obtain ⟨L, h1, h2, h3⟩ := h.ex
  refine ⟨⟨L ++ [x], by rw [hE, h1, List.map_append]; rfl, fun f hf' e he' => ?_, fun i y hy => ?_⟩, fun i hi => ?_⟩
  · rw [rep_snoc, hO]
    unfold rst updN
    by_cases hff : f = x.2.2
    · rw [if_pos hff, hb e he']
      by_cases hee : e = x.2.1
      · rw [if_pos ⟨hff, hee⟩, if_pos hee]
      · rw [if_neg (fun c => hee c.2), if_neg hee, h2 f hf' e he', hff]
    · rw [if_neg (fun c => hff c.1), if_neg hff]
      exact h2 f hf' e he'
  · by_cases hi : i < L.length
    · rw [List.getElem?_append_left hi] at hy
      rw [List.take_append_of_le_length (by omega)]
      exact h3 i y hy
    · have hil : i = L.length := by
        have := (List.getElem?_eq_some_iff.1 hy).1
        rw [List.length_append, List.length_singleton] at this
        omega
      subst hil
      rw [List.getElem?_append_right (Nat.le_refl _), Nat.sub_self] at hy
      cases hy
      rw [List.take_append_of_le_length (Nat.le_refl _), List.take_length]
      refine ⟨he, hf, ?_⟩
      rw [some_eq h2 h.o x.2.2 hf, h2 x.2.2 hf x.2.1 he]
      rcases hk with ⟨a, b⟩ | ⟨a, b, c⟩ | ⟨a, b⟩
      · exact .inl ⟨a, by rw [b]; rfl⟩
      · exact .inr (.inl ⟨a, decide_eq_true b, c⟩)
      · exact .inr (.inr ⟨a, b⟩)
  · rw [hO]
    unfold updN
    split
    · exact hO'
    · exact h.o i hi
theorem EvOk.give {q : Ps} (h : EvOk q) (k e f : Nat) (G : Nat → ByteArray × Int) (he : e < 6) (hf : f < 8) (hk : k = 1 ∧ q.O f = 0 ∨ k = 2 ∧ q.O f ≠ 0 ∧ (q.O f).testBit e = false) : EvOk (giveQ (k : Int) e f ⟨q.O, G, q.M, q.E⟩) :=
  h.more (k, e, f) rfl he hf (q.O f ||| 2 ^ e) (or_lt6 _ e (h.o f hf) he) rfl (fun i _ => by
    rw [or_is]
    by_cases hi : i = e
    · rw [if_pos hi, if_pos hi, decide_eq_true (by rcases hk with h | h <;> simp [h.1])]
    · rw [if_neg hi, if_neg hi]) (by
    rcases hk with ⟨a, b⟩ | ⟨a, b, c⟩
    · exact .inl ⟨a, b⟩
    · exact .inr (.inl ⟨a, b, c⟩))
theorem EvOk.take {q : Ps} (h : EvOk q) (k e f : Nat) (he : e < 6) (hf : f < 8) (hk : k = 3 ∨ k = 4) (hb : (q.O f).testBit e = true) : EvOk (takeQ (k : Int) e f q) :=
  h.more (k, e, f) rfl he hf (clr (q.O f) e) (clr_all _ (h.o f hf) e he).2 rfl (fun i hi => by
    rw [clr_is _ e (h.o f hf) he i hi]
    by_cases hie : i = e
    · rw [if_pos hie, if_pos hie, decide_eq_false (by rcases hk with h | h <;> simp [h])]
    · rw [if_neg hie, if_neg hie]) (.inr (.inr ⟨hk, hb⟩))
theorem EvOk.same {q q' : Ps} (h : EvOk q) (hE : q'.E = q.E) (hO : q'.O = q.O) : EvOk q' := by
  obtain ⟨L, h1, h2, h3⟩ := h.ex
  exact ⟨⟨L, hE.trans h1, by rw [hO]; exact h2, h3⟩, by rw [hO]; exact h.o⟩
theorem EvOk.do {q : Ps} (h : EvOk q) (d : Dd) : EvOk (doQ d q) := by
  unfold doQ
  by_cases h0 : d.k = 0
  · rw [if_pos h0]
    refine h.same ?_ ?_ <;> (unfold qtQ; repeat' split) <;> rfl
  rw [if_neg h0]
  by_cases h1 : d.k = 1
  · rw [if_pos h1]
    unfold grQ
    by_cases hz : grE 8 q d.e d.f (cut3 d.s, (d.r : Int)) = 0
    · rw [if_pos hz]
      unfold grE at hz
      by_cases a1 : 6 ≤ d.e ∨ 8 ≤ d.f
      · rw [if_pos a1] at hz; cases hz
      · rw [if_neg a1] at hz
        by_cases a2 : rightB (cut3 d.s).data.toList (d.r : Int) = false
        · rw [if_pos a2] at hz; cases hz
        · rw [if_neg a2] at hz
          by_cases a3 : q.O d.f ≠ 0
          · rw [if_pos a3] at hz; cases hz
          · exact h.give 1 d.e d.f _ (by omega) (by omega) (.inl ⟨rfl, by omega⟩)
    · rw [if_neg hz]; exact h
  rw [if_neg h1]
  by_cases h2 : d.k = 2
  · rw [if_pos h2]
    unfold shQ
    by_cases hz : shE 8 q d.e d.t d.f = 0
    · rw [if_pos hz]
      unfold shE at hz
      by_cases a1 : (6 ≤ d.e ∨ 6 ≤ d.t) ∨ 8 ≤ d.f
      · rw [if_pos a1] at hz; cases hz
      · rw [if_neg a1, oF_at 8 q d.f (by omega)] at hz
        by_cases a2 : (q.O d.f).testBit d.e = false
        · rw [if_pos a2] at hz; cases hz
        · rw [if_neg a2] at hz
          by_cases a3 : (q.O d.f).testBit d.t = true
          · rw [if_pos a3] at hz; cases hz
          · refine h.give 2 d.t d.f q.G (by omega) (by omega) (.inr ⟨rfl, fun x => ?_, by simpa using a3⟩)
            rw [x, Nat.zero_testBit] at a2
            exact a2 rfl
    · rw [if_neg hz]; exact h
  rw [if_neg h2]
  by_cases h3 : d.k = 3
  · rw [if_pos h3]
    unfold frQ
    by_cases hz : hadE 8 q d.e d.f = 0
    · rw [if_pos hz]
      obtain ⟨b1, b2⟩ := hadE_zero hz
      unfold hadE at hz
      rw [if_neg (by omega), oF_at 8 q d.f b2] at hz
      by_cases a2 : (q.O d.f).testBit d.e = false
      · rw [if_pos a2] at hz; cases hz
      · exact h.take 3 d.e d.f b1 b2 (.inl rfl) (by simpa using a2)
    · rw [if_neg hz]; exact h
  rw [if_neg h3]
  by_cases h4 : d.k = 4
  · rw [if_pos h4]
    unfold rpQ
    by_cases hz : rpE 8 q d.e d.f = 0
    · rw [if_pos hz]
      unfold rpE at hz
      by_cases a1 : hadE 8 q d.e d.f = 0
      · obtain ⟨b1, b2⟩ := hadE_zero a1
        unfold hadE at a1
        rw [if_neg (by omega), oF_at 8 q d.f b2] at a1
        by_cases a2 : (q.O d.f).testBit d.e = false
        · rw [if_pos a2] at a1; cases a1
        · exact h.take 4 d.e d.f b1 b2 (.inr rfl) (by simpa using a2)
      · rw [if_neg a1] at hz; exact (a1 hz).elim
    · rw [if_neg hz]; exact h
  rw [if_neg h4]
  exact h
theorem EvOk.new : EvOk (newP 8) := ⟨⟨[], rfl, fun f _ e _ => by
  show false = (0 : Nat).testBit e
  rw [Nat.zero_testBit], fun i x hx => by simp at hx⟩, fun i _ => by show (0 : Nat) < 64; omega⟩
theorem Rch.ev {i : Nat} {q : Ps} (h : Rch i q) : EvOk q := by
  induction h with
  | zero => exact EvOk.new
  | step d _ ih => exact ih.do d
end Go.Proofs.YtalhlbhhgddddaaDoor
