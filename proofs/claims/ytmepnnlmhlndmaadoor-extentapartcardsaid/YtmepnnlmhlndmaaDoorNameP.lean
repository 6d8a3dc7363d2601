/- What stands above what, and which rights cover which: in order. -/
import Derived.Test.YtmepnnlmhlndmaaDoorNameL
namespace Go.Proofs.YtmepnnlmhlndmaaDoor
open Go.RowKit Go.Shelf
set_option linter.unusedVariables false

theorem alikeN_prefix (xs ys : List (List UInt8)) : alikeN xs ys = xs.length ↔ xs <+: ys := by
  induction xs generalizing ys with
  | nil => simp [alikeN]
  | cons a t ih =>
    cases ys with
    | nil => simp [alikeN]
    | cons b u =>
      simp only [alikeN, List.length_cons, List.cons_prefix_cons]
      split
      · rename_i h
        rw [Nat.add_right_cancel_iff, ih]
        simp [h]
      · rename_i h
        simp [h]
theorem aboveB_iff (a b : List UInt8) : aboveB a b = true ↔ ∃ x y, splitO a = some x ∧ splitO b = some y ∧ x <+: y := by
  unfold aboveB
  cases ha : splitO a with
  | none => simp
  | some x =>
    cases hb : splitO b with
    | none => simp
    | some y =>
      simp only [decide_eq_true_eq, alikeN_prefix, Option.some.injEq]
      constructor
      · intro h; exact ⟨x, y, rfl, rfl, h⟩
      · rintro ⟨x', y', rfl, rfl, h⟩; exact h
theorem above_trans {a b c : List UInt8} (h : aboveB a b = true) (k : aboveB b c = true) : aboveB a c = true := by
  rw [aboveB_iff] at *
  obtain ⟨x, y, hx, hy, hp⟩ := h
  obtain ⟨y', z, hy', hz, hq⟩ := k
  rw [hy] at hy'
  cases hy'
  exact ⟨x, z, hx, hz, hp.trans hq⟩
theorem coverB_iff (r q : BitVec 8) : coverB r q = true ↔ ∀ i, q.getLsbD i = true → r.getLsbD i = true := by
  unfold coverB
  rw [beq_iff_eq]
  constructor
  · intro h i hq
    have h1 := congrArg (fun x => x.getLsbD i) h
    have hi : i < 8 := BitVec.lt_of_getLsbD hq
    simp [hq, hi] at h1
    exact h1
  · intro h
    apply BitVec.eq_of_getLsbD_eq
    intro i hi
    simp only [BitVec.getLsbD_and, BitVec.getLsbD_not, BitVec.getLsbD_zero]
    cases hq : q.getLsbD i with
    | false => simp
    | true => simp [h i hq]
theorem opens_split {n : List UInt8} {r : BitVec 8} {m : List UInt8} {q : BitVec 8} : opensB n r m q = true ↔ rightB n r.toNat = true ∧ rightB m q.toNat = true ∧ aboveB n m = true ∧ coverB r q = true := by
  unfold opensB
  simp only [Bool.and_eq_true]
  constructor
  · rintro ⟨⟨⟨h1, h2⟩, h3⟩, h4⟩; exact ⟨h1, h2, h3, h4⟩
  · rintro ⟨h1, h2, h3, h4⟩; exact ⟨⟨⟨h1, h2⟩, h3⟩, h4⟩
theorem opens_trans {a b c : List UInt8} {r s t : BitVec 8} (h : opensB a r b s = true) (k : opensB b s c t = true) : opensB a r c t = true := by
  rw [opens_split] at *
  refine ⟨h.1, k.2.1, above_trans h.2.2.1 k.2.2.1, ?_⟩
  rw [coverB_iff]
  exact fun i hi => (coverB_iff _ _).1 h.2.2.2 i ((coverB_iff _ _).1 k.2.2.2 i hi)
theorem opens_self (a : List UInt8) (r : BitVec 8) : opensB a r a r = rightB a r.toNat := by
  rw [Bool.eq_iff_iff, opens_split]
  constructor
  · exact fun h => h.1
  · intro h
    refine ⟨h, h, ?_, (coverB_iff _ _).2 fun _ h => h⟩
    rw [aboveB_iff]
    unfold rightB at h
    cases hs : splitO a with
    | none => rw [hs] at h; simp at h
    | some x => exact ⟨x, x, rfl, rfl, List.prefix_refl x⟩

def shortS (s : ByteArray) : ByteArray := if 300 < s.size then s.extract 0 300 else s
theorem shortS_size (s : ByteArray) : (shortS s).size ≤ 300 := by
  unfold shortS
  split
  · simp; omega
  · omega
theorem Two.drew {W : World} {b : Nat} {T : TypeId} {x y : Value} (h : Two W b T x y) : Two W.drew b T x y := h
end Go.Proofs.YtmepnnlmhlndmaaDoor
