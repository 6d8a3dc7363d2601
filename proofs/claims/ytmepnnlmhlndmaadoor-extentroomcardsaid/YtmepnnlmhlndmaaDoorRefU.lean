/- The document's answers for capabilities. -/
import Derived.Test.YtmepnnlmhlndmaaDoorRefT
namespace Go.Proofs.YtmepnnlmhlndmaaDoor
open Go.RowKit Go.Shelf
set_option linter.unusedVariables false

theorem cover_and (r q : BitVec 8) : (((r &&& q).toNat : Int) == (q.toNat : Int)) = coverB r q := by
  rw [Bool.eq_iff_iff, beq_iff_eq, coverB_iff]
  constructor
  · intro h i hi
    have h1 : r &&& q = q := BitVec.eq_of_toNat_eq (by exact_mod_cast h)
    rw [← h1, BitVec.getLsbD_and, Bool.and_eq_true] at hi
    exact hi.1
  · intro h
    have h1 : r &&& q = q := by
      apply BitVec.eq_of_getLsbD_eq
      intro i hi
      rw [BitVec.getLsbD_and]
      cases hq : q.getLsbD i with
      | false => simp
      | true => rw [h i hq]; rfl
    rw [h1]

theorem rright_any (n : ByteArray) (r : Int) (w : World) (hn : n.size ≤ 1000) (hT : NTabs w) :
    Calls Tryd.prog 66 #[capV n r] w fun e W' => e = .returned (.bool (rightB n.data.toList r)) ∧ Below w.heap.size w W' := by
  unfold rightB capV
  cases h : splitO n.data.toList with
  | none =>
    have cS := fun w hT => rsplit_none n w hn hT h
    clear h
    go_enter Tryd.func66, Tryd.ntmps66
    go_wp2_with fail
    refine (cS _ (hT.later ((Below.refl _ w).alloc (Nat.le_refl _) _))).mono ?_
    rintro e W' ⟨rfl, hB⟩
    rw [World.size_alloc] at hB
    go_wp2
    go_ret
    exact ⟨rfl, ((Below.refl _ w).alloc (Nat.le_refl _) _).trans (hB.mono (by omega))⟩
  | some ls =>
    have cS := fun w hT => rsplit_some n w hn hT h
    clear h
    go_enter Tryd.func66, Tryd.ntmps66
    go_wp2_with fail
    refine (cS _ (hT.later ((Below.refl _ w).alloc (Nat.le_refl _) _))).mono ?_
    rintro e W' ⟨a, cap, rfl, hown, hB⟩
    rw [World.size_alloc] at hB
    obtain ⟨h0, h1⟩ := (CapAt.new w n r _).below hB (by omega)
    clear hown
    go_wp2
    go_ret
    exact ⟨by simp, ((Below.refl _ w).alloc (Nat.le_refl _) _).trans (hB.mono (by omega))⟩



end Go.Proofs.YtmepnnlmhlndmaaDoor
