/- A region that draws its order within a round of a range over a function: a call that makes memory, and a store, in it. -/
import Derived.Test.YtnbmancadaeejaaRounds
import Derived.Deep.RegionHeld
namespace Go.Proofs.Ytnbmancadaeejaa
open Go.RowKit
set_option linter.unusedVariables false
section
variable {P : Program} {ops : Array Oper} {md : Region.Mode} {L m : Nat}
theorem wpOpIn_of_wpOp {i : Nat} {a : Act} {w : World} {K K' Kn : Act → World → Prop} {Q' : Exit → Act → World → Prop} (hd : noDefer ops = true) (h : ∀ a w, K a w → K' a w) (hh : wpOp P ops (fun e a w => e = .normal ∧ Kn a w) i K a w) : wpOpIn (Fence.wide.inRound L) m P ops Q' i K' a w := by
  unfold wpOp at hh
  unfold wpOpIn
  split
  · rename_i ho; simp only [ho] at hh; exact h _ _ hh
  · rename_i o ho
    simp only [ho] at hh
    split
    · rename_i hw
      simp only [hw, if_true] at hh
      rcases hh with hh | ⟨_, _, _, e, _⟩
      · unfold Oper.wp at hh
        refine ⟨fun _ _ => trivial, ?_⟩
        rw [Oper.semAt_plain _ _ _ (noDefer_spec hd ho)]
        generalize (execOp a.eval o).run P w = r at *
        cases r with
        | ok n w' =>
          cases n <;> simp only [Oper.upon] at hh <;> simp only [Oper.uponIn]
          case enter f args =>
            refine ⟨(fun e => by cases e), (CallsIn.inRound L (callsIn_wide.2 hh)).mono fun e w'' he => ?_⟩
            cases e with
            | returned v => exact h _ _ he
            | panicked chain => cases he.1
            | outgrown =>
              obtain ⟨_, _, e, _⟩ := he
              cases e
          case row row args =>
            exact ⟨(fun e => by cases e), fun c cs _ => let ⟨v, w', r, s⟩ := hh c cs; ⟨v, w', h _ _ r, stepsIn_wide.2 s⟩⟩
          all_goals (exact h _ _ hh)
        | halt x w' =>
          cases x <;> simp only [Oper.upon] at hh
          case panic v => cases hh.1
      · cases e
    · rename_i hw; simp only [hw] at hh; exact ⟨fun _ _ => trivial, h _ _ hh⟩
theorem wpAnyIn_of_any {Kn : Act → World → Prop} {Q' : Exit → Act → World → Prop} (hd : noDefer ops = true) (hQ : ∀ a w, Kn a w → Q' .normal a w) : ∀ (fuel : Nat) (listed : Array Bool) (a : Act) (w : World),
    wpAny P md ops (fun e a w => e = .normal ∧ Kn a w) fuel listed a w → wpAnyIn (Fence.wide.inRound L) m P md ops Q' fuel listed a w
  | 0, _, _, _, h => ⟨h.1, hQ _ _ h.2.2⟩
  | fuel + 1, _, _, _, h => ⟨fun h0 => hQ _ _ (h.1 h0).2, fun i hi => wpOpIn_of_wpOp hd (fun a' w' => wpAnyIn_of_any hd hQ fuel _ a' w') (h.2 i hi)⟩
theorem round_held {id : Nat} {Q : Exit → Act → World → Prop} {Kn : Act → World → Prop} {S : World → Prop} {a : Act} {w : World} (hm : P.follows .mixedOrders = true) (hd : noDefer ops = true) (hS : S w.drew) (hQ : ∀ a w, Kn a w → Q .normal a w)
    (h : S w.drew → wpAnyH P .any ops (fun e a w => e = .normal ∧ Kn a w) S ops.size (Array.replicate ops.size false) a w.drew) : (Code.region id ops true).wpIn (Fence.wide.inRound L) m P Q a w :=
  wpIn_region_any hm (wpAnyIn_of_any hd hQ _ _ _ _ (wpAny_of_held _ _ _ _ (h hS)))
end
end Go.Proofs.Ytnbmancadaeejaa
