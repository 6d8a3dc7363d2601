/- The name of any labels; how many labels two rows share. -/
import Derived.Test.YtdegjmceeggldaaNameD
import Derived.Deep.QuietTactic
import Derived.BigQuiet
namespace Go.Proofs.Ytdegjmceeggldaa
open Go.RowKit Go.Shelf
set_option linter.unusedVariables false

theorem Below.drewN {B : Nat} {a w : World} (h : Below B a w) (n : Nat) : Below B a (w.drewN n) := ⟨h.os, h.tape, h.output, h.size, h.block⟩
def alikeN : List (List UInt8) → List (List UInt8) → Nat
  | a :: xs, b :: ys => if a = b then alikeN xs ys + 1 else 0
  | _, _ => 0
theorem alikeN_le (xs ys : List (List UInt8)) : alikeN xs ys ≤ xs.length ∧ alikeN xs ys ≤ ys.length := by
  induction xs generalizing ys with
  | nil => simp [alikeN]
  | cons a t ih =>
    cases ys with
    | nil => simp [alikeN]
    | cons b u =>
      have := ih u
      unfold alikeN
      split <;> simp <;> omega
end Go.Proofs.Ytdegjmceeggldaa
