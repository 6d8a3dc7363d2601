/- The program's pool: take, Free, Repossess. -/
import Derived.Test.YtedknoadcdnioaaPlF
namespace Go.Proofs.Ytedknoadcdnioaa
open Go.RowKit Go.Maps
set_option linter.unusedVariables false
set_option maxRecDepth 100000
def clr (x e : Nat) : Nat := if x.testBit e then x - 2 ^ e else x
theorem clr_all : ∀ x : Nat, x < 64 → ∀ e : Nat, e < 6 → bits .andNot .u64 (x : Int) ((2 ^ e : Nat) : Int) = ((clr x e : Nat) : Int) ∧ clr x e < 64 := by decide +kernel
theorem clr_bit : ∀ x : Nat, x < 64 → ∀ e : Nat, e < 6 → ∀ i : Nat, i < 6 → (clr x e).testBit i = (x.testBit i && decide (i ≠ e)) := by decide +kernel
def takeQ (k : Int) (e f : Nat) (q : Ps) : Ps := ⟨updN q.O f (clr (q.O f) e), if clr (q.O f) e = 0 then updN q.G f (.empty, 0) else q.G, q.M, q.E ++ [(k, (e : Int), (f : Int))]⟩
theorem updN_upd {α : Type} (O : Nat → α) (f : Nat) (x y : α) : updN (updN O f x) f y = updN O f y := by
  funext i
  unfold updN
  split <;> rfl
theorem oF_at (n : Nat) (q : Ps) (f : Nat) (hf : f < n) : oF n q f = q.O f := by unfold oF; rw [if_pos hf]
def frE (n : Nat) (q : Ps) (e f : Nat) : Int := hadE n q e f
def frB (n : Nat) (q : Ps) (e f : Nat) : Bool := if hadE n q e f = 0 then decide (clr (q.O f) e = 0) else false
def frQ (n : Nat) (q : Ps) (e f : Nat) : Ps := if hadE n q e f = 0 then takeQ 3 e f q else q
theorem hadE_zero {n : Nat} {q : Ps} {e f : Nat} (h : hadE n q e f = 0) : e < 6 ∧ f < n := by
  unfold hadE at h
  split at h
  · exact absurd h (by decide)
  · omega
def rpE (n : Nat) (q : Ps) (e f : Nat) : Int := if hadE n q e f = 0 then (if pop9 (heldN q.O e n) ≤ 2 then 9 else 0) else hadE n q e f
def rpB (n : Nat) (q : Ps) (e f : Nat) : Bool := if rpE n q e f = 0 then decide (clr (q.O f) e = 0) else false
def rpQ (n : Nat) (q : Ps) (e f : Nat) : Ps := if rpE n q e f = 0 then takeQ 4 e f q else q
end Go.Proofs.Ytedknoadcdnioaa
