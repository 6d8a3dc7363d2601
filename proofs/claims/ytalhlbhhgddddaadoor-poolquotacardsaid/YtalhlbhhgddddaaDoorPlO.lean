/- A set's numbers, rising: the pure part. -/
import Derived.Test.YtalhlbhhgddddaaDoorPlK
namespace Go.Proofs.YtalhlbhhgddddaaDoor
open Go.RowKit Go.Maps
set_option linter.unusedVariables false
set_option maxRecDepth 100000
/-- The numbers of a set of at most nine. -/
def bitsL (s : Nat) : List Nat := (List.range 9).filter (fun i => s.testBit i)
def tz9 (s : Nat) : Nat := (bitsL s).headD 0
theorem bitsL_step : ∀ s : Nat, s < 512 → s ≠ 0 → bitsL s = tz9 s :: bitsL (s &&& (s - 1)) ∧ tz9 s < 9 ∧ s &&& (s - 1) < s := by decide +kernel
theorem bitsL_len : ∀ s : Nat, s < 512 → (bitsL s).length = pop9 s := by decide +kernel
theorem bitsL_zero : bitsL 0 = [] := by decide +kernel
theorem tz9_bit : ∀ s : Nat, s < 512 → s ≠ 0 → s % 2 ^ (tz9 s + 1) = 2 ^ tz9 s := by decide +kernel
theorem mem_bitsL (s i : Nat) : i ∈ bitsL s ↔ i < 9 ∧ s.testBit i = true := by simp [bitsL]
end Go.Proofs.YtalhlbhhgddddaaDoor
