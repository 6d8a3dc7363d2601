/- The next instruction of a code, and Run: the program. -/
import Derived.Test.YtnknhkkhabnnkaaCpuG
import Derived.Test.YtnknhkkhabnnkaaIsaD
namespace Go.Proofs.Ytnknhkkhabnnkaa
open Go.RowKit
set_option linter.unusedVariables false
set_option maxRecDepth 100000

theorem Bts.four {w : World} {g off n cap : Nat} {bs : List UInt8} (h : Bts w (.slice (some ⟨g, off, none⟩) n cap) bs) (q : Nat) (hq : q + 4 ≤ bs.length) : Bts w (.slice (some ⟨g, off + q, none⟩) 4 (cap - q)) ((bs.drop q).take 4) := by
  obtain ⟨a, cap', hv, hc, hm, hcell⟩ := h
  injection hv with e1 e2 e3
  subst e1 e3
  have hl : ((bs.drop q).take 4).length = 4 := by simp; omega
  refine ⟨some ⟨g, off + q, none⟩, cap - q, by rw [hl], by rw [hl]; omega, by omega, fun j x hx => ?_⟩
  rw [List.getElem?_take] at hx
  split at hx
  · rw [List.getElem?_drop] at hx
    obtain ⟨g', off', e, hcl⟩ := hcell (q + j) x hx
    cases e
    exact ⟨g, off + q, rfl, by rw [Nat.add_assoc]; exact hcl⟩
  · cases hx
/-- The instruction of a code at a place, or the error. -/
def nextP (bs : List UInt8) (pc : Int) : Except Int (Int × Int × Int × Int) :=
  if pc % 4 ≠ 0 ∨ (bs.length : Int) < pc + 4 then .error 10
  else match decO ((bs.drop pc.toNat).take 4) with
    | some i => .ok i
    | none => .error 3
def nextV : Except Int (Int × Int × Int × Int) → Value
  | .ok i => .tuple #[insV4 i, .int .i64 0]
  | .error e => .tuple #[insV 0 0 0 0, .int .i64 e]
end Go.Proofs.Ytnknhkkhabnnkaa
