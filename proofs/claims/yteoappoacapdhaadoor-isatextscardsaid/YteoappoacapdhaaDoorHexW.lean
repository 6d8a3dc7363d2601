/- A word's four digits in hex: the program's, and the document's own. -/
import Derived.Test.YteoappoacapdhaaDoorWords
namespace Go.Proofs.YteoappoacapdhaaDoor
open Go.RowKit
set_option linter.unusedVariables false

def hexT : ByteArray := ⟨#[48, 49, 50, 51, 52, 53, 54, 55, 56, 57, 97, 98, 99, 100, 101, 102]⟩
/-- A digit's letter. -/
def hexB (d : Int) : UInt8 := hexT.data.getD d.toNat 0
def hexV (a : Int) : ByteArray := ⟨#[hexB (a / 4096), hexB (a / 256 % 16), hexB (a / 16 % 16), hexB (a % 16)]⟩
theorem hexB_get (d : Int) (h : d.toNat < hexT.size) : hexT[d.toNat]'h = hexB d := by
  unfold hexB
  simp only [Array.getD]
  rw [dif_pos (show d.toNat < hexT.data.size from h)]
  rfl
theorem hexB_cut (d : Int) (h : 0 ≤ d) (h2 : d < 16) : hexT.extract d.toNat (d + 1).toNat = ⟨#[hexB d]⟩ := by
  have key : ∀ k : Nat, k < 16 → hexT.extract k (k + 1) = ⟨#[hexB (k : Int)]⟩ := by
    refine all16 ?_ ?_ ?_ ?_ ?_ ?_ ?_ ?_ ?_ ?_ ?_ ?_ ?_ ?_ ?_ ?_ <;> rfl
  have := key d.toNat (by omega)
  rw [show ((d.toNat : Nat) : Int) = d by omega] at this
  rw [← this, show (d + 1).toNat = d.toNat + 1 by omega]
theorem rot4 (a : Int) (ha : 0 ≤ a) (ha2 : a ≤ 65535) : rotV a 4 % 16 = a / 4096 ∧ rotV a 8 % 16 = a / 256 % 16 ∧ rotV a 12 % 16 = a / 16 % 16 ∧ rotV a 16 % 16 = a % 16 := by
  refine ⟨?_, ?_, ?_, ?_⟩ <;> (unfold rotV; simp; omega)

end Go.Proofs.YteoappoacapdhaaDoor
