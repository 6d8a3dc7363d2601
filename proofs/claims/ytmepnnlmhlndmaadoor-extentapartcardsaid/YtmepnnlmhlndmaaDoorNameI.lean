/- Rights as letters; a capability as text. -/
import Derived.Test.YtmepnnlmhlndmaaDoorNameH
namespace Go.Proofs.YtmepnnlmhlndmaaDoor
open Go.RowKit Go.Shelf
set_option linter.unusedVariables false

def fiveL : List UInt8 := [114, 119, 120, 103, 100]
def fiveS : ByteArray := ⟨#[114, 119, 120, 103, 100]⟩
/-- The letters of the first k rights. -/
def lettersK (r : BitVec 8) : Nat → List UInt8
  | 0 => []
  | k + 1 => lettersK r k ++ (if r.getLsbD k then [fiveL.getD k 0] else [])
def rightsO (r : BitVec 8) : List UInt8 × Int := if (31 : Int) < r.toNat then ([], 3) else if r = 0#8 then ([45], 0) else (lettersK r 5, 0)
theorem letters_len (r : BitVec 8) : ∀ k, (lettersK r k).length ≤ k
  | 0 => by simp [lettersK]
  | k + 1 => by
    have := letters_len r k
    simp only [lettersK, List.length_append]
    split <;> simp <;> omega
theorem Oth.iter {b j : Nat} {w w' : World} {s : ByteArray} {p : Nat} (h : Oth b w w') (hne : j ≠ b) (hj : w.heap[j]? = some (.stringIter s p)) : w'.heap[j]? = some (.stringIter s p) := by
  refine h j _ hj (fun e => hne (by cases e; rfl)) (fun c fz e => by cases e)

theorem bit_at (r : BitVec 8) (k : Nat) (hk : k < 5) : (bits BinOp.and IntKind.u8 ((r.toNat : Int) / 2 ^ k) 1 == 1) = r.getLsbD k := by
  have e1 : ((r.toNat : Int) / 2 ^ k) = ((r >>> k).toNat : Int) := by
    rw [BitVec.toNat_ushiftRight, Nat.shiftRight_eq_div_pow]
    push_cast
    rfl
  rw [e1, show (1 : Int) = (((1#8 : BitVec 8).toNat : Nat) : Int) from rfl, bits_and8]
  have key : ∀ r : BitVec 8, ∀ k : Fin 5, ((((r >>> k.val) &&& 1#8).toNat : Int) == (((1#8 : BitVec 8).toNat : Nat) : Int)) = r.getLsbD k.val := by decide
  exact key r ⟨k, hk⟩
theorem five_enc (k : Nat) (hk : k < 5) : Lib.encodeRune ((fiveS[k]'hk).toNat : Int) = [fiveL.getD k 0] ∧ (fiveS[k]'hk).toNat < 128 := by
  have key : ∀ k : Fin 5, Lib.encodeRune ((fiveS[k.val]'k.isLt).toNat : Int) = [fiveL.getD k.val 0] ∧ (fiveS[k.val]'k.isLt).toNat < 128 := by decide
  exact key ⟨k, hk⟩

theorem rightsO_len (r : BitVec 8) : (rightsO r).1.length ≤ 5 := by
  have := letters_len r 5
  unfold rightsO
  split
  · simp
  · split
    · simp
    · exact this
theorem cat3 (n : ByteArray) (o : List UInt8) : n ++ (⟨#[32]⟩ : ByteArray) ++ (⟨o.toArray⟩ : ByteArray) = ⟨(n.data.toList ++ 32 :: o).toArray⟩ := by
  apply ByteArray.ext
  apply Array.toList_inj.1
  simp [ByteArray.data_append]
def printO (n : List UInt8) (r : BitVec 8) : List UInt8 × Int := if rightB n r.toNat then (n ++ [32] ++ (rightsO r).1, 0) else ([], 3)
end Go.Proofs.YtmepnnlmhlndmaaDoor
