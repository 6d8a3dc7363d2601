/- PipeOrder: the walk. -/
import Derived.Test.YtpjnadgjohbhbabLawPiA
namespace Go.Proofs.Ytpjnadgjohbhbab
open Go.RowKit Go.Maps
set_option linter.unusedVariables false
set_option maxRecDepth 100000
/-- Texts, and bytes, as they come in. -/
def Txs (w : World) (v : Value) (l : List (List UInt8)) : Prop := ∃ a cap, v = .slice a l.length cap ∧ ∀ (j : Nat) (x : List UInt8), l[j]? = some x → ∃ g off, a = some ⟨g, off, none⟩ ∧ w.cell? ⟨g, off + j, none⟩ = some (.string ⟨x.toArray⟩)
theorem Txs.below {w w' : World} {v : Value} {l : List (List UInt8)} (h : Txs w v l) (k : Below w.heap.size w w') : Txs w' v l := by
  obtain ⟨a, cap, rfl, hcell⟩ := h
  refine ⟨a, cap, rfl, fun j d hj => ?_⟩
  obtain ⟨g, off, rfl, c0⟩ := hcell j d hj
  exact ⟨g, off, rfl, (k.cell (World.block_lt_of_cell? w _ c0)).trans c0⟩
def Bys (w : World) (v : Value) (l : List Nat) : Prop := ∃ a cap, v = .slice a l.length cap ∧ (∀ x ∈ l, x ≤ 255) ∧ ∀ (j x : Nat), l[j]? = some x → ∃ g off, a = some ⟨g, off, none⟩ ∧ w.cell? ⟨g, off + j, none⟩ = some (.int .u8 x)
theorem Bys.below {w w' : World} {v : Value} {l : List Nat} (h : Bys w v l) (k : Below w.heap.size w w') : Bys w' v l := by
  obtain ⟨a, cap, rfl, hl, hcell⟩ := h
  refine ⟨a, cap, rfl, hl, fun j d hj => ?_⟩
  obtain ⟨g, off, rfl, c0⟩ := hcell j d hj
  exact ⟨g, off, rfl, (k.cell (World.block_lt_of_cell? w _ c0)).trans c0⟩
/-- What a text comes to where somebody reads. -/
theorem wr_open (m k : Nat) : (wrE m 1 k = 12 ∧ wrN m 1 k = 0) ∨ wrE m 1 k = 0 := by
  unfold wrE wrN
  by_cases h1 : k = 0
  · right; simp [h1]
  · by_cases h2 : stuck m k = true
    · left; simp [h1, h2]
    · right; simp [h2]
/-- A round of the law: what is in, what was written, what was read. -/
structure Or (w W : World) (b i : Nat) (I O T : List UInt8) : Prop where
  p : Po w W b T 1 1
  e : O ++ T = I
  n : I.length ≤ 100 * i
theorem Or.lens {w W : World} {b i : Nat} {I O T : List UInt8} (h : Or w W b i I O T) : O.length ≤ 100 * i ∧ T.length ≤ 24 ∧ O.length + T.length = I.length := by
  have := congrArg List.length h.e
  rw [List.length_append] at this
  have := h.n
  exact ⟨by omega, h.p.p.len, by assumption⟩
theorem bsz (l : List UInt8) : (⟨l.toArray⟩ : ByteArray).size = l.length := by simp [ByteArray.size]
end Go.Proofs.Ytpjnadgjohbhbab
