/- The law WordParses: its walk. -/
import Derived.Test.YteoappoacapdhabDoorRefD
namespace Go.Proofs.YteoappoacapdhabDoor
open Go.RowKit
set_option linter.unusedVariables false

theorem signO_long (l : List UInt8) (h : 5 < l.length) : signO l = none := by
  obtain ⟨t, x, e, ht⟩ := list_split l (l.length - 1) (by omega)
  rw [e]
  by_cases hx : x = 39
  · subst hx
    have hne : t ≠ [] := by intro g; rw [g] at ht; simp at ht; omega
    obtain ⟨R, K, hd⟩ : ∃ R K, Utf8.decode ⟨t.toArray⟩ 0 = (R, K) := ⟨_, _, rfl⟩
    rw [signO_at t hne R K hd]
    have hsz : (⟨t.toArray⟩ : ByteArray).size = t.length := by show t.toArray.size = _; simp
    have hK : K ≤ 4 := by
      have := (decodeN_le t.length ((⟨t.toArray⟩ : ByteArray).get! 0).toNat ((⟨t.toArray⟩ : ByteArray).get! (0 + 1)).toNat ((⟨t.toArray⟩ : ByteArray).get! (0 + 2)).toNat ((⟨t.toArray⟩ : ByteArray).get! (0 + 3)).toNat (by omega)).2
      rw [Lib.decode_at, hsz, Nat.sub_zero] at hd
      rw [hd] at this
      exact this
    rw [if_pos (Or.inl (by omega))]
  · exact signO_no t x hx
theorem numO_long : ∀ l : List UInt8, l = [] ∨ 6 < l.length → numO l = none
  | [], _ => rfl
  | b :: l, h => by
    have hl : 5 < l.length := by rcases h with h | h; cases h; simp at h; omega
    simp only [numO]
    split
    · unfold hexO; rw [if_pos (Or.inr (by omega))]
    · split
      · exact signO_long l hl
      · split
        · rw [digO_long l hl]; rfl
        · exact digO_long _ (by simp; omega)
end Go.Proofs.YteoappoacapdhabDoor
