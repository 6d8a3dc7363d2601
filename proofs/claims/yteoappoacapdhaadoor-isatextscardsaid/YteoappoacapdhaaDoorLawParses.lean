/- The law WordParses: its walk. -/
import Derived.Test.YteoappoacapdhaaDoorRefD
namespace Go.Proofs.YteoappoacapdhaaDoor
open Go.RowKit
set_option linter.unusedVariables false

theorem signO_long (l : List UInt8) (h : 5 < l.length) : signO l = none := by
  obtain ⟨t, x, e, ht⟩ := list_split l (l.length - 1) (by omega)
  rw [e]
  by_cases hx : x = 39
  · subst hx
    have hne : t ≠ [] := by intro g; rw [g] at ht; simp at ht; omega
    obtain ⟨R, K, hd⟩ : ∃ R K, Utf8.decode ⟨t.toArray⟩ 0 = (R, K) := ⟨_, _, rfl⟩
    rw [signO_at t hne R K hd]
    have hsz : (⟨t.toArray⟩ : ByteArray).size = t.length := by show t.toArray.size = _; simp
    have hK : K ≤ 4 := by
      have := (decodeN_le t.length ((⟨t.toArray⟩ : ByteArray).get! 0).toNat ((⟨t.toArray⟩ : ByteArray).get! (0 + 1)).toNat ((⟨t.toArray⟩ : ByteArray).get! (0 + 2)).toNat ((⟨t.toArray⟩ : ByteArray).get! (0 + 3)).toNat (by omega)).2
      rw [Lib.decode_at, hsz, Nat.sub_zero] at hd
      rw [hd] at this
      exact this
    rw [if_pos (Or.inl (by omega))]
  · exact signO_no t x hx
theorem numO_long : ∀ l : List UInt8, l = [] ∨ 6 < l.length → numO l = none
  | [], _ => rfl
  | b :: l, h => by
    have hl : 5 < l.length := by rcases h with h | h; cases h; simp at h; omega
    simp only [numO]
    split
    · unfold hexO; rw [if_pos (Or.inr (by omega))]
    · split
      · exact signO_long l hl
      · split
        · rw [digO_long l hl]; rfl
        · exact digO_long _ (by simp; omega)
theorem rparse_any (s : ByteArray) (w : World) (hsz : s.size ≤ 9223372036854775807) (hT : Tabs w) :
    Calls Tryd.prog 47 #[.string s] w fun e w' => e = .returned (.tuple #[.int .u16 (wordO (numO s.data.toList)), .int .i64 (errO (numO s.data.toList))]) ∧ Below w.heap.size w w' := by
  by_cases h : s.size = 0 ∨ 6 < s.size
  · have e : numO s.data.toList = none := numO_long _ (by
      rcases h with h | h
      · exact Or.inl (List.eq_nil_of_length_eq_zero (by rw [← Lib.size_eq]; exact h))
      · exact Or.inr (by rw [← Lib.size_eq]; exact h))
    rw [e]
    exact rparse_long s w hsz h
  · have hp : 0 < s.size := by omega
    have hl := head_at s hp
    by_cases h1 : s[0].toNat = 120
    · exact rparse_hex s w hp (by omega) h1 _ (show _ = _ by rw [hl, numO, if_pos h1]; simp)
    by_cases h2 : s[0].toNat = 39
    · exact rparse_quote s w hp (by omega) h2 hT _ (show _ = _ by rw [hl, numO, if_neg h1, if_pos h2]; simp)
    by_cases h3 : s[0].toNat = 45
    · exact rparse_minus s w hp (by omega) h3 _ (show _ = _ by rw [hl, numO, if_neg h1, if_neg h2, if_pos h3]; simp)
    · exact rparse_plain s w hp (by omega) h2 h3 h1 _ (show _ = _ by rw [hl, numO, if_neg h1, if_neg h2, if_neg h3])

end Go.Proofs.YteoappoacapdhaaDoor
