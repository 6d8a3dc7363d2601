/- The rights that letters say: as the program reads them, letter by letter. -/
import Derived.Test.YtbkllkkgnhdibaaNameI
namespace Go.Proofs.Ytbkllkkgnhdibaa
open Go.RowKit Go.Shelf
set_option linter.unusedVariables false

/-- A letter's bit. -/
def bitR (c : Int) : BitVec 8 := if c = 114 then 1#8 else if c = 119 then 2#8 else if c = 120 then 4#8 else if c = 103 then 8#8 else if c = 100 then 16#8 else 0#8
/-- What letters add, one behind the other. -/
def readB : BitVec 8 → List UInt8 → Option (BitVec 8)
  | a, [] => some a
  | a, b :: t => if (bitR (b.toNat : Int)).toNat ≤ a.toNat then none else readB (a ||| bitR (b.toNat : Int)) t
def readO (s : List UInt8) : BitVec 8 × Int := if s = [45] then (0#8, 0) else match readB 0#8 s with
  | none => (0#8, 3)
  | some a => if a = 0#8 then (0#8, 3) else (a, 0)
def bitsV (o : BitVec 8 × Int) : Value := .tuple #[.int .u8 (o.1.toNat : Int), .int .i64 o.2]

theorem bits_or8 (x y : BitVec 8) : bits BinOp.or IntKind.u8 (x.toNat : Int) (y.toNat : Int) = ((x ||| y).toNat : Int) := by
  show IntKind.u8.wrap ((BitVec.ofInt 8 (x.toNat : Int) ||| (BitVec.ofInt 8 (y.toNat : Int))).toNat : Int) = _
  rw [ofInt8, ofInt8, wrap8]
theorem five_bit (c : Int) (k : Nat) (hk : k < 5) (h : ((fiveS[k]'hk).toNat : Int) = c) : bitR c = 1#8 <<< k := by
  subst h
  have key : ∀ k : Fin 5, bitR ((fiveS[k.val]'k.isLt).toNat : Int) = 1#8 <<< k.val := by decide
  exact key ⟨k, hk⟩
theorem bit_none (c : Int) (h : ∀ j (hj : j < 5), ((fiveS[j]'hj).toNat : Int) ≠ c) : bitR c = 0#8 := by
  have h0 : (114 : Int) ≠ c := h 0 (by omega)
  have h1 : (119 : Int) ≠ c := h 1 (by omega)
  have h2 : (120 : Int) ≠ c := h 2 (by omega)
  have h3 : (103 : Int) ≠ c := h 3 (by omega)
  have h4 : (100 : Int) ≠ c := h 4 (by omega)
  unfold bitR
  rw [if_neg (Ne.symm h0), if_neg (Ne.symm h1), if_neg (Ne.symm h2), if_neg (Ne.symm h3), if_neg (Ne.symm h4)]

theorem read_step (s : ByteArray) (pos : Nat) (h : pos < s.size) : bitR ((Utf8.decode s pos).1 : Int) = bitR ((s[pos]'h).toNat : Int) ∧ (bitR ((Utf8.decode s pos).1 : Int) ≠ 0#8 → (Utf8.decode s pos).2 = 1) := by
  have hd := Lib.decode_at s pos
  obtain ⟨c, k, e, hf⟩ := decodeN_form (s.size - pos) (s.get! pos).toNat (s.get! (pos + 1)).toNat (s.get! (pos + 2)).toNat (s.get! (pos + 3)).toNat
  rw [e] at hd
  rw [hd, ← get_list s pos h]
  have big : ∀ x : Int, 128 ≤ x → bitR x = 0#8 := fun x hx => by
    unfold bitR
    rw [if_neg (by omega), if_neg (by omega), if_neg (by omega), if_neg (by omega), if_neg (by omega)]
  simp only
  rcases hf with ⟨rfl, ⟨rfl, h1⟩ | ⟨rfl, h1⟩⟩ | ⟨rfl, h1, h2, _⟩ | ⟨rfl, h1, h2, _⟩ | ⟨rfl, h1, h2, _⟩
  · exact ⟨rfl, fun _ => rfl⟩
  · rw [big _ (by omega), big _ (by omega)]
    exact ⟨rfl, fun h => absurd rfl h⟩
  · rw [big _ (by omega), big _ (by omega)]
    exact ⟨rfl, fun h => absurd rfl h⟩
  · rw [big _ (by omega), big _ (by omega)]
    exact ⟨rfl, fun h => absurd rfl h⟩
  · rw [big _ (by omega), big _ (by omega)]
    exact ⟨rfl, fun h => absurd rfl h⟩
theorem drop_at (s : ByteArray) (pos : Nat) (h : pos < s.size) : s.data.toList.drop pos = (s[pos]'h) :: s.data.toList.drop (pos + 1) :=
  List.drop_eq_getElem_cons (by rw [← Lib.size_eq]; exact h)

/-- What is read is what would be written. -/
theorem readB_spec : ∀ (l : List UInt8) (a x : BitVec 8), a.toNat < 32 → readB a l = some x → x.toNat < 32 ∧ lettersK x 5 = lettersK a 5 ++ l
  | [], a, x, ha, h => by
    simp only [readB, Option.some.injEq] at h
    subst h
    exact ⟨ha, by simp⟩
  | b :: t, a, x, ha, h => by
    simp only [readB] at h
    split at h
    · cases h
    · rename_i hb
      have hn : bitR (b.toNat : Int) ≠ 0#8 := fun e => hb (by rw [e]; simp)
      have five : ∃ k : Fin 5, b = fiveL.getD k.val 0 := by
        revert hn
        have : ∀ b : Fin 256, bitR ((UInt8.ofNat b.val).toNat : Int) ≠ 0#8 → ∃ k : Fin 5, UInt8.ofNat b.val = fiveL.getD k.val 0 := by decide +kernel
        have h2 := this ⟨b.toNat, b.toNat_lt⟩
        simpa using h2
      obtain ⟨k, rfl⟩ := five
      have key : ∀ a : Fin 32, ∀ k : Fin 5, ¬ (bitR ((fiveL.getD k.val 0).toNat : Int)).toNat ≤ (BitVec.ofNat 8 a.val).toNat →
          (BitVec.ofNat 8 a.val ||| bitR ((fiveL.getD k.val 0).toNat : Int)).toNat < 32 ∧ lettersK (BitVec.ofNat 8 a.val ||| bitR ((fiveL.getD k.val 0).toNat : Int)) 5 = lettersK (BitVec.ofNat 8 a.val) 5 ++ [fiveL.getD k.val 0] := by decide +kernel
      have ea : BitVec.ofNat 8 a.toNat = a := by simp
      have k1 := key ⟨a.toNat, ha⟩ k
      simp only [ea] at k1
      obtain ⟨k2, k3⟩ := k1 hb
      obtain ⟨r1, r2⟩ := readB_spec t _ x k2 h
      exact ⟨r1, by rw [r2, k3]; simp⟩
theorem readO_hit (r : BitVec 8) (h : r.toNat < 32) : readO (rightsO r).1 = (r, 0) := by
  have key : ∀ a : Fin 32, readO (rightsO (BitVec.ofNat 8 a.val)).1 = (BitVec.ofNat 8 a.val, 0) := by decide +kernel
  have := key ⟨r.toNat, h⟩
  simpa using this
theorem readO_back {s : List UInt8} {r : BitVec 8} (h : readO s = (r, 0)) : r.toNat < 32 ∧ rightsO r = (s, 0) := by
  unfold readO at h
  split at h
  · rename_i hs
    subst hs
    cases h
    exact ⟨by decide, by decide⟩
  · cases hb : readB 0#8 s with
    | none => rw [hb] at h; cases h
    | some a =>
      rw [hb] at h
      simp only at h
      split at h
      · cases h
      · rename_i h0
        cases h
        obtain ⟨h1, h2⟩ := readB_spec s 0#8 r (by decide) hb
        refine ⟨h1, ?_⟩
        unfold rightsO
        rw [if_neg (by omega), if_neg h0, h2]
        rfl
theorem readO_err (s : List UInt8) : (readO s).2 = 0 ∨ readO s = (0#8, 3) := by
  unfold readO
  repeat' split
  all_goals simp
theorem readO_miss {s : List UInt8} (h : ∀ j, j < 32 → (rightsO (BitVec.ofNat 8 j)).1 ≠ s) : readO s = (0#8, 3) := by
  rcases readO_err s with h0 | h0
  · obtain ⟨h1, h2⟩ := readO_back (s := s) (r := (readO s).1) (by rw [← h0])
    exact absurd (by simpa using congrArg Prod.fst h2) (h _ h1)
  · exact h0
theorem rightsO_ok (r : BitVec 8) : (rightsO r).2 = 0 ↔ r.toNat < 32 := by
  unfold rightsO
  split
  · rename_i h
    simp
    omega
  · rename_i h
    split <;> simp <;> omega
end Go.Proofs.Ytbkllkkgnhdibaa
