/- What a right name is made of; a text cut at its first blank. -/
import Derived.Test.YtbkllkkgnhdibaaNameR
import Derived.Test.YtbkllkkgnhdibaaNameQ
namespace Go.Proofs.Ytbkllkkgnhdibaa
open Go.RowKit Go.Shelf
set_option linter.unusedVariables false

theorem joinL_cutM (cur m : List UInt8) : joinL (cutS cur m) = 47 :: (cur ++ m) := by
  induction m generalizing cur with
  | nil => simp [cutS, joinL]
  | cons b t ih =>
    simp only [cutS]
    split
    · rename_i h
      subst h
      have e : joinL (cur :: cutS [] t) = 47 :: (cur ++ joinL (cutS [] t)) := by simp [joinL]
      rw [e, ih]
      simp
    · rw [ih]
      simp
theorem splitO_form {l : List UInt8} {ls : List (List UInt8)} (h : splitO l = some ls) : l = [47] ∨ l = joinL ls := by
  unfold splitO at h
  split at h
  · rename_i e; exact .inl e
  · split at h
    · cases h
    · rename_i h2
      unfold okO at h
      split at h
      · cases h
        right
        rw [joinL_cutM, List.nil_append]
        cases l with
        | nil => simp at h2
        | cons a t => simp at h2; subst h2; rfl
      · cases h
theorem right_len {n : List UInt8} {r : Int} (h : rightB n r = true) : n.length ≤ 150 := by
  unfold rightB at h
  cases hs : splitO n with
  | none => rw [hs] at h; simp at h
  | some ls =>
    have hq := splitO_some hs
    rcases splitO_form hs with e | e
    · rw [e]; decide
    · have := joinL_len ls 24 (fun x hx => lab_len (hq.2.1 x hx))
      rw [e]
      omega
/-- Of a rune that is a letter no byte is a blank. -/
theorem decode_blank (s : ByteArray) (pos : Nat) (h : pos < s.size) (hc : (Utf8.decode s pos).1 ≠ 32) : ∀ b ∈ (s.data.toList.drop pos).take (Utf8.decode s pos).2, b ≠ 32 := by
  have hd := Lib.decode_at s pos
  have hle := (decode_stroke s pos h).2.2
  obtain ⟨c, k, e, hf⟩ := decodeN_form (s.size - pos) (s.get! pos).toNat (s.get! (pos + 1)).toNat (s.get! (pos + 2)).toNat (s.get! (pos + 3)).toNat
  rw [e] at hd
  rw [hd] at hc hle ⊢
  simp only at hc hle ⊢
  intro b hb
  obtain ⟨j, hj, rfl⟩ := List.getElem_of_mem hb
  have hj' : j < k := by simp at hj; omega
  have hjs : pos + j < s.size := by omega
  have e1 : ((s.data.toList.drop pos).take k)[j] = s.get! (pos + j) := by
    rw [get_list s (pos + j) hjs, List.getElem_take, List.getElem_drop]; rfl
  rw [e1]
  intro g
  have g' : (s.get! (pos + j)).toNat = 32 := by rw [g]; rfl
  match j, hj', g' with
  | 0, _, g' =>
    rw [Nat.add_zero] at g'
    omega
  | 1, hj', g' => omega
  | 2, hj', g' => omega
  | 3, hj', g' => omega
  | j + 4, hj', _ => omega
theorem labK_blank (s : ByteArray) : ∀ k pos, labK s k pos = true → ∀ b ∈ s.data.toList.drop pos, b ≠ 32
  | 0, pos, h => by
    simp only [labK, decide_eq_true_eq] at h
    rw [List.drop_eq_nil_of_le (by rw [← Lib.size_eq]; omega)]
    simp
  | k + 1, pos, h => by
    simp only [labK] at h
    split at h
    · rename_i hp
      rw [Bool.and_eq_true] at h
      obtain ⟨hl, hk⟩ := h
      have i1 := labK_blank s k _ hk
      have h32 : (Utf8.decode s pos).1 ≠ 32 := by
        intro e
        rw [e] at hl
        revert hl
        decide
      have hd := decode_blank s pos hp h32
      intro b hb
      rw [← List.take_append_drop (Utf8.decode s pos).2 (s.data.toList.drop pos), List.drop_drop] at hb
      rcases List.mem_append.1 hb with hb | hb
      · exact hd b hb
      · exact i1 b hb
    · rename_i hp
      rw [List.drop_eq_nil_of_le (by rw [← Lib.size_eq]; omega)]
      simp
theorem right_blank {n : List UInt8} {r : Int} (h : rightB n r = true) : (32 : UInt8) ∉ n := by
  unfold rightB at h
  cases hs : splitO n with
  | none => rw [hs] at h; simp at h
  | some ls =>
    have hq := splitO_some hs
    rcases splitO_form hs with e | e
    · rw [e]; decide
    · rw [e]
      intro hm
      unfold joinL at hm
      obtain ⟨x, hx, hm⟩ := List.mem_flatMap.1 hm
      have := labK_blank _ 6 0 (hq.2.1 x hx)
      rcases List.mem_cons.1 hm with hm | hm
      · revert hm; decide
      · exact this 32 (by simpa using hm) rfl
theorem rightB_bits {n : List UInt8} {r : BitVec 8} (h : rightB n r.toNat = true) : r.toNat < 32 := by
  unfold rightB at h
  rw [Bool.and_eq_true, decide_eq_true_eq] at h
  omega

/-- A text's first blank. -/
def cutB : List UInt8 → Option (List UInt8 × List UInt8)
  | [] => none
  | b :: t => if b = 32 then some ([], t) else (cutB t).map fun o => (b :: o.1, o.2)
theorem cutB_at (q : List UInt8) : ∀ p : List UInt8, (32 : UInt8) ∉ p → cutB (p ++ 32 :: q) = some (p, q)
  | [], _ => by simp [cutB]
  | b :: t, h => by
    have hb : b ≠ 32 := fun e => h (by simp [e])
    simp only [List.cons_append, cutB]
    rw [if_neg hb, cutB_at q t (fun e => h (by simp [e]))]
    rfl
theorem cutB_none : ∀ l : List UInt8, (32 : UInt8) ∉ l → cutB l = none
  | [], _ => rfl
  | b :: t, h => by
    have hb : b ≠ 32 := fun e => h (by simp [e])
    simp only [cutB]
    rw [if_neg hb, cutB_none t (fun e => h (by simp [e]))]
    rfl
theorem index_form : ∀ l : List UInt8, (Lib.indexByte l 32 = -1 ∧ (32 : UInt8) ∉ l) ∨ ∃ p q, l = p ++ 32 :: q ∧ (32 : UInt8) ∉ p ∧ Lib.indexByte l 32 = (p.length : Int)
  | [] => .inl ⟨rfl, by simp⟩
  | b :: t => by
    simp only [Lib.indexByte]
    by_cases hb : b = 32
    · subst hb
      exact .inr ⟨[], t, rfl, by simp, rfl⟩
    · rw [if_neg (by simpa using hb)]
      rcases index_form t with ⟨h1, h2⟩ | ⟨p, q, h1, h2, h3⟩
      · rw [h1]
        exact .inl ⟨rfl, by simp [h2, Ne.symm hb]⟩
      · rw [h3, if_neg (by simp)]
        refine .inr ⟨b :: p, q, by rw [h1]; rfl, by simp [h2, Ne.symm hb], by simp⟩
def parseO (s : List UInt8) : List UInt8 × BitVec 8 × Int := match cutB s with
  | none => ([], 0#8, 3)
  | some o => if (readO o.2).2 = 0 ∧ rightB o.1 ((readO o.2).1.toNat : Int) = true then (o.1, (readO o.2).1, 0) else ([], 0#8, 3)
/-- What was printed is read again. -/
theorem parse_print {n : List UInt8} {r : BitVec 8} (h : rightB n r.toNat = true) : ∃ t, printO n r = (t, 0) ∧ parseO t = (n, r, 0) := by
  have hr := rightB_bits h
  refine ⟨n ++ [32] ++ (rightsO r).1, by unfold printO; rw [if_pos h], ?_⟩
  unfold parseO
  rw [List.append_assoc, List.singleton_append, cutB_at _ n (right_blank h)]
  simp only
  rw [readO_hit r hr, if_pos ⟨rfl, h⟩]
/-- What was read is printed again. -/
theorem print_parse {s n : List UInt8} {r : BitVec 8} (h : parseO s = (n, r, 0)) : printO n r = (s, 0) := by
  unfold parseO at h
  rcases index_form s with ⟨_, h2⟩ | ⟨p, q, rfl, h2, _⟩
  · rw [cutB_none s h2] at h
    cases h
  · rw [cutB_at q p h2] at h
    simp only at h
    split at h
    · rename_i hc
      have e1 : p = n := congrArg Prod.fst h
      have e2 : (readO q).1 = r := congrArg (fun x => x.2.1) h
      subst e1 e2
      unfold printO
      rw [if_pos hc.2]
      have hb := readO_back (s := q) (r := (readO q).1) (by rw [← hc.1])
      rw [hb.2]
      simp
    · cases h
theorem parseO_right {s n : List UInt8} {r : BitVec 8} (h : parseO s = (n, r, 0)) : rightB n r.toNat = true := by
  unfold parseO at h
  split at h
  · cases h
  · split at h
    · rename_i o _ hc
      have e1 : o.1 = n := congrArg Prod.fst h
      have e2 : (readO o.2).1 = r := congrArg (fun x => x.2.1) h
      subst e1 e2
      exact hc.2
    · cases h
end Go.Proofs.Ytbkllkkgnhdibaa
