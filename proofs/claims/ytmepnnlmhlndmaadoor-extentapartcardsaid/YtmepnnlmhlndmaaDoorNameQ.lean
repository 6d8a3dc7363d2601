/- What is joined is split again; what a label holds. -/
import Derived.Test.YtmepnnlmhlndmaaDoorNameP
namespace Go.Proofs.YtmepnnlmhlndmaaDoor
open Go.RowKit Go.Shelf
set_option linter.unusedVariables false

theorem width4 (s : ByteArray) (pos : Nat) : (Utf8.decode s pos).2 ≤ 4 := by
  rw [Lib.decode_at s pos]
  obtain ⟨c, k, e, h⟩ := decodeN_form (s.size - pos) (s.get! pos).toNat (s.get! (pos + 1)).toNat (s.get! (pos + 2)).toNat (s.get! (pos + 3)).toNat
  rw [e]
  simp only
  omega
theorem labK_spec (s : ByteArray) : ∀ k pos, labK s k pos = true → (∀ b ∈ s.data.toList.drop pos, b ≠ 47) ∧ s.size ≤ pos + 4 * k
  | 0, pos, h => by
    simp only [labK, decide_eq_true_eq] at h
    rw [List.drop_eq_nil_of_le (by rw [← Lib.size_eq]; omega)]
    exact ⟨by simp, by omega⟩
  | k + 1, pos, h => by
    simp only [labK] at h
    split at h
    · rename_i hp
      rw [Bool.and_eq_true] at h
      obtain ⟨hl, hk⟩ := h
      obtain ⟨i1, i2⟩ := labK_spec s k _ hk
      have hw := width4 s pos
      have h47 : (Utf8.decode s pos).1 ≠ 47 := by
        intro e
        rw [e] at hl
        revert hl
        decide
      have hd := (decode_stroke s pos hp).2.1 h47
      refine ⟨fun b hb => ?_, by omega⟩
      rw [← List.take_append_drop (Utf8.decode s pos).2 (s.data.toList.drop pos), List.drop_drop] at hb
      rcases List.mem_append.1 hb with hb | hb
      · exact hd b hb
      · exact i1 b hb
    · rename_i hp
      rw [List.drop_eq_nil_of_le (by rw [← Lib.size_eq]; omega)]
      exact ⟨by simp, by omega⟩
theorem lab_no47 {x : List UInt8} (h : labB ⟨x.toArray⟩ = true) : ∀ b ∈ x, b ≠ 47 := by
  have := (labK_spec _ 6 0 h).1
  simpa using this
theorem lab_len {x : List UInt8} (h : labB ⟨x.toArray⟩ = true) : x.length ≤ 24 := by
  have := (labK_spec _ 6 0 h).2
  simpa [Lib.size_eq] using this
theorem lab_ne {x : List UInt8} (h : labB ⟨x.toArray⟩ = true) : x ≠ [] := by
  rintro rfl
  revert h
  decide
theorem cutS_join : ∀ (t : List (List UInt8)) (x : List UInt8), (∀ y ∈ t, ∀ b ∈ y, b ≠ 47) → cutS x (joinL t) = x :: t
  | [], x, _ => by simp [joinL, cutS]
  | y :: t, x, h => by
    have e : joinL (y :: t) = 47 :: (y ++ joinL t) := by simp [joinL]
    rw [e]
    simp only [cutS, if_true]
    rw [cutS_pass y [] (joinL t) (h y (by simp)), List.nil_append, cutS_join t y (fun z hz => h z (by simp [hz]))]
theorem splitO_join {ls : List (List UInt8)} (h6 : ls.length ≤ 6) (hne : ls ≠ []) (hg : ∀ x ∈ ls, labB ⟨x.toArray⟩ = true) : splitO (joinL ls) = some ls := by
  cases ls with
  | nil => exact absurd rfl hne
  | cons x t =>
    have e : joinL (x :: t) = 47 :: (x ++ joinL t) := by simp [joinL]
    have hx := hg x (by simp)
    have hn : joinL (x :: t) ≠ [47] := by
      rw [e]
      intro h
      simp at h
      exact lab_ne hx h.1
    unfold splitO
    rw [if_neg hn, if_neg (by rw [e]; simp), e]
    simp only [List.drop_succ_cons, List.drop_zero]
    rw [cutS_pass x [] (joinL t) (lab_no47 hx), List.nil_append, cutS_join t x (fun y hy => lab_no47 (hg y (by simp [hy])))]
    unfold okO
    rw [if_pos ((labelsB_iff _).2 ⟨h6, hg⟩)]
theorem joinO_back {ls : List (List UInt8)} {c : List UInt8} (h : joinO ls = (c, 0)) : splitO c = some ls ∧ c.length ≤ 150 := by
  unfold joinO at h
  split at h
  · cases h
  · rename_i h6
    split at h
    · rename_i h0
      cases h
      subst h0
      exact ⟨by decide, by decide⟩
    · rename_i h0
      split at h
      · rename_i hg
        cases h
        rw [List.all_eq_true] at hg
        refine ⟨splitO_join (by omega) h0 hg, ?_⟩
        have := joinL_len ls 24 (fun x hx => lab_len (hg x hx))
        omega
      · cases h
theorem joinO_len (ls : List (List UInt8)) : (joinO ls).1.length ≤ 150 := by
  unfold joinO
  split
  · simp
  · rename_i h6
    split
    · simp
    · split
      · rename_i hg
        rw [List.all_eq_true] at hg
        have := joinL_len ls 24 (fun x hx => lab_len (hg x hx))
        simp only
        omega
      · simp
theorem childO_len (n l : List UInt8) : (childO n l).1.length ≤ 150 := by
  unfold childO
  cases splitO n with
  | none => simp
  | some ls =>
    simp only
    split
    · exact joinO_len _
    · simp
theorem childO_back {n l c : List UInt8} (h : childO n l = (c, 0)) : ∃ ls, splitO n = some ls ∧ splitO c = some (ls ++ [l]) := by
  unfold childO at h
  cases hs : splitO n with
  | none => rw [hs] at h; cases h
  | some ls =>
    rw [hs] at h
    simp only at h
    split at h
    · exact ⟨ls, rfl, (joinO_back h).1⟩
    · cases h
theorem above_child {n l c g : List UInt8} (h : childO n l = (c, 0)) (k : aboveB c g = true) : aboveB n g = true := by
  obtain ⟨ls, h1, h2⟩ := childO_back h
  rw [aboveB_iff] at *
  obtain ⟨x, y, hx, hy, hp⟩ := k
  rw [h2] at hx
  cases hx
  exact ⟨ls, y, h1, hy, (List.prefix_append _ _).trans hp⟩
/-- What is derived opens no more. -/
theorem derive_less {n l c g : List UInt8} {r s q : BitVec 8} (h : deriveO n r l = (c, s, 0)) (k : opensB c s g q = true) : opensB n r g q = true := by
  unfold deriveO at h
  split at h
  · rename_i hr
    rw [Bool.and_eq_true] at hr
    split at h
    · cases h
    · split at h
      · rename_i h0
        have hc : childO n l = (c, 0) := by
          have e1 : (childO n l).1 = c := congrArg Prod.fst h
          rw [← e1, ← h0]
        have e2 : r = s := congrArg (fun x => x.2.1) h
        subst e2
        rw [opens_split] at *
        exact ⟨hr.1, k.2.1, above_child hc k.2.2.1, k.2.2.2⟩
      · rename_i h0
        exact absurd (congrArg (fun x => x.2.2) h) h0
  · cases h
/-- What is restricted opens no more. -/
theorem restrict_less {n c g : List UInt8} {r x s q : BitVec 8} (h : restrictO n r x = (c, s, 0)) (k : opensB c s g q = true) : opensB n r g q = true := by
  unfold restrictO at h
  split at h
  · rename_i hr
    rw [Bool.and_eq_true] at hr
    have e1 : n = c := congrArg Prod.fst h
    have e2 : r &&& x = s := congrArg (fun x => x.2.1) h
    subst e1 e2
    rw [opens_split] at *
    refine ⟨hr.1, k.2.1, k.2.2.1, (coverB_iff _ _).2 fun i hi => ?_⟩
    have := (coverB_iff _ _).1 k.2.2.2 i hi
    rw [BitVec.getLsbD_and, Bool.and_eq_true] at this
    exact this.1
  · cases h
theorem restrictO_len (n : List UInt8) (r x : BitVec 8) : (restrictO n r x).1.length ≤ n.length := by
  unfold restrictO
  split <;> simp
theorem deriveO_len (n l : List UInt8) (r : BitVec 8) : (deriveO n r l).1.length ≤ 150 := by
  unfold deriveO
  split
  · split
    · simp
    · split
      · exact childO_len n l
      · simp
  · simp
end Go.Proofs.YtmepnnlmhlndmaaDoor
