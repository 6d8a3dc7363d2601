/- The document's own reading of a sign in quotes. -/
import Derived.Test.YteoappoacapdhaaDoorRefQ
namespace Go.Proofs.YteoappoacapdhaaDoor
open Go.RowKit
set_option linter.unusedVariables false

theorem decodeN_le (n b0 b1 b2 b3 : Nat) (hn : 1 ≤ n) : (Lib.decodeN n b0 b1 b2 b3).2 ≤ n ∧ (Lib.decodeN n b0 b1 b2 b3).2 ≤ 4 := by
  unfold Lib.decodeN
  repeat' split
  all_goals (simp only; omega)
/-- A ' behind is no part of a rune. -/
theorem decodeN_quote (m b0 b1 b2 b3 c1 c2 c3 : Nat) (hm : 1 ≤ m) (h1 : 1 < m → c1 = b1) (h2 : 2 < m → c2 = b2) (h3 : 3 < m → c3 = b3) (q1 : m = 1 → c1 = 39) (q2 : m = 2 → c2 = 39) (q3 : m = 3 → c3 = 39) :
    Lib.decodeN (m + 1) b0 c1 c2 c3 = Lib.decodeN m b0 b1 b2 b3 := by
  by_cases m1 : m = 1
  · have := q1 m1; subst this; subst m1
    unfold Lib.decodeN
    simp
  by_cases m2 : m = 2
  · have := q2 m2; have e1 := h1 (by omega); subst this; subst e1; subst m2
    unfold Lib.decodeN
    simp
  by_cases m3 : m = 3
  · have := q3 m3; have e1 := h1 (by omega); have e2 := h2 (by omega); subst this; subst e1; subst e2; subst m3
    unfold Lib.decodeN
    simp
  · rw [h1 (by omega), h2 (by omega), h3 (by omega)]
    unfold Lib.decodeN
    simp only [show 1 < m + 1 by omega, show 2 < m + 1 by omega, show 3 < m + 1 by omega, show 1 < m by omega, show 2 < m by omega, show 3 < m by omega]
theorem get_mk (l : List UInt8) (k : Nat) : (⟨l.toArray⟩ : ByteArray).get! k = l.getD k 0 := by
  show (l.toArray)[k]! = _
  simp only [List.getElem!_toArray, List.getD_eq_getElem?_getD]
  cases h : l[k]? with
  | none => simp [getElem!_def, h]; rfl
  | some x => simp [getElem!_def, h]
theorem decode_quote (l : List UInt8) (hl : l ≠ []) : Utf8.decode ⟨(l ++ [39]).toArray⟩ 0 = Utf8.decode ⟨l.toArray⟩ 0 := by
  rw [Lib.decode_at, Lib.decode_at]
  simp only [get_mk]
  have hp : 0 < l.length := List.length_pos_iff.2 hl
  have s1 : (⟨(l ++ [39]).toArray⟩ : ByteArray).size - 0 = l.length + 1 := by show (l ++ [39]).toArray.size - 0 = _; simp
  have s2 : (⟨l.toArray⟩ : ByteArray).size - 0 = l.length := by show l.toArray.size - 0 = _; simp
  rw [s1, s2]
  have g : ∀ k, k < l.length → (l ++ [39]).getD k 0 = l.getD k 0 := fun k h => by
    simp only [List.getD_eq_getElem?_getD, List.getElem?_append_left h]
  have q : ∀ k, k = l.length → ((l ++ [39]).getD k 0).toNat = 39 := fun k h => by
    subst h; simp
  rw [g 0 hp]
  exact decodeN_quote l.length _ _ _ _ _ _ _ hp (fun h => by rw [g _ h]) (fun h => by rw [g _ h]) (fun h => by rw [g _ h]) (fun h => q _ h.symm) (fun h => q _ h.symm) (fun h => q _ h.symm)

theorem suffix_at (l : List UInt8) (x : UInt8) : Lib.hasSuffix (l ++ [x]) [39] = (x == 39) := by
  show [39].reverse.isPrefixOf (l ++ [x]).reverse = _
  simp only [List.reverse_append, List.reverse_cons, List.reverse_nil, List.nil_append, List.singleton_append, List.isPrefixOf, Bool.and_true]
  rw [Bool.eq_iff_iff, beq_iff_eq, beq_iff_eq]
  exact eq_comm
theorem signO_no (l : List UInt8) (x : UInt8) (h : x ≠ 39) : signO (l ++ [x]) = none := by
  unfold signO
  rw [suffix_at, if_neg (by simp [h])]
theorem signO_at (l : List UInt8) (hl : l ≠ []) (R K : Nat) (hd : Utf8.decode ⟨l.toArray⟩ 0 = (R, K)) :
    signO (l ++ [39]) = if K ≠ l.length ∨ (R = 65533 ∧ K = 1) ∨ R < 32 ∨ 65535 < R ∨ R = 39 then none else some (R : Int) := by
  have hp : 0 < l.length := List.length_pos_iff.2 hl
  have hsz : (⟨l.toArray⟩ : ByteArray).size = l.length := by show l.toArray.size = _; simp
  have hK : K ≤ l.length := by
    have := (decodeN_le l.length ((⟨l.toArray⟩ : ByteArray).get! 0).toNat ((⟨l.toArray⟩ : ByteArray).get! (0 + 1)).toNat ((⟨l.toArray⟩ : ByteArray).get! (0 + 2)).toNat ((⟨l.toArray⟩ : ByteArray).get! (0 + 3)).toNat hp).1
    rw [Lib.decode_at, hsz] at hd
    rw [Nat.sub_zero] at hd
    rw [hd] at this
    exact this
  have ht : Lib.trimSuffix (l ++ [39]) [39] = l := by
    unfold Lib.trimSuffix
    rw [suffix_at]
    simp
  have hv : Lib.validD l = if R = 65533 ∧ K = 1 then false else Lib.validD (l.drop K) := by
    rw [Lib.validD_step l hl]
    have : Lib.decodeL l = (R, K) := hd
    rw [this]
  unfold signO
  rw [suffix_at, ht]
  simp only [beq_self_eq_true, if_true]
  unfold signR
  rw [hsz, hd]
  simp only
  by_cases c1 : K = l.length
  · have hdr : Lib.validD (l.drop K) = true := by rw [c1, List.drop_length]; rfl
    rw [hdr] at hv
    by_cases c2 : R = 65533 ∧ K = 1
    · rw [if_pos c2] at hv
      rw [if_pos (Or.inr hv), if_pos (Or.inr (Or.inl c2))]
    · rw [if_neg c2] at hv
      rw [if_neg (by rintro (g | g); omega; rw [hv] at g; cases g)]
      by_cases c3 : R < 32 ∨ 65535 < R ∨ R = 39
      · rw [if_pos (by omega), if_pos (by omega)]
      · rw [if_neg (by omega), if_neg (by omega)]
  · rw [if_pos (show K ≠ l.length ∨ _ from Or.inl c1)]
    split
    · rfl
    · rw [if_pos (by omega)]

theorem signO_short (l : List UInt8) (h : l.length < 2) : signO l = none := by
  match l, h with
  | [], _ => rfl
  | [x], _ =>
    by_cases hx : x = 39
    · subst hx
      show (if Lib.hasSuffix ([] ++ [39]) [39] then _ else _) = _
      rw [suffix_at]
      rfl
    · exact signO_no [] x hx

theorem list_split (l : List UInt8) (n : Nat) (h : l.length = n + 1) : ∃ (t : List UInt8) (x : UInt8), l = t ++ [x] ∧ t.length = n := by
  have hne : l ≠ [] := by intro e; rw [e] at h; simp at h
  exact ⟨l.dropLast, l.getLast hne, (List.dropLast_concat_getLast hne).symm, by simp [h]⟩

set_option maxHeartbeats 2000000 in
set_option maxRecDepth 100000 in
theorem rparse_quote (s : ByteArray) (w : World) (hp : 0 < s.size) (h6 : s.size ≤ 6) (h : s[0].toNat = 39) (hT : Tabs w) (R : Option Int) (HR : Hid (R = signO (s.data.toList.drop 1))) :
    Calls Tryd.prog 47 #[.string s] w fun e w' => e = .returned (.tuple #[.int .u16 (wordO R), .int .i64 (errO R)]) ∧ Below w.heap.size w w' := by
  have h0 : ((s.size : Int) == 0) = false := by rw [beq_eq_false_iff_ne]; omega
  have h6' : (s.size : Int) ≤ 6 := by omega
  have hz : (s[0].toNat : Int) = 39 := by omega
  have hp' : (0 : Int) < (s.size : Int) := by omega
  have hlen : (s.data.toList.drop 1).length = s.size - 1 := by rw [List.length_drop, ← Lib.size_eq]
  by_cases g : s.size < 3
  · have hR : R = none := by rw [HR.out]; exact signO_short _ (by omega)
    subst hR
    have g' : (s.size : Int) < 3 := by omega
    clear HR hlen hT
    go_enter Tryd.func47, Tryd.ntmps47
    go_wp2
    go_ret2
    exact ⟨rfl, Below.refl _ _⟩
  · obtain ⟨t, x, ht, htl⟩ := list_split (s.data.toList.drop 1) (s.size - 2) (by omega)
    have hlast : s[s.size - 1] = x := by
      have e1 : (s.data.toList.drop 1)[s.size - 2]? = some x := by rw [ht, ← htl]; simp
      rw [List.getElem?_drop, show 1 + (s.size - 2) = s.size - 1 by omega] at e1
      have e2 : s.data.toList[s.size - 1]? = some s[s.size - 1] := by
        rw [List.getElem?_eq_getElem (by rw [← Lib.size_eq]; omega)]; rfl
      rw [e2] at e1
      exact Option.some.inj e1
    have hix : ∀ w, (Instr.index 9 (.string s) (.int .i64 ((s.size : Int) - 1))).run Tryd.prog w = .ok (.int .u8 (x.toNat : Int)) w := fun w => by
      have := run_ix s (s.size - 1) (by omega) w
      rw [hlast, show ((s.size - 1 : Nat) : Int) = (s.size : Int) - 1 by omega] at this
      exact this
    have g' : ¬ (s.size : Int) < 3 := by omega
    by_cases hx : x.toNat = 39
    · have hx' : x = 39 := u8_eq _ _ hx
      subst hx'
      have hTB : s.extract 1 s.size = ⟨(t ++ [39]).toArray⟩ := by
        have e := tail_of s
        rw [ht] at e
        generalize s.extract 1 s.size = E at *
        obtain ⟨⟨l⟩⟩ := E
        simp only at e
        rw [e]
      have hne : t ≠ [] := by intro e; rw [e] at htl; simp at htl; omega
      obtain ⟨Rn, K, hd⟩ : ∃ Rn K, Utf8.decode ⟨t.toArray⟩ 0 = (Rn, K) := ⟨_, _, rfl⟩
      have cT := Tryd.utf8_DecodeRuneInString (s.extract 1 s.size) w hT
      have hgo : Lib.decodeGo (s.extract 1 s.size) = (Rn, K) := by
        rw [hTB]
        unfold Lib.decodeGo
        rw [if_neg (by show ¬ (t ++ [39]).toArray.size = 0; simp), decode_quote t hne, hd]
      rw [hgo] at cT
      have hR := HR.out
      rw [ht, signO_at t hne Rn K hd, htl] at hR
      have hn39 : (((39 : UInt8).toNat : Int) != 39) = false := rfl
      clear HR hlen hT ht hd hgo hTB hne hlast hx
      replace cT : Calls Tryd.prog 53 #[.string (s.extract 1 s.size)] w fun e w' => e = .returned (.tuple #[.int .i32 (Rn : Int), .int .i64 (K : Int)]) ∧ Below w.heap.size w w' := cT
      by_cases c1 : K = s.size - 2
      · have d1 : ((K : Int) != (s.size : Int) - 2) = false := by rw [bne_eq_false_iff_eq]; omega
        by_cases c2 : Rn = 65533 ∧ K = 1
        · rw [if_pos (Or.inr (Or.inl c2))] at hR
          subst hR
          have d2 : ((Rn : Int) == 65533) = true := by rw [c2.1]; rfl
          have d3 : ((K : Int) == 1) = true := by rw [c2.2]; rfl
          clear c2 c1
          go_enter Tryd.func47, Tryd.ntmps47
          go_wp2_with (go_at_call 53; refine cT.mono ?_; rintro e w' ⟨rfl, hb⟩)
          go_ret2
          exact ⟨rfl, hb⟩
        have d23 : (((Rn : Int) == 65533) = true ∧ ((K : Int) == 1) = false) ∨ ((Rn : Int) == 65533) = false := by
          by_cases e1 : Rn = 65533
          · exact Or.inl ⟨by rw [e1]; rfl, by rw [beq_eq_false_iff_ne]; omega⟩
          · exact Or.inr (by rw [beq_eq_false_iff_ne]; omega)
        by_cases c3 : Rn < 32
        · rw [if_pos (by omega)] at hR
          subst hR
          have d4 : (Rn : Int) < 32 := by omega
          clear c2 c1 c3
          rcases d23 with ⟨d2, d3⟩ | d2
          · go_enter Tryd.func47, Tryd.ntmps47
            go_wp2_with (go_at_call 53; refine cT.mono ?_; rintro e w' ⟨rfl, hb⟩)
            go_ret2
            exact ⟨rfl, hb⟩
          · go_enter Tryd.func47, Tryd.ntmps47
            go_wp2_with (go_at_call 53; refine cT.mono ?_; rintro e w' ⟨rfl, hb⟩)
            go_ret2
            exact ⟨rfl, hb⟩
        by_cases c4 : 65535 < Rn
        · rw [if_pos (by omega)] at hR
          subst hR
          have d4 : ¬ (Rn : Int) < 32 := by omega
          have d5 : 65535 < (Rn : Int) := by omega
          clear c2 c1 c3 c4
          rcases d23 with ⟨d2, d3⟩ | d2
          · go_enter Tryd.func47, Tryd.ntmps47
            go_wp2_with (go_at_call 53; refine cT.mono ?_; rintro e w' ⟨rfl, hb⟩)
            go_ret2
            exact ⟨rfl, hb⟩
          · go_enter Tryd.func47, Tryd.ntmps47
            go_wp2_with (go_at_call 53; refine cT.mono ?_; rintro e w' ⟨rfl, hb⟩)
            go_ret2
            exact ⟨rfl, hb⟩
        by_cases c5 : Rn = 39
        · rw [if_pos (by omega)] at hR
          subst hR
          subst c5
          clear c2 c1 c3 c4 d23
          go_enter Tryd.func47, Tryd.ntmps47
          go_wp2_with (go_at_call 53; refine cT.mono ?_; rintro e w' ⟨rfl, hb⟩)
          go_ret2
          exact ⟨rfl, hb⟩
        · rw [if_neg (by omega)] at hR
          have HW : Hid (wordO (some (Rn : Int)) = Rn ∧ errO (some (Rn : Int)) = 0) := by
            simp only [wordO, errO]
            rw [if_pos (by omega), if_pos (by omega)]
            exact ⟨by omega, rfl⟩
          subst hR
          have d4 : ¬ (Rn : Int) < 32 := by omega
          have d5 : ¬ 65535 < (Rn : Int) := by omega
          have d6 : ((Rn : Int) == 39) = false := by rw [beq_eq_false_iff_ne]; omega
          clear c2 c1 c3 c4 c5
          rcases d23 with ⟨d2, d3⟩ | d2
          · go_enter Tryd.func47, Tryd.ntmps47
            go_wp2_with (go_at_call 53; refine cT.mono ?_; rintro e w' ⟨rfl, hb⟩)
            go_ret2
            refine ⟨?_, hb⟩
            rw [HW.out.1, HW.out.2]
            rfl
          · go_enter Tryd.func47, Tryd.ntmps47
            go_wp2_with (go_at_call 53; refine cT.mono ?_; rintro e w' ⟨rfl, hb⟩)
            go_ret2
            refine ⟨?_, hb⟩
            rw [HW.out.1, HW.out.2]
            rfl
      · rw [if_pos (Or.inl c1)] at hR
        subst hR
        have d1 : ((K : Int) != (s.size : Int) - 2) = true := by rw [bne_iff_ne]; omega
        go_enter Tryd.func47, Tryd.ntmps47
        go_wp2_with (go_at_call 53; refine cT.mono ?_; rintro e w' ⟨rfl, hb⟩)
        go_ret2
        exact ⟨rfl, hb⟩
    · have hR : R = none := by rw [HR.out, ht]; exact signO_no t x (fun e => hx (by rw [e]; rfl))
      subst hR
      have hn39 : ((x.toNat : Int) != 39) = true := by rw [bne_iff_ne]; omega
      clear HR hlen hT ht hlast hx
      go_enter Tryd.func47, Tryd.ntmps47
      go_wp2
      go_ret2
      exact ⟨rfl, Below.refl _ _⟩
end Go.Proofs.YteoappoacapdhaaDoor
