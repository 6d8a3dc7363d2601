/- The program's pipe: Write, Read, Text, Fork. -/
import Derived.Test.YtpjnadgjohbhbabPiE
namespace Go.Proofs.Ytpjnadgjohbhbab
open Go.RowKit Go.Maps
set_option linter.unusedVariables false
set_option maxRecDepth 100000
/-- Nothing of it may be written now: m bytes are in it, k are to be written. -/
def stuck (m k : Nat) : Bool := decide (24 - m = 0) || (decide (k ≤ 8) && decide (24 - m < k))
def wrN (m rd k : Nat) : Nat := if rd = 0 then 0 else if stuck m k then 0 else min k (24 - m)
def wrE (m rd k : Nat) : Int := if rd = 0 then 9 else if k = 0 then 0 else if stuck m k then 12 else 0
theorem wrN_le (m rd k : Nat) : wrN m rd k ≤ k := by
  unfold wrN
  split
  · omega
  · split <;> omega
theorem wrN_room (m rd k : Nat) (hm : m ≤ 24) : m + wrN m rd k ≤ 24 := by
  unfold wrN
  split
  · omega
  · split <;> omega
theorem str_nil : ((⟨([] : List UInt8).toArray⟩ : ByteArray) == ⟨#[]⟩) = true := by decide
set_option maxHeartbeats 4000000 in
theorem write_any (B b : Nat) (T : List UInt8) (rd wr : Nat) (l : List UInt8) (hl : l.length ≤ 1000) (w : World) (h : Pp B w b T rd wr) : Calls Try.prog 7 #[.pointer (some ⟨b, 0, none⟩), .string ⟨l.toArray⟩] w fun r w' => r = .returned (.tuple #[.int .i64 (wrN T.length rd l.length), .int .i64 (wrE T.length rd l.length)]) ∧ PStp B w w' b (T ++ l.take (wrN T.length rd l.length)) rd wr := by
  obtain ⟨f, hp⟩ := h.cells
  have cT := times_any b 26 rd w hp.c26
  have hm := h.len
  have cR := room_any b f T.length rd wr hm w hp
  have H := Hid3.mk h
  by_cases h0 : rd = 0
  · subst h0
    have e1 : wrN T.length 0 l.length = 0 := by simp [wrN]
    have e2 : wrE T.length 0 l.length = 9 := by simp [wrE]
    rw [e1, e2, List.take_zero, List.append_nil]
    clear hp cR h
    go_enter Try.func7, Try.ntmps7
    go_wp2_with fail
    refine cT.mono ?_
    rintro r W ⟨rfl, rfl⟩
    go_wp2
    go_ret2
    exact ⟨rfl, PStp.same H.out (Below.refl _ _)⟩
  have h0z : ¬ (rd : Int) = 0 := by omega
  have h0b : ((rd : Int) == 0) = false := by simpa using h0
  cases l with
  | nil =>
    have e1 : wrN T.length rd ([] : List UInt8).length = 0 := by unfold wrN; rw [if_neg h0]; split <;> simp
    have e2 : wrE T.length rd ([] : List UInt8).length = 0 := by simp [wrE, h0]
    rw [e1, e2, List.take_zero, List.append_nil]
    clear hp cR h
    go_enter Try.func7, Try.ntmps7
    go_wp2_with fail
    refine cT.mono ?_
    rintro r W ⟨rfl, rfl⟩
    go_wp2
    go_ret2
    exact ⟨rfl, PStp.same H.out (Below.refl _ _)⟩
  | cons c cs =>
    obtain ⟨l, hL⟩ : ∃ l, l = c :: cs := ⟨_, rfl⟩
    rw [← hL] at hl ⊢
    have hne2 : (l == []) = false := by rw [hL]; rfl
    have hne3 : ¬ l = [] := by rw [hL]; simp
    obtain ⟨k, hk⟩ : ∃ k : Nat, k = l.length := ⟨_, rfl⟩
    have hk0 : k ≠ 0 := by rw [hk, hL]; simp
    rw [← hk] at hl ⊢
    have hsz : (⟨l.toArray⟩ : ByteArray).size = k := by rw [hk]; simp [ByteArray.size]
    have HK := Hid3.mk hk
    obtain ⟨m, hM⟩ : ∃ m : Nat, m = T.length := ⟨_, rfl⟩
    rw [← hM] at cR hm ⊢
    obtain ⟨q, hq⟩ : ∃ q : Nat, q = 24 - m := ⟨_, rfl⟩
    rw [← hq] at cR
    have HM := Hid3.mk hM
    by_cases hs : stuck m k = true
    · have e1 : wrN m rd k = 0 := by simp [wrN, h0, hs]
      have e2 : wrE m rd k = 12 := by simp [wrE, h0, hs, hk0]
      rw [e1, e2, List.take_zero, List.append_nil]
      unfold stuck at hs
      rw [← hq] at hs
      by_cases hz : q = 0
      · have hz1 : ((q : Int) == 0) = true := by simpa using hz
        have hz2 : (q : Int) = 0 := by omega
        clear hp h hs hL hk hM hq hz
        go_enter Try.func7, Try.ntmps7
        go_wp2_with fail
        refine cT.mono ?_
        rintro r W ⟨rfl, rfl⟩
        clear cT
        go_wp2_with fail
        refine cR.mono ?_
        rintro r W ⟨rfl, rfl⟩
        go_wp2
        go_ret2
        exact ⟨rfl, PStp.same H.out (Below.refl _ _)⟩
      · have hz1 : ((q : Int) == 0) = false := by simpa using hz
        have hz2 : ¬ (q : Int) = 0 := by omega
        simp only [hz, decide_false, Bool.false_or, Bool.and_eq_true, decide_eq_true_eq] at hs
        have h8 : (k : Int) ≤ 8 := by omega
        have h9 : (q : Int) < (k : Int) := by omega
        clear hp h hs hL hk hM hq hz
        go_enter Try.func7, Try.ntmps7
        go_wp2_with fail
        refine cT.mono ?_
        rintro r W ⟨rfl, rfl⟩
        clear cT
        go_wp2_with fail
        refine cR.mono ?_
        rintro r W ⟨rfl, rfl⟩
        go_wp2
        go_ret2
        exact ⟨rfl, PStp.same H.out (Below.refl _ _)⟩
    · have e1 : wrN m rd k = min k q := by simp [wrN, h0, hs, hq]
      have e2 : wrE m rd k = 0 := by simp [wrE, h0, hs]
      rw [e1, e2]
      unfold stuck at hs
      rw [← hq] at hs
      simp only [Bool.or_eq_true, decide_eq_true_eq, Bool.and_eq_true, not_or, not_and, Nat.not_lt] at hs
      have hz1 : ((q : Int) == 0) = false := by simpa using hs.1
      have hz2 : ¬ (q : Int) = 0 := by omega
      by_cases hkq : k ≤ q
      · rw [Nat.min_eq_left hkq]
        have h9 : ¬ (q : Int) < (k : Int) := by omega
        have h9n : ¬ q < k := by omega
        have hkz : (k : Int) ≤ (q : Int) := by omega
        by_cases h8 : k ≤ 8
        · have h8z : (k : Int) ≤ 8 := by omega
          have cP : Calls Try.prog 14 #[.pointer (some ⟨b, 0, none⟩), .string ((⟨l.toArray⟩ : ByteArray).extract 0 k)] w.drew fun r w' => r = .returned (.tuple #[]) ∧ PStp B w.drew w' b (T ++ l.take k) rd wr := by
            rw [mkB _ _ _ (by rw [hsz]; omega)]
            exact put_any B b T rd wr (l.take k) (by rw [List.length_take]; omega) w.drew (h.below (below_drew (Below.refl _ _)))
          clear hp h hs hL hk hM hq 
          go_enter Try.func7, Try.ntmps7
          go_wp2_with fail
          refine cT.mono ?_
          rintro r W ⟨rfl, rfl⟩
          clear cT
          go_wp2_with fail
          refine cR.mono ?_
          rintro r W ⟨rfl, rfl⟩
          clear cR
          go_wp2
          go_region_with (go_at_call 14; refine cP.mono ?_; rintro r W2 ⟨rfl, hS⟩; have HS := Hid3.mk hS; clear hS)
          go_wp2
          go_ret2
          exact ⟨rfl, HS.out.p, (Apart.of_below (below_drew (Below.refl _ _))).trans HS.out.ap⟩
        · have h8z : ¬ (k : Int) ≤ 8 := by omega
          have cP : Calls Try.prog 14 #[.pointer (some ⟨b, 0, none⟩), .string ((⟨l.toArray⟩ : ByteArray).extract 0 k)] w.drew fun r w' => r = .returned (.tuple #[]) ∧ PStp B w.drew w' b (T ++ l.take k) rd wr := by
            rw [mkB _ _ _ (by rw [hsz]; omega)]
            exact put_any B b T rd wr (l.take k) (by rw [List.length_take]; omega) w.drew (h.below (below_drew (Below.refl _ _)))
          clear hp h hs hL hk hM hq 
          go_enter Try.func7, Try.ntmps7
          go_wp2_with fail
          refine cT.mono ?_
          rintro r W ⟨rfl, rfl⟩
          clear cT
          go_wp2_with fail
          refine cR.mono ?_
          rintro r W ⟨rfl, rfl⟩
          clear cR
          go_wp2
          go_region_with (go_at_call 14; refine cP.mono ?_; rintro r W2 ⟨rfl, hS⟩; have HS := Hid3.mk hS; clear hS)
          go_wp2
          go_ret2
          exact ⟨rfl, HS.out.p, (Apart.of_below (below_drew (Below.refl _ _))).trans HS.out.ap⟩
      · rw [Nat.min_eq_right (by omega)]
        have h8 : 8 < k := by
          have := hs.2
          omega
        have h8z : ¬ (k : Int) ≤ 8 := by omega
        have hkz : (q : Int) ≤ (k : Int) := by omega
        have hqk : (q : Int) < (k : Int) := by omega
        have cP : Calls Try.prog 14 #[.pointer (some ⟨b, 0, none⟩), .string ((⟨l.toArray⟩ : ByteArray).extract 0 q)] w.drew fun r w' => r = .returned (.tuple #[]) ∧ PStp B w.drew w' b (T ++ l.take q) rd wr := by
          rw [mkB _ _ _ (by rw [hsz]; omega)]
          exact put_any B b T rd wr (l.take q) (by rw [List.length_take]; omega) w.drew (h.below (below_drew (Below.refl _ _)))
        clear hp h hs hL hk hM hq 
        go_enter Try.func7, Try.ntmps7
        go_wp2_with fail
        refine cT.mono ?_
        rintro r W ⟨rfl, rfl⟩
        clear cT
        go_wp2_with fail
        refine cR.mono ?_
        rintro r W ⟨rfl, rfl⟩
        clear cR
        go_wp2
        go_region_with (go_at_call 14; refine cP.mono ?_; rintro r W2 ⟨rfl, hS⟩; have HS := Hid3.mk hS; clear hS)
        go_wp2
        go_ret2
        exact ⟨rfl, HS.out.p, (Apart.of_below (below_drew (Below.refl _ _))).trans HS.out.ap⟩
end Go.Proofs.Ytpjnadgjohbhbab
