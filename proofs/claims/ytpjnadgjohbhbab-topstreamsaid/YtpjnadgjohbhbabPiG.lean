/- The program's pipe: Read, Text, Fork; every call of none. -/
import Derived.Test.YtpjnadgjohbhbabPiF
namespace Go.Proofs.Ytpjnadgjohbhbab
open Go.RowKit Go.Maps
set_option linter.unusedVariables false
set_option maxRecDepth 100000
def rdE (m wr : Nat) (n : Int) : Int := if n < 0 then 2 else if n = 0 then 0 else if m = 0 ∧ 0 < wr then 12 else 0
set_option maxHeartbeats 4000000 in
theorem read_any (B b : Nat) (T : List UInt8) (rd wr : Nat) (n : Int) (w : World) (h : Pp B w b T rd wr) : Calls Try.prog 8 #[.pointer (some ⟨b, 0, none⟩), .int .i64 n] w fun r w' => r = .returned (.tuple #[.string ⟨(T.take n.toNat).toArray⟩, .int .i64 (rdE T.length wr n)]) ∧ PStp B w w' b (T.drop n.toNat) rd wr := by
  obtain ⟨f, hp⟩ := h.cells
  have c25 := hp.c25
  have cT := times_any b 27 wr w hp.c27
  have hm := h.len
  have H := Hid3.mk h
  clear hp
  by_cases h0 : n < 0
  · have e1 : n.toNat = 0 := by omega
    have e2 : rdE T.length wr n = 2 := by simp [rdE, h0]
    rw [e1, e2, List.take_zero, List.drop_zero]
    clear h cT
    go_enter Try.func8, Try.ntmps8
    go_wp2
    go_ret2
    exact ⟨rfl, PStp.same H.out (Below.refl _ _)⟩
  by_cases h1 : n = 0
  · subst h1
    have e2 : rdE T.length wr 0 = 0 := by simp [rdE]
    rw [e2, Int.toNat_zero, List.take_zero, List.drop_zero]
    clear h cT
    go_enter Try.func8, Try.ntmps8
    go_wp2
    go_ret2
    exact ⟨rfl, PStp.same H.out (Below.refl _ _)⟩
  have h1b : (n == 0) = false := by simpa using h1
  by_cases h2 : T.length = 0 ∧ 0 < wr
  · have e2 : rdE T.length wr n = 12 := by simp only [rdE, h0, h1, h2, and_self, if_true, if_false]
    have e3 : T = [] := List.eq_nil_of_length_eq_zero h2.1
    subst e3
    have hw : (0 : Int) < (wr : Int) := by omega
    rw [e2, List.take_nil, List.drop_nil]
    clear h h2 e2
    go_enter Try.func8, Try.ntmps8
    go_wp2_with fail
    refine cT.mono ?_
    rintro r W ⟨rfl, rfl⟩
    go_wp2
    go_ret2
    exact ⟨rfl, PStp.same H.out (Below.refl _ _)⟩
  have e2 : rdE T.length wr n = 0 := by simp only [rdE, h0, h1, h2, if_false]
  rw [e2]
  clear e2
  obtain ⟨k, hk⟩ : ∃ k : Nat, k = min n.toNat T.length := ⟨_, rfl⟩
  have et : T.take n.toNat = T.take k := by
    rw [hk]
    by_cases h3 : n.toNat ≤ T.length
    · rw [Nat.min_eq_left h3]
    · rw [Nat.min_eq_right (by omega), List.take_of_length_le (by omega), List.take_length]
  have ed : T.drop n.toNat = T.drop k := by
    rw [hk]
    by_cases h3 : n.toNat ≤ T.length
    · rw [Nat.min_eq_left h3]
    · rw [Nat.min_eq_right (by omega), List.drop_of_length_le (by omega), List.drop_length]
  rw [et, ed]
  have cF := first_any B b T rd wr k (by omega) w h
  have cD : ∀ W, Below w.heap.size w W → Calls Try.prog 15 #[.pointer (some ⟨b, 0, none⟩), .int .i64 k] W fun r w' => r = .returned (.tuple #[]) ∧ PStp B W w' b (T.drop k) rd wr := fun W hW => drop_any B b T rd wr k (by omega) W (h.below hW)
  have HD := Hid3.mk cD
  obtain ⟨m, hM⟩ : ∃ m : Nat, m = T.length := ⟨_, rfl⟩
  rw [← hM] at c25 h2 hm hk
  have HM := Hid3.mk hM
  clear h cD et ed hM
  by_cases hz : m = 0
  · have hw : wr = 0 := by omega
    subst hw
    subst hz
    have hk0 : k = 0 := by omega
    subst hk0
    have hn0 : (0 : Int) ≤ n := by omega
    have HK := Hid3.mk hk
    clear hk h2
    go_enter Try.func8, Try.ntmps8
    go_wp2_with fail
    refine cT.mono ?_
    rintro r W ⟨rfl, rfl⟩
    clear cT
    go_wp2_with fail
    refine cF.mono ?_
    rintro r W2 ⟨rfl, hb⟩
    have cD := HD.out W2 hb
    have HB := Hid3.mk hb
    clear cF hb
    go_wp2_with fail
    refine cD.mono ?_
    rintro r W3 ⟨rfl, hS⟩
    have HS := Hid3.mk hS
    clear cD hS
    go_wp2
    go_ret2
    exact ⟨rfl, HS.out.p, (Apart.of_below HB.out).trans HS.out.ap⟩
  · have hz1 : ((m : Int) == 0) = false := by simpa using hz
    have hz2 : ¬ (m : Int) = 0 := by omega
    by_cases hnm : n ≤ (m : Int)
    · have hkn : (k : Int) = n := by omega
      rw [hkn] at cF
      have HD' : Hid3 (∀ W, Below w.heap.size w W → Calls Try.prog 15 #[.pointer (some ⟨b, 0, none⟩), .int .i64 n] W fun r w' => r = .returned (.tuple #[]) ∧ PStp B W w' b (T.drop k) rd wr) := ⟨by rw [← hkn]; exact HD.out⟩
      clear hk h2 HD hkn hz
      go_enter Try.func8, Try.ntmps8
      go_wp2_with fail
      refine cF.mono ?_
      rintro r W2 ⟨rfl, hb⟩
      have cD := HD'.out W2 hb
      have HB := Hid3.mk hb
      clear cF hb
      go_wp2_with fail
      refine cD.mono ?_
      rintro r W3 ⟨rfl, hS⟩
      have HS := Hid3.mk hS
      clear cD hS
      go_wp2
      go_ret2
      exact ⟨rfl, HS.out.p, (Apart.of_below HB.out).trans HS.out.ap⟩
    · have hkn : k = m := by omega
      subst hkn
      have hmn : (k : Int) ≤ n := by omega
      clear hk h2 hz
      go_enter Try.func8, Try.ntmps8
      go_wp2_with fail
      refine cF.mono ?_
      rintro r W2 ⟨rfl, hb⟩
      have cD := HD.out W2 hb
      have HB := Hid3.mk hb
      clear cF hb
      go_wp2_with fail
      refine cD.mono ?_
      rintro r W3 ⟨rfl, hS⟩
      have HS := Hid3.mk hS
      clear cD hS
      go_wp2
      go_ret2
      exact ⟨rfl, HS.out.p, (Apart.of_below HB.out).trans HS.out.ap⟩
set_option maxHeartbeats 1000000 in
theorem text_any (B b : Nat) (T : List UInt8) (rd wr : Nat) (w : World) (h : Pp B w b T rd wr) : Calls Try.prog 6 #[.pointer (some ⟨b, 0, none⟩)] w fun r w' => r = .returned (.string ⟨T.toArray⟩) ∧ Below w.heap.size w w' := by
  obtain ⟨f, hp⟩ := h.cells
  have c25 := hp.c25
  have cF := first_any B b T rd wr T.length (Nat.le_refl _) w.drew (h.below (below_drew (Below.refl _ _)))
  rw [List.take_length] at cF
  have hm := h.len
  clear hp h
  generalize T.length = m at *
  go_enter Try.func6, Try.ntmps6
  go_wp2
  go_region_with (go_at_call 11; refine cF.mono ?_; rintro r W2 ⟨rfl, hS⟩; have HS := Hid3.mk hS; clear hS)
  go_wp2
  go_ret
  exact ⟨rfl, (below_drew (Below.refl _ _)).trans HS.out⟩
set_option maxHeartbeats 1000000 in
theorem none_open (on : Bool) (w : World) : Calls Try.prog 5 #[.pointer none, .bool on] w fun r w' => r = .returned (.int .i64 1) ∧ w' = w := by
  go_enter Try.func5, Try.ntmps5
  go_wp2
  go_ret
  exact ⟨rfl, rfl⟩
theorem none_close (on : Bool) (w : World) : Calls Try.prog 9 #[.pointer none, .bool on] w fun r w' => r = .returned (.int .i64 1) ∧ w' = w := by
  go_enter Try.func9, Try.ntmps9
  go_wp2
  go_ret
  exact ⟨rfl, rfl⟩
theorem none_write (s : ByteArray) (w : World) : Calls Try.prog 7 #[.pointer none, .string s] w fun r w' => r = .returned (.tuple #[.int .i64 0, .int .i64 1]) ∧ w' = w := by
  go_enter Try.func7, Try.ntmps7
  go_wp2
  go_ret2
  exact ⟨rfl, rfl⟩
theorem none_read (n : Int) (w : World) : Calls Try.prog 8 #[.pointer none, .int .i64 n] w fun r w' => r = .returned (.tuple #[.string ⟨#[]⟩, .int .i64 1]) ∧ w' = w := by
  go_enter Try.func8, Try.ntmps8
  go_wp2
  go_ret2
  exact ⟨rfl, rfl⟩
theorem none_text (w : World) : Calls Try.prog 6 #[.pointer none] w fun r w' => r = .returned (.string ⟨#[]⟩) ∧ w' = w := by
  go_enter Try.func6, Try.ntmps6
  go_wp2
  go_ret
  exact ⟨rfl, rfl⟩
end Go.Proofs.Ytpjnadgjohbhbab
