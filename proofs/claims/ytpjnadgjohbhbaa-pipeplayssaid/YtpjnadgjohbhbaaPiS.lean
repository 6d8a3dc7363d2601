/- The document's pipe: Write, Read, Fork; the program's Fork; short. -/
import Derived.Test.YtpjnadgjohbhbaaPiR
import Derived.Test.YtpjnadgjohbhbaaPiG
namespace Go.Proofs.Ytpjnadgjohbhbaa
open Go.RowKit Go.Maps
set_option linter.unusedVariables false
set_option maxRecDepth 100000
theorem app_B (a b : List UInt8) : (⟨a.toArray⟩ : ByteArray) ++ ⟨b.toArray⟩ = ⟨(a ++ b).toArray⟩ := by
  apply ByteArray.ext
  simp
theorem ext_take (l : List UInt8) (n : Nat) (h : n ≤ l.length) : (⟨l.toArray⟩ : ByteArray).extract 0 n = ⟨(l.take n).toArray⟩ := by
  rw [mkB _ _ _ (by simpa [ByteArray.size] using h)]
  simp
theorem ext_drop (l : List UInt8) (n : Nat) : (⟨l.toArray⟩ : ByteArray).extract n l.length = ⟨(l.drop n).toArray⟩ := by
  rw [mkB _ _ _ (by simp [ByteArray.size])]
  simp
set_option maxHeartbeats 4000000 in
theorem rwrite_any (B b : Nat) (T : List UInt8) (rd wr : Nat) (l : List UInt8) (hl : l.length ≤ 1000) (w : World) (h : Rp B w b T rd wr) : Calls Try.prog 35 #[.pointer (some ⟨b, 0, none⟩), .string ⟨l.toArray⟩] w fun r w' => r = .returned (.tuple #[.int .i64 (wrN T.length rd l.length), .int .i64 (wrE T.length rd l.length)]) ∧ RStp B w w' b (T ++ l.take (wrN T.length rd l.length)) rd wr := by
  have c0 := h.cells.c0
  have c1 := h.cells.c1
  have f0 := h.cells.fz 0
  have hm := h.t
  have H := Hid3.mk h
  by_cases h0 : rd = 0
  · subst h0
    have e1 : wrN T.length 0 l.length = 0 := by simp [wrN]
    have e2 : wrE T.length 0 l.length = 9 := by simp [wrE]
    rw [e1, e2, List.take_zero, List.append_nil]
    clear h
    go_enter Try.func35, Try.ntmps35
    go_wp2
    go_ret2
    exact ⟨rfl, RStp.same H.out (Below.refl _ _)⟩
  have h0z : ¬ (rd : Int) = 0 := by omega
  have h0b : ((rd : Int) == 0) = false := by simpa using h0
  cases l with
  | nil =>
    have e1 : wrN T.length rd ([] : List UInt8).length = 0 := by unfold wrN; rw [if_neg h0]; split <;> simp
    have e2 : wrE T.length rd ([] : List UInt8).length = 0 := by simp [wrE, h0]
    rw [e1, e2, List.take_zero, List.append_nil]
    clear h
    go_enter Try.func35, Try.ntmps35
    go_wp2
    go_ret2
    exact ⟨rfl, RStp.same H.out (Below.refl _ _)⟩
  | cons c cs =>
    obtain ⟨l, hL⟩ : ∃ l, l = c :: cs := ⟨_, rfl⟩
    rw [← hL] at hl ⊢
    have hne2 : (l == []) = false := by rw [hL]; rfl
    have hne3 : ¬ l = [] := by rw [hL]; simp
    obtain ⟨k, hk⟩ : ∃ k : Nat, k = l.length := ⟨_, rfl⟩
    have hk0 : k ≠ 0 := by rw [hk, hL]; simp
    rw [← hk] at hl ⊢
    have hsz : (⟨l.toArray⟩ : ByteArray).size = k := by rw [hk]; simp [ByteArray.size]
    have HK := Hid3.mk hk
    obtain ⟨m, hM⟩ : ∃ m : Nat, m = T.length := ⟨_, rfl⟩
    have hsm : (⟨T.toArray⟩ : ByteArray).size = m := by rw [hM]; simp [ByteArray.size]
    rw [← hM] at hm ⊢
    obtain ⟨q, hq⟩ : ∃ q : Nat, q = 24 - m := ⟨_, rfl⟩
    have eq1 : (24 : Int) - (m : Int) = (q : Int) := by omega
    have hq24 : q ≤ 24 := by omega
    have HM := Hid3.mk hM
    by_cases hs : stuck m k = true
    · have e1 : wrN m rd k = 0 := by simp [wrN, h0, hs]
      have e2 : wrE m rd k = 12 := by simp [wrE, h0, hs, hk0]
      rw [e1, e2, List.take_zero, List.append_nil]
      unfold stuck at hs
      rw [← hq] at hs
      by_cases hz : q = 0
      · have hz1 : ((q : Int) == 0) = true := by simpa using hz
        have hz2 : (q : Int) = 0 := by omega
        clear h hs hL hk hM hq hz
        go_enter Try.func35, Try.ntmps35
        go_wp2
        go_ret2
        exact ⟨rfl, RStp.same H.out (Below.refl _ _)⟩
      · have hz1 : ((q : Int) == 0) = false := by simpa using hz
        have hz2 : ¬ (q : Int) = 0 := by omega
        simp only [hz, decide_false, Bool.false_or, Bool.and_eq_true, decide_eq_true_eq] at hs
        have h8 : (k : Int) ≤ 8 := by omega
        have h9 : (q : Int) < (k : Int) := by omega
        clear h hs hL hk hM hq hz
        go_enter Try.func35, Try.ntmps35
        go_wp2
        go_ret2
        exact ⟨rfl, RStp.same H.out (Below.refl _ _)⟩
    · have e1 : wrN m rd k = min k q := by simp [wrN, h0, hs, hq]
      have e2 : wrE m rd k = 0 := by simp [wrE, h0, hs]
      rw [e1, e2]
      unfold stuck at hs
      rw [← hq] at hs
      simp only [Bool.or_eq_true, decide_eq_true_eq, Bool.and_eq_true, not_or, not_and, Nat.not_lt] at hs
      have hz1 : ((q : Int) == 0) = false := by simpa using hs.1
      have hz2 : ¬ (q : Int) = 0 := by omega
      by_cases hkq : k ≤ q
      · rw [Nat.min_eq_left hkq]
        have h9 : ¬ (q : Int) < (k : Int) := by omega
        have h9n : ¬ q < k := by omega
        have hkz : (k : Int) ≤ (q : Int) := by omega
        have ea : (⟨T.toArray⟩ : ByteArray) ++ ⟨l.toArray⟩ = ⟨(T ++ l.take k).toArray⟩ := by rw [app_B, hk, List.take_length]
        have HS := Hid3.mk (h.setT (T ++ l.take k) (by rw [List.length_append, List.length_take]; omega))
        by_cases h8 : k ≤ 8
        · have h8z : (k : Int) ≤ 8 := by omega
          clear h hs hL hk hM hq
          go_enter Try.func35, Try.ntmps35
          go_wp2
          go_ret2
          exact ⟨rfl, HS.out⟩
        · have h8z : ¬ (k : Int) ≤ 8 := by omega
          clear h hs hL hk hM hq
          go_enter Try.func35, Try.ntmps35
          go_wp2
          go_ret2
          exact ⟨rfl, HS.out⟩
      · rw [Nat.min_eq_right (by omega)]
        have h8 : 8 < k := by
          have := hs.2
          omega
        have h8z : ¬ (k : Int) ≤ 8 := by omega
        have hkz : (q : Int) ≤ (k : Int) := by omega
        have hqk : (q : Int) < (k : Int) := by omega
        have ex : (⟨l.toArray⟩ : ByteArray).extract 0 q = ⟨(l.take q).toArray⟩ := ext_take l q (by omega)
        have ea : (⟨T.toArray⟩ : ByteArray) ++ ⟨(l.take q).toArray⟩ = ⟨(T ++ l.take q).toArray⟩ := app_B _ _
        have hs3 : (⟨(l.take q).toArray⟩ : ByteArray).size = q := by simp [ByteArray.size]; omega
        have HS := Hid3.mk (h.setT (T ++ l.take q) (by rw [List.length_append, List.length_take]; omega))
        generalize T ++ l.take q = T2 at *
        generalize l.take q = l2 at *
        clear h hs hL hk hM hq
        go_enter Try.func35, Try.ntmps35
        go_wp2
        go_ret2
        exact ⟨rfl, HS.out⟩
set_option maxHeartbeats 4000000 in
theorem rread_any (B b : Nat) (T : List UInt8) (rd wr : Nat) (n : Int) (w : World) (h : Rp B w b T rd wr) : Calls Try.prog 36 #[.pointer (some ⟨b, 0, none⟩), .int .i64 n] w fun r w' => r = .returned (.tuple #[.string ⟨(T.take n.toNat).toArray⟩, .int .i64 (rdE T.length wr n)]) ∧ RStp B w w' b (T.drop n.toNat) rd wr := by
  have c0 := h.cells.c0
  have c2 := h.cells.c2
  have f0 := h.cells.fz 0
  have hm := h.t
  have H := Hid3.mk h
  by_cases h0 : n < 0
  · have e1 : n.toNat = 0 := by omega
    have e2 : rdE T.length wr n = 2 := by simp [rdE, h0]
    rw [e1, e2, List.take_zero, List.drop_zero]
    clear h
    go_enter Try.func36, Try.ntmps36
    go_wp2
    go_ret2
    exact ⟨rfl, RStp.same H.out (Below.refl _ _)⟩
  by_cases h1 : n = 0
  · subst h1
    have e2 : rdE T.length wr 0 = 0 := by simp [rdE]
    rw [e2, Int.toNat_zero, List.take_zero, List.drop_zero]
    clear h
    go_enter Try.func36, Try.ntmps36
    go_wp2
    go_ret2
    exact ⟨rfl, RStp.same H.out (Below.refl _ _)⟩
  have h1b : (n == 0) = false := by simpa using h1
  obtain ⟨N, hN⟩ : ∃ N : Nat, n = (N : Int) := ⟨n.toNat, by omega⟩
  subst hN
  have hsm : (⟨T.toArray⟩ : ByteArray).size = T.length := by simp [ByteArray.size]
  rw [Int.toNat_natCast]
  cases T with
  | nil =>
    rw [List.take_nil, List.drop_nil]
    by_cases h2 : 0 < wr
    · have e2 : rdE ([] : List UInt8).length wr (N : Int) = 12 := by simp only [rdE, h0, h1, if_false, List.length_nil, true_and, h2, if_true]
      have hw : (0 : Int) < (wr : Int) := by omega
      rw [e2]
      clear h e2
      go_enter Try.func36, Try.ntmps36
      go_wp2
      go_ret2
      exact ⟨rfl, RStp.same H.out (Below.refl _ _)⟩
    · have e2 : rdE ([] : List UInt8).length wr (N : Int) = 0 := by simp only [rdE, h0, h1, if_false, List.length_nil, true_and, h2]
      have hw : wr = 0 := by omega
      subst hw
      have hN : (0 : Int) < (N : Int) := by omega
      rw [e2]
      have HS := Hid3.mk (h.setT [] (by simp))
      have ex : (⟨([] : List UInt8).toArray⟩ : ByteArray).extract 0 0 = ⟨#[]⟩ := by decide
      clear h e2
      go_enter Try.func36, Try.ntmps36
      go_wp2
      go_ret2
      exact ⟨rfl, HS.out⟩
  | cons c cs =>
    obtain ⟨T, hT⟩ : ∃ l, l = c :: cs := ⟨_, rfl⟩
    rw [← hT] at h c0 H hsm hm ⊢
    have hne2 : (T == []) = false := by rw [hT]; rfl
    have hne3 : ¬ T = [] := by rw [hT]; simp
    have e2 : rdE T.length wr (N : Int) = 0 := by rw [hT]; simp only [rdE, h0, h1, if_false, List.length_cons, Nat.add_one_ne_zero, false_and]
    rw [e2]
    obtain ⟨m, hM⟩ : ∃ m : Nat, m = T.length := ⟨_, rfl⟩
    rw [← hM] at hsm hm
    by_cases hnm : N ≤ m
    · have hz : ¬ (m : Int) < (N : Int) := by omega
      have hz2 : (N : Int) ≤ (m : Int) := by omega
      have ex1 : (⟨T.toArray⟩ : ByteArray).extract 0 N = ⟨(T.take N).toArray⟩ := ext_take T N (by omega)
      have ex2 : (⟨T.toArray⟩ : ByteArray).extract N m = ⟨(T.drop N).toArray⟩ := by rw [hM]; exact ext_drop T N
      have HS := Hid3.mk (h.setT (T.drop N) (by rw [List.length_drop]; omega))
      have HM := Hid3.mk hM
      generalize T.take N = TA at *
      generalize T.drop N = TB at *
      clear h hT hM e2
      go_enter Try.func36, Try.ntmps36
      go_wp2
      go_ret2
      exact ⟨rfl, HS.out⟩
    · have hz : (m : Int) < (N : Int) := by omega
      have ex1 : (⟨T.toArray⟩ : ByteArray).extract 0 m = ⟨(T.take N).toArray⟩ := by rw [ext_take T m (by omega), List.take_of_length_le (by omega), List.take_of_length_le (by omega)]
      have hd : T.drop N = [] := List.drop_of_length_le (by omega)
      rw [hd]
      have HS := Hid3.mk (h.setT [] (by simp))
      have HM := Hid3.mk hM
      generalize T.take N = TA at *
      clear h hT hM e2 hd
      go_enter Try.func36, Try.ntmps36
      go_wp2
      go_ret2
      exact ⟨rfl, HS.out⟩
theorem short_le (l : List UInt8) : (l.take 100).length ≤ 1000 := by rw [List.length_take]; omega
theorem short_any (l : List UInt8) (w : World) : Calls Try.prog 15 #[.string ⟨l.toArray⟩] w fun r w' => r = .returned (.string ⟨(l.take 100).toArray⟩) ∧ w' = w := by
  have hsm : (⟨l.toArray⟩ : ByteArray).size = l.length := by simp [ByteArray.size]
  by_cases h : 100 < l.length
  · have hz : (100 : Int) < (l.length : Int) := by omega
    have ex : (⟨l.toArray⟩ : ByteArray).extract 0 100 = ⟨(l.take 100).toArray⟩ := ext_take l 100 (by omega)
    generalize l.length = k at *
    go_enter Try.func15, Try.ntmps15
    go_wp2
    go_ret
    exact ⟨rfl, rfl⟩
  · have hz : ¬ (100 : Int) < (l.length : Int) := by omega
    rw [List.take_of_length_le (by omega)]
    generalize l.length = k at *
    go_enter Try.func15, Try.ntmps15
    go_wp2
    go_ret
    exact ⟨rfl, rfl⟩
set_option maxHeartbeats 2000000 in
theorem rfork_any (B b : Nat) (T : List UInt8) (rd wr : Nat) (w : World) (h : Rp B w b T rd wr) (hB : B ≤ w.heap.size) : Calls Try.prog 21 #[.pointer (some ⟨b, 0, none⟩)] w fun r w' => r = .returned (.pointer (some ⟨w.heap.size, 0, none⟩)) ∧ Rp B w' w.heap.size T rd wr ∧ Below w.heap.size w w' := by
  have c0 := h.cells.c0
  have c1 := h.cells.c1
  have c2 := h.cells.c2
  have hlt := h.lt
  have H := Hid3.mk h
  clear h
  go_enter Try.func21, Try.ntmps21
  go_wp2
  go_ret
  exact ⟨rfl, ⟨hB, H.out.t, H.out.hr, H.out.hw, heap_alloc_new _ _⟩, below_new w _⟩
end Go.Proofs.Ytpjnadgjohbhbaa
