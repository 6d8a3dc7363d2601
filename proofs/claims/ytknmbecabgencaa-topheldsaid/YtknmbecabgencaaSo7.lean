/- The library's sort at uint8: choosePivot. -/
import Derived.Test.YtknmbecabgencaaSo6
namespace Go.Proofs.Ytknmbecabgencaa
open Go.RowKit Go.Maps
set_option linter.unusedVariables false
set_option maxRecDepth 100000
theorem Ro.below {w w' : World} {g n : Nat} {f : Nat → Int} (h : Ro w g n f) (k : Below w.heap.size w w') : Ro w' g n f := h.stay (Apart.of_below (X := fun _ => False) k) id
set_option maxHeartbeats 4000000 in
theorem choose_any (g n cap a b : Nat) (f : Nat → Int) (w : World) (h : Ro w g n f) (hab : a + 12 < b) (hb : b ≤ n) (hn : n ≤ 64) : Calls Try.prog 21 #[.slice (some ⟨g, 0, none⟩) n cap, .int .i64 a, .int .i64 b] w fun r w' => ∃ (x : Nat) (k : Int), r = .returned (.tuple #[.int .i64 x, .int .i64 k]) ∧ (a ≤ x ∧ x < b) ∧ (0 ≤ k ∧ k ≤ 2) ∧ Ro w' g n f ∧ Below w.heap.size w w' := by
  have hX := below_new w (.cells #[.int .i64 0] 3)
  have HX := Hid3.mk hX
  have HC : Hid3 (Cn (w.alloc (.cells #[.int .i64 0] 3)) g n f w.heap.size 0) := ⟨h.below hX, Cl.new w 3 [.int .i64 0]⟩
  obtain ⟨l, l1, l2⟩ : ∃ l, a + l ≤ b ∧ b ≤ a + l := ⟨b - a, by omega, by omega⟩
  obtain ⟨t, ht1, ht2⟩ : ∃ t, 4 * t ≤ l ∧ l ≤ 4 * t + 3 := ⟨l / 4, by omega, by omega⟩
  obtain ⟨t2, u1, u2⟩ : ∃ t2, t2 ≤ 2 * t ∧ 2 * t ≤ t2 := ⟨2 * t, by omega, by omega⟩
  obtain ⟨t3, v1, v2⟩ : ∃ t3, t3 ≤ 3 * t ∧ 3 * t ≤ t3 := ⟨3 * t, by omega, by omega⟩
  obtain ⟨i, i1, i2⟩ : ∃ i, i ≤ a + t ∧ a + t ≤ i := ⟨a + t, by omega, by omega⟩
  obtain ⟨j, j1, j2⟩ : ∃ j, j ≤ a + t2 ∧ a + t2 ≤ j := ⟨a + t2, by omega, by omega⟩
  obtain ⟨k, k1, k2⟩ : ∃ k, k ≤ a + t3 ∧ a + t3 ≤ k := ⟨a + t3, by omega, by omega⟩
  have hwl : IntKind.i64.wrap ((b : Int) - (a : Int)) = (l : Int) := by rw [IntKind.wrap_i64]; omega
  have hq : (l : Int).tdiv 4 = (t : Int) := by rw [Int.tdiv_eq_ediv_of_nonneg (by omega)]; omega
  have hwt : IntKind.i64.wrap (t : Int) = (t : Int) := by rw [IntKind.wrap_i64]; omega
  have hw1 : IntKind.i64.wrap ((t : Int) * 1) = (t : Int) := by rw [IntKind.wrap_i64]; omega
  have hw2 : IntKind.i64.wrap ((t : Int) * 2) = (t2 : Int) := by rw [IntKind.wrap_i64]; omega
  have hw3 : IntKind.i64.wrap ((t : Int) * 3) = (t3 : Int) := by rw [IntKind.wrap_i64]; omega
  have hwi : IntKind.i64.wrap ((a : Int) + (t : Int)) = (i : Int) := by rw [IntKind.wrap_i64]; omega
  have hwj : IntKind.i64.wrap ((a : Int) + (t2 : Int)) = (j : Int) := by rw [IntKind.wrap_i64]; omega
  have hwk : IntKind.i64.wrap ((a : Int) + (t3 : Int)) = (k : Int) := by rw [IntKind.wrap_i64]; omega
  have h8 : (8 : Int) ≤ (l : Int) := by omega
  have bi : a + 1 ≤ i ∧ i + 1 < b := by omega
  have bj : a + 1 ≤ j ∧ j + 1 < b := by omega
  have bk : a + 1 ≤ k ∧ k + 1 < b := by omega
  clear ht1 ht2 u1 u2 v1 v2 i1 i2 j1 j2 k1 k2 l1 l2
  have cM := fun (a' b' d' : Nat) (c : Int) W (hC : Cn W g n f w.heap.size c) (q1 : a' < n) (q2 : b' < n) (q3 : d' < n) (c0 : 0 ≤ c) (c1 : c ≤ 90) => median_any g n cap a' b' d' w.heap.size f c W hC q1 q2 q3 hn c0 c1
  have cA := fun (a' : Nat) (c : Int) W (hC : Cn W g n f w.heap.size c) (q1 : 1 ≤ a') (q2 : a' + 1 < n) (c0 : 0 ≤ c) (c1 : c ≤ 90) => medadj_any g n cap a' w.heap.size f c W hC q1 q2 hn c0 c1
  have HN : Hid3 (∀ W W', Below w.heap.size w W → Apart (XB w.heap.size) W W' → Below w.heap.size w W') := ⟨fun W W' q1 q2 => q1.trans (q2.below w.heap.size (fun j e => by have e' : j = w.heap.size := e; omega) q1.size)⟩
  clear h hX
  by_cases h50 : 50 ≤ l
  · have h50z : (50 : Int) ≤ (l : Int) := by omega
    go_enter Try.func21, Try.ntmps21
    go_wp2_with fail
    refine (cA i 0 _ HC.out (by omega) (by omega) (by omega) (by omega)).mono ?_
    rintro r W1 ⟨x1, rfl, x1h, c1, c11, c12, hC, hA⟩
    have HCW1 := Hid3.mk hC
    have HBW1 := Hid3.mk (HN.out _ _ HX.out hA)
    clear hC hA
    go_wp2_with fail
    refine (cA j c1 _ HCW1.out (by omega) (by omega) (by omega) (by omega)).mono ?_
    rintro r W2 ⟨x2, rfl, x2h, c2, c21, c22, hC, hA⟩
    have HCW2 := Hid3.mk hC
    have HBW2 := Hid3.mk (HN.out _ _ HBW1.out hA)
    clear hC hA
    go_wp2_with fail
    refine (cA k c2 _ HCW2.out (by omega) (by omega) (by omega) (by omega)).mono ?_
    rintro r W3 ⟨x3, rfl, x3h, c3, c31, c32, hC, hA⟩
    have HCW3 := Hid3.mk hC
    have HBW3 := Hid3.mk (HN.out _ _ HBW2.out hA)
    clear hC hA
    go_wp2_with fail
    refine (cM x1 x2 x3 c3 _ HCW3.out (by omega) (by omega) (by omega) (by omega) (by omega)).mono ?_
    rintro r W4 ⟨x4, rfl, x4h, c4, c41, c42, hC, hA⟩
    have HCW4 := Hid3.mk hC
    have HBW4 := Hid3.mk (HN.out _ _ HBW3.out hA)
    clear hC hA
    have z0 : W4.cell? ⟨w.heap.size, 0, none⟩ = some (.int .i64 c4) := (HCW4).out.c.cell 0
    have zl := (HCW4).out.c.lt
    by_cases e0 : c4 = 0
    · subst e0
      go_wp2
      go_ret2
      exact ⟨x4, 1, rfl, by omega, by omega, (HCW4).out.r, HBW4.out⟩
    have e0z : (c4 == 0) = false := by simpa using e0
    by_cases e1 : c4 = 12
    · subst e1
      go_wp2
      go_ret2
      exact ⟨x4, 2, rfl, by omega, by omega, (HCW4).out.r, HBW4.out⟩
    have e1z : (c4 == 12) = false := by simpa using e1
    go_wp2
    go_ret2
    exact ⟨x4, 0, rfl, by omega, by omega, (HCW4).out.r, HBW4.out⟩
  · have h50z : ¬ (50 : Int) ≤ (l : Int) := by omega
    go_enter Try.func21, Try.ntmps21
    go_wp2_with fail
    refine (cM i j k 0 _ HC.out (by omega) (by omega) (by omega) (by omega) (by omega)).mono ?_
    rintro r W4 ⟨x4, rfl, x4h, c4, c41, c42, hC, hA⟩
    have HCW4 := Hid3.mk hC
    have HBW4 := Hid3.mk (HN.out _ _ HX.out hA)
    clear hC hA
    have z0 : W4.cell? ⟨w.heap.size, 0, none⟩ = some (.int .i64 c4) := (HCW4).out.c.cell 0
    have zl := (HCW4).out.c.lt
    by_cases e0 : c4 = 0
    · subst e0
      go_wp2
      go_ret2
      exact ⟨x4, 1, rfl, by omega, by omega, (HCW4).out.r, HBW4.out⟩
    have e0z : (c4 == 0) = false := by simpa using e0
    by_cases e1 : c4 = 12
    · subst e1
      go_wp2
      go_ret2
      exact ⟨x4, 2, rfl, by omega, by omega, (HCW4).out.r, HBW4.out⟩
    have e1z : (c4 == 12) = false := by simpa using e1
    go_wp2
    go_ret2
    exact ⟨x4, 0, rfl, by omega, by omega, (HCW4).out.r, HBW4.out⟩
end Go.Proofs.Ytknmbecabgencaa
