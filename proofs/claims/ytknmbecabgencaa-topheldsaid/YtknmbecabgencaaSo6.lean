/- The library's sort at uint8: order2, median, medianAdjacent. -/
import Derived.Test.YtknmbecabgencaaSo5
namespace Go.Proofs.Ytknmbecabgencaa
open Go.RowKit Go.Maps
set_option linter.unusedVariables false
set_option maxRecDepth 100000
/-- The row as it is, and a counter beside it. -/
structure Cn (W : World) (g n : Nat) (f : Nat → Int) (sw : Nat) (c : Int) : Prop where
  r : Ro W g n f
  c : Cl W sw 3 [.int .i64 c]
theorem Cn.ne {W : World} {g n : Nat} {f : Nat → Int} {sw : Nat} {c : Int} (h : Cn W g n f sw c) : g ≠ sw := fun e => by
  obtain ⟨arr, h1, _⟩ := h.r.r
  have h2 : W.heap[sw]? = some (.cells #[.int .i64 c] 3 (0, 0)) := h.c
  rw [e, h2] at h1
  injection h1 with h1
  injection h1 with _ h3 _
  exact absurd h3 (by decide)
theorem Ro.stay {w w' : World} {g n : Nat} {f : Nat → Int} {X : Nat → Prop} (h : Ro w g n f) (k : Apart X w w') (hx : ¬ X g) : Ro w' g n f := by
  have hl := h.lt
  obtain ⟨arr, h1, h2⟩ := h.r
  exact ⟨arr, (k.block g hl hx).trans h1, h2⟩
theorem Cn.set {W : World} {g n : Nat} {f : Nat → Int} {sw : Nat} {c : Int} (h : Cn W g n f sw c) (c' : Int) : Cn (W.setCell ⟨sw, 0, none⟩ (.int .i64 c')) g n f sw c' := ⟨h.r.stay (Apart.at (X := XB sw) W sw 0 _ rfl) h.ne, h.c.set 0 _⟩
theorem Cn.drewN {W : World} {g n : Nat} {f : Nat → Int} {sw : Nat} {c : Int} (h : Cn W g n f sw c) (k : Nat) : Cn (W.drewN k) g n f sw c := ⟨h.r.drewN k, h.c⟩
set_option maxHeartbeats 2000000 in
theorem order2_any (g n cap a b sw : Nat) (f : Nat → Int) (c : Int) (w : World) (h : Cn w g n f sw c) (ha : a < n) (hb : b < n) (hn : n ≤ 64) (c0 : 0 ≤ c) (c1 : c ≤ 100) : Calls Try.prog 35 #[.slice (some ⟨g, 0, none⟩) n cap, .int .i64 a, .int .i64 b, .pointer (some ⟨sw, 0, none⟩)] w fun r w' => ∃ x y : Nat, r = .returned (.tuple #[.int .i64 x, .int .i64 y]) ∧ ((x = a ∧ y = b) ∨ (x = b ∧ y = a)) ∧ ∃ c', c ≤ c' ∧ c' ≤ c + 1 ∧ Cn w' g n f sw c' ∧ Apart (XB sw) w w' := by
  have H0 := Hid3.mk h
  have x1 := h.r.cell a ha
  have x2 := h.r.cell b hb
  have hg := h.r.lt
  have hs := h.c.lt
  have haz : (a : Int) < (n : Int) := by omega
  have hbz : (b : Int) < (n : Int) := by omega
  have cL := fun W => less_any (f b) (f a) W
  by_cases hl : f b < f a
  · have hld : decide (f b < f a) = true := by simpa using hl
    rw [hld] at cL
    have hwc : IntKind.i64.wrap (c + 1) = c + 1 := by rw [IntKind.wrap_i64]; omega
    clear h
    go_enter Try.func35, Try.ntmps35
    go_wp2_with fail
    go_quiet ((go_at_call 24; exact Calls.quiet_of_same (cL _)))
    have y0 : (w.drewN nq).cell? ⟨sw, 0, none⟩ = some (.int .i64 c) := H0.out.c.cell 0
    have y1 : (w.drewN nq).frozen? ⟨sw, 0, none⟩ = false := H0.out.c.thaw 0
    have hs2 : sw < (w.drewN nq).heap.size := hs
    have HE : Hid3 (Cn ((w.drewN nq).setCell ⟨sw, 0, none⟩ (.int .i64 (c + 1))) g n f sw (c + 1) ∧ Apart (XB sw) w ((w.drewN nq).setCell ⟨sw, 0, none⟩ (.int .i64 (c + 1)))) := ⟨(H0.out.drewN nq).set (c + 1), (apart_drewN sw w nq).trans (Apart.at (X := XB sw) _ sw 0 _ rfl)⟩
    clear x1 x2 hg hs H0
    generalize w.drewN nq = W1 at *
    go_wp2
    go_ret2
    exact ⟨b, a, rfl, .inr ⟨rfl, rfl⟩, c + 1, by omega, by omega, HE.out⟩
  · have hld : decide (f b < f a) = false := by simpa using hl
    rw [hld] at cL
    clear h
    go_enter Try.func35, Try.ntmps35
    go_wp2_with fail
    go_quiet ((go_at_call 24; exact Calls.quiet_of_same (cL _)))
    have HE : Hid3 (Cn (w.drewN nq) g n f sw c ∧ Apart (XB sw) w (w.drewN nq)) := ⟨H0.out.drewN nq, apart_drewN sw w nq⟩
    clear x1 x2 hg hs H0
    generalize w.drewN nq = W1 at *
    go_wp2
    go_ret2
    exact ⟨a, b, rfl, .inl ⟨rfl, rfl⟩, c, by omega, by omega, HE.out⟩
set_option maxHeartbeats 2000000 in
theorem median_any (g n cap a b d sw : Nat) (f : Nat → Int) (c : Int) (w : World) (h : Cn w g n f sw c) (ha : a < n) (hb : b < n) (hd : d < n) (hn : n ≤ 64) (c0 : 0 ≤ c) (c1 : c ≤ 90) : Calls Try.prog 33 #[.slice (some ⟨g, 0, none⟩) n cap, .int .i64 a, .int .i64 b, .int .i64 d, .pointer (some ⟨sw, 0, none⟩)] w fun r w' => ∃ x : Nat, r = .returned (.int .i64 x) ∧ (x = a ∨ x = b ∨ x = d) ∧ ∃ c', c ≤ c' ∧ c' ≤ c + 3 ∧ Cn w' g n f sw c' ∧ Apart (XB sw) w w' := by
  have cA := order2_any g n cap a b sw f c w h ha hb hn c0 (by omega)
  clear h
  go_enter Try.func33, Try.ntmps33
  go_wp2_with fail
  refine cA.mono ?_
  rintro r W1 ⟨x, y, rfl, hxy, k1, k2, k3, hC1, hA1⟩
  have cB := order2_any g n cap y d sw f k1 W1 hC1 (by omega) hd hn (by omega) (by omega)
  have HA1 := Hid3.mk hA1
  have X1 := Hid3.mk hxy
  have hy : y < n := by omega
  have hx : x < n := by omega
  clear cA hC1 hA1 hxy
  go_wp2_with fail
  refine cB.mono ?_
  rintro r W2 ⟨x2, y2, rfl, hxy2, l1, l2, l3, hC2, hA2⟩
  have cD := order2_any g n cap x x2 sw f l1 W2 hC2 hx (by omega) hn (by omega) (by omega)
  have HA2 := Hid3.mk (HA1.out.trans hA2)
  have X2 := Hid3.mk hxy2
  clear cB hC2 hA2 hxy2 HA1
  go_wp2_with fail
  refine cD.mono ?_
  rintro r W3 ⟨x3, y3, rfl, hxy3, m1, m2, m3, hC3, hA3⟩
  have HE : Hid3 ((y3 = a ∨ y3 = b ∨ y3 = d) ∧ ∃ c', c ≤ c' ∧ c' ≤ c + 3 ∧ Cn W3 g n f sw c' ∧ Apart (XB sw) w W3) := ⟨by
    have h1 := X1.out
    have h2 := X2.out
    omega, m1, by omega, by omega, hC3, HA2.out.trans hA3⟩
  clear cD hC3 hA3 HA2 hxy3
  go_wp2
  go_ret
  exact ⟨y3, rfl, HE.out⟩
set_option maxHeartbeats 2000000 in
theorem medadj_any (g n cap a sw : Nat) (f : Nat → Int) (c : Int) (w : World) (h : Cn w g n f sw c) (ha : 1 ≤ a) (hb : a + 1 < n) (hn : n ≤ 64) (c0 : 0 ≤ c) (c1 : c ≤ 90) : Calls Try.prog 32 #[.slice (some ⟨g, 0, none⟩) n cap, .int .i64 a, .pointer (some ⟨sw, 0, none⟩)] w fun r w' => ∃ x : Nat, r = .returned (.int .i64 x) ∧ (a ≤ x + 1 ∧ x ≤ a + 1) ∧ ∃ c', c ≤ c' ∧ c' ≤ c + 3 ∧ Cn w' g n f sw c' ∧ Apart (XB sw) w w' := by
  obtain ⟨p, p1, p2⟩ : ∃ p, p + 1 ≤ a ∧ a ≤ p + 1 := ⟨a - 1, by omega, by omega⟩
  obtain ⟨q, q1, q2⟩ : ∃ q, q ≤ a + 1 ∧ a + 1 ≤ q := ⟨a + 1, by omega, by omega⟩
  have hwp : IntKind.i64.wrap ((a : Int) - 1) = (p : Int) := by rw [IntKind.wrap_i64]; omega
  have hwq : IntKind.i64.wrap ((a : Int) + 1) = (q : Int) := by rw [IntKind.wrap_i64]; omega
  have cA := median_any g n cap p a q sw f c w h (by omega) (by omega) (by omega) hn c0 c1
  clear h
  go_enter Try.func32, Try.ntmps32
  go_wp2_with fail
  refine cA.mono ?_
  rintro r W1 ⟨x, rfl, hx, hE⟩
  have HE : Hid3 ((a ≤ x + 1 ∧ x ≤ a + 1) ∧ ∃ c', c ≤ c' ∧ c' ≤ c + 3 ∧ Cn W1 g n f sw c' ∧ Apart (XB sw) w W1) := ⟨by omega, hE⟩
  clear cA hE hx
  go_wp2
  go_ret
  exact ⟨x, rfl, HE.out⟩
end Go.Proofs.Ytknmbecabgencaa
