/- What must be whatever is asked: live. -/
import Derived.Test.YtgoofonogdhhoaaArY
namespace Go.Proofs.Ytgoofonogdhhoaa
open Go.RowKit Go.Maps
set_option linter.unusedVariables false
set_option maxRecDepth 100000
def s8 : Rg := ⟨8, 0, 0, 0, 0, 0, 0, 0, 0⟩
def lq1 : Ar := enQ 1 64 (ar0 s8)
def lq2 : Ar := uQ 1 300 lq1
def lq3 : Ar := retQ lq2
theorem l1 : enE 1 = 0 := by decide
theorem l2 : upE 1 lq1 = 0 := by decide
theorem l3 : retE lq2 = 0 := rfl
theorem l4 : upE 0 lq3 = 5 := by decide
theorem l5 : lq2.s = ⟨64, 0, 300, 1, 0, 0, 0, 0, 0⟩ := rfl
theorem l6 : lq3.s = s8 := rfl
set_option maxHeartbeats 2000000 in
theorem live_any (w : World) : Calls Try.prog 10 #[] w fun e w' => e = .returned (.bool true) ∧ Below w.heap.size w w' := by
  have cN := new_ex s8 w w.heap.size (Nat.le_refl _)
  change Calls _ _ #[.agg #[.int .u16 8, .int .u16 0, .int .u16 0, .int .u16 0, .int .u16 0, .int .u16 0, .int .u16 0, .int .u16 0, .int .u16 0]] _ _ at cN
  have c1 := fun b W (h : Ac w.heap.size W b (ar0 s8)) => dentry_any w.heap.size b (ar0 s8) 1 64 W h (by decide)
  have c2 := fun b W (h : Ac w.heap.size W b lq1) => dup_any w.heap.size b lq1 1 300 W h (by decide)
  have c3 := fun b W (h : Ac w.heap.size W b lq2) => regs_any w.heap.size b lq2 W h
  have c4 := fun b W (h : Ac w.heap.size W b lq2) => dret_any w.heap.size b lq2 W h
  have c5 := fun b W (h : Ac w.heap.size W b lq3) => regs_any w.heap.size b lq3 W h
  have c6 := fun b W (h : Ac w.heap.size W b lq3) => dup_any w.heap.size b lq3 0 1 W h (by decide)
  rw [l1] at c1
  rw [l2] at c2
  rw [l5] at c3
  rw [l3] at c4
  rw [l6] at c5
  rw [l4] at c6
  change ∀ b W, Ac w.heap.size W b lq2 → Calls _ _ #[_] _ (fun r w' => r = .returned (.agg #[.int .u16 64, .int .u16 0, .int .u16 300, .int .u16 1, .int .u16 0, .int .u16 0, .int .u16 0, .int .u16 0, .int .u16 0]) ∧ Below W.heap.size W w') at c3
  change ∀ b W, Ac w.heap.size W b lq3 → Calls _ _ #[_] _ (fun r w' => r = .returned (.agg #[.int .u16 8, .int .u16 0, .int .u16 0, .int .u16 0, .int .u16 0, .int .u16 0, .int .u16 0, .int .u16 0, .int .u16 0]) ∧ Below W.heap.size W w') at c5
  have eG := eqGuardR
  have eM : ∀ w, (Op.equalIn 10000 26 (.agg #[.int .u16 8, .int .u16 0, .int .u16 0, .int .u16 0, .int .u16 0, .int .u16 0, .int .u16 0, .int .u16 0, .int .u16 0]) (.agg #[.int .u16 8, .int .u16 0, .int .u16 0, .int .u16 0, .int .u16 0, .int .u16 0, .int .u16 0, .int .u16 0, .int .u16 0])).run Try.prog w = .ok true w := fun w => eqRgs w s8
  go_enter Try.func10, Try.ntmps10
  go_wp2_with fail
  refine cN.mono ?_
  rintro e W1 ⟨b, rfl, hA1, hB1⟩
  have HB1 := Hid3.mk hB1
  have d1 := c1 b W1 hA1
  clear cN c1 hA1 hB1
  go_wp2_with fail
  refine d1.mono ?_
  rintro e W2 ⟨rfl, hS2⟩
  have HB2 : Hid3 (Below w.heap.size w W2) := ⟨HB1.out.trans (hS2.ap.below w.heap.size (fun k e => by have e' : k = b := e; rw [e']; exact hS2.a.g) HB1.out.size)⟩
  have d2 := c2 b W2 hS2.a
  clear d1 c2 hS2 HB1
  go_wp2_with fail
  refine d2.mono ?_
  rintro e W3 ⟨rfl, hS3⟩
  have HB3 : Hid3 (Below w.heap.size w W3) := ⟨HB2.out.trans (hS3.ap.below w.heap.size (fun k e => by have e' : k = b := e; rw [e']; exact hS3.a.g) HB2.out.size)⟩
  have d3 := c3 b W3 hS3.a
  have HA3 : Hid3 (Ac w.heap.size W3 b lq2) := ⟨hS3.a⟩
  clear d2 c3 hS3 HB2
  go_wp2_with fail
  refine d3.mono ?_
  rintro e W4 ⟨rfl, hB4⟩
  have hX := below_new W4 (.cells #[.int .u16 64, .int .u16 0, .int .u16 300, .int .u16 1, .int .u16 0, .int .u16 0, .int .u16 0, .int .u16 0, .int .u16 0] 26)
  have hB5 := HB3.out.trans (hB4.mono HB3.out.size)
  have HB5 := Hid3.mk (hB5.trans (hX.mono hB5.size))
  have d4 := c4 b _ ((HA3.out.below hB4).below hX)
  have HL := Hid3.mk (Cl.new W4 26 [.int .u16 64, .int .u16 0, .int .u16 300, .int .u16 1, .int .u16 0, .int .u16 0, .int .u16 0, .int .u16 0, .int .u16 0])
  have hb4 := (HA3.out.below hB4).lt
  clear d3 c4 hB4 hX hB5 HB3
  go_wp2_with fail
  refine d4.mono ?_
  rintro e W5 ⟨rfl, hS5⟩
  have hCl := HL.out.stay hS5.ap (fun e => by have e' : W4.heap.size = b := e; omega)
  have x0 := hCl.cell 0
  have x2 := hCl.cell 2
  have x3 := hCl.cell 3
  have hlx := hCl.lt
  change _ = some _ at x0
  change _ = some _ at x2
  change _ = some _ at x3
  have HB6 : Hid3 (Below w.heap.size w W5) := ⟨HB5.out.trans (hS5.ap.below w.heap.size (fun k e => by have e' : k = b := e; rw [e']; exact hS5.a.g) HB5.out.size)⟩
  have HA5 : Hid3 (Ac w.heap.size W5 b lq3) := ⟨hS5.a⟩
  have d5 := c5 b W5 hS5.a
  clear d4 c5 hS5 hCl HL HA3 HB5
  generalize W4.heap.size = x at *
  go_wp2_with fail
  refine d5.mono ?_
  rintro e W6 ⟨rfl, hB6⟩
  have d6 := c6 b W6 (HA5.out.below hB6)
  have HB7 : Hid3 (Below w.heap.size w W6) := ⟨HB6.out.trans (hB6.mono HB6.out.size)⟩
  clear d5 c6 HB6 HA5 hB6
  go_wp2_with fail
  refine d6.mono ?_
  rintro e W7 ⟨rfl, hS7⟩
  have HB8 : Hid3 (Below w.heap.size w W7) := ⟨HB7.out.trans (hS7.ap.below w.heap.size (fun k e => by have e' : k = b := e; rw [e']; exact hS7.a.g) HB7.out.size)⟩
  clear d6 hS7 HB7
  go_wp2
  go_ret
  exact ⟨rfl, HB8.out⟩
end Go.Proofs.Ytgoofonogdhhoaa
