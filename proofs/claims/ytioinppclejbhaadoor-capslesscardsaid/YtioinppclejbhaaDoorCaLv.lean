/- live. -/
import Derived.Test.YtioinppclejbhaaDoorCaE
namespace Go.Proofs.YtioinppclejbhaaDoor
open Go.RowKit Go.Maps Go.Sort
set_option linter.unusedVariables false
set_option maxRecDepth 100000
def lc0 : Rc := ⟨(⟨#[47]⟩, 9#8), by decide, by decide⟩
def lc1 : Rc := ⟨(⟨#[47, 97]⟩, 9#8), by decide, by decide⟩
def lc2 : Rc := ⟨(⟨#[47, 97]⟩, 1#8), by decide, by decide⟩
theorem lo1 : deriveO [47] 9#8 [97] = ([47, 97], 9#8, 0) := by decide
theorem lo2 : restrictO [47, 97] 9#8 1#8 = ([47, 97], 1#8, 0) := by decide
def ls0 : Sl := fun _ => none
def ls1 : Sl := putS ls0 0 lc0
def ls2 : Sl := putS ls1 1 lc1
def ls3 : Sl := putS ls2 2 lc2
set_option maxHeartbeats 2000000 in
theorem live_any (w : World) : Calls Tryd.prog 10 #[] w fun e w' => e = .returned (.bool true) ∧ Below w.heap.size w w' := by
  have cN := new_any w w.heap.size (Nat.le_refl _)
  have c1 := fun W (h : Tb 71 w.heap.size W w.heap.size ls0) => put_right w.heap.size w.heap.size ls0 0 lc0 W h
  have c2 := fun W (h : Tb 71 w.heap.size W w.heap.size ls1) => tderive_go w.heap.size w.heap.size ls1 0 1 lc0 lc1 ⟨#[97]⟩ (by decide) (by rfl) lo1 W h
  have c3 := fun W (h : Tb 71 w.heap.size W w.heap.size ls2) => trestrict_go w.heap.size w.heap.size ls2 1 2 lc1 lc2 1#8 (by rfl) lo2 W h
  have c4 := fun W (h : Tb 71 w.heap.size W w.heap.size ls3) => get_ok w.heap.size w.heap.size ls3 2 W h
  have e1 : putE ls0 0 = 0 := rfl
  have e2 : putE ls1 1 = 0 := rfl
  have e3 : putE ls2 2 = 0 := rfl
  have e4 : ls3 2 = some lc2 := rfl
  rw [e1] at c1
  rw [e2] at c2
  rw [e3] at c3
  rw [e4] at c4
  change ∀ W, Tb _ _ _ _ _ → Calls _ _ #[_, .int .i64 0, .agg #[.string ⟨#[47]⟩, .int .u8 9]] _ (fun r w' => _ ∧ TStp _ _ W w' _ ls1) at c1
  change ∀ W, Tb _ _ _ _ _ → Calls _ _ #[_, .int .i64 0, .int .i64 1, _] _ (fun r w' => ∃ e, _ ∧ (_ ∧ TStp _ _ W w' _ ls2)) at c2
  change ∀ W, Tb _ _ _ _ _ → Calls _ _ #[_, .int .i64 1, .int .i64 2, .int .u8 1] _ (fun r w' => ∃ e, _ ∧ (_ ∧ TStp _ _ W w' _ ls3)) at c3
  change ∀ W, Tb _ _ _ _ _ → Calls _ _ #[_, .int .i64 2] _ (fun r w' => r = .returned (.tuple #[.agg #[.string ⟨#[47, 97]⟩, .int .u8 1], .int .i64 0]) ∧ _) at c4
  change Calls _ _ _ _ (fun r w' => _ ∧ Tb _ _ _ _ ls0 ∧ _) at cN
  clear e1 e2 e3 e4
  generalize ls3 = s3 at *
  generalize ls2 = s2 at *
  generalize ls1 = s1 at *
  generalize ls0 = s0 at *
  have eG := eqGuardC
  have eM : ∀ w, (Op.equalIn 10000 31 (.agg #[.string ⟨#[47, 97]⟩, .int .u8 1]) (.agg #[.string ⟨#[47, 97]⟩, .int .u8 1])).run Tryd.prog w = .ok true w := fun w => by
    have := eqC w ⟨#[47, 97]⟩ ⟨#[47, 97]⟩ 1 1
    simpa using this
  go_enter Tryd.func10, Tryd.ntmps10
  go_wp2_with fail
  refine cN.mono ?_
  rintro e W0 ⟨rfl, h0, hB0⟩
  have c1' := c1 W0 h0
  clear c1 cN
  go_wp2_with fail
  refine c1'.mono ?_
  rintro e W1 ⟨rfl, p1⟩
  have hB1 := hB0.trans (p1.belowB h0 hB0.size)
  have h1 := p1.tb
  have c2' := c2 W1 h1
  clear c2 c1' p1 h0 hB0
  go_wp2_with fail
  refine c2'.mono ?_
  rintro e W2 ⟨_, rfl, rfl, p2⟩
  have hB2 := hB1.trans (p2.belowB h1 hB1.size)
  have h2 := p2.tb
  have c3' := c3 W2 h2
  clear c3 c2' p2 h1 hB1
  go_wp2_with fail
  refine c3'.mono ?_
  rintro e W3 ⟨_, rfl, rfl, p3⟩
  have hB3 := hB2.trans (p3.belowB h2 hB2.size)
  have h3 := p3.tb
  have c4' := c4 W3 h3
  clear c4 c3' p3 h2 hB2
  go_wp2_with fail
  refine c4'.mono ?_
  rintro e W4 ⟨rfl, hB4⟩
  have hB5 := hB3.trans (hB4.mono hB3.size)
  have HB : Hid (Below w.heap.size w (W4.alloc (.cells #[.string ⟨#[47, 97]⟩, .int .u8 1] 31))) := hB5.alloc hB5.size _
  clear c4' h3 hB3 hB4 hB5
  go_wp2
  go_ret
  exact ⟨rfl, HB.out⟩
end Go.Proofs.YtioinppclejbhaaDoor
