/- The program's table: who is asked. -/
import Derived.Test.YtedknoadcdnioaaCaE
namespace Go.Proofs.Ytedknoadcdnioaa
open Go.RowKit Go.Maps Go.Sort
set_option linter.unusedVariables false
set_option maxRecDepth 100000
theorem find1_any (c g : Cp) (bx : Nat) (w : World) (hc : c.1.size ≤ 1000) (hg : g.1.size ≤ 1000) (h0 : w.cell? ⟨bx, 0, none⟩ = some (.string g.1)) (h1 : w.cell? ⟨bx, 1, none⟩ = some (.int .u8 g.2.toNat)) : Calls Try.prog 28 #[.agg #[.string c.1, .int .u8 c.2.toNat], .pointer (some ⟨bx, 0, none⟩)] w fun r w' => r = .returned (.bool (opensB c.1.data.toList c.2 g.1.data.toList g.2)) ∧ Below w.heap.size w w' := by
  have hX := below_new w (.cells #[.string c.1, .int .u8 c.2.toNat] 27)
  have hT := Two.new w 27 (.string c.1) (.int .u8 c.2.toNat)
  have hb := World.block_lt_of_cell? w _ h0
  have k0 := (hX.cell (p := ⟨bx, 0, none⟩) hb).trans h0
  have k1 := (hX.cell (p := ⟨bx, 1, none⟩) hb).trans h1
  have cO := fun w => opens_any c.1 g.1 c.2 g.2 w hc hg
  unfold capV at cO
  generalize opensB c.1.data.toList c.2 g.1.data.toList g.2 = z at *
  clear hc hg h0 h1
  go_enter Try.func28, Try.ntmps28
  go_wp2_with fail
  generalize (w.alloc (.cells #[.string c.1, .int .u8 c.2.toNat] 27)) = W at *
  have c0 := hT.c0
  have c1 := hT.c1
  go_wp2_with fail
  refine (cO W).mono ?_
  rintro r W1 ⟨rfl, hB⟩
  have hR : Hid (Below w.heap.size w W1) := hX.trans (hB.mono hX.size)
  clear hX hB c0 c1 k0 k1 cO hT
  go_wp2
  go_ret
  exact ⟨rfl, hR.out⟩
theorem revoke1_any (c : Cp) (top : ByteArray) (bx : Nat) (w : World) (hc : c.1.size ≤ 1000) (hg : top.size ≤ 1000) (h0 : w.cell? ⟨bx, 0, none⟩ = some (.string top)) : Calls Try.prog 20 #[.agg #[.string c.1, .int .u8 c.2.toNat], .pointer (some ⟨bx, 0, none⟩)] w fun r w' => r = .returned (.bool (aboveB top.data.toList c.1.data.toList)) ∧ Below w.heap.size w w' := by
  have hX := below_new w (.cells #[.string c.1, .int .u8 c.2.toNat] 27)
  have hT := Two.new w 27 (.string c.1) (.int .u8 c.2.toNat)
  have hb := World.block_lt_of_cell? w _ h0
  have k0 := (hX.cell (p := ⟨bx, 0, none⟩) hb).trans h0
  have cO := fun w => above_any top c.1 w hg hc
  generalize aboveB top.data.toList c.1.data.toList = z at *
  clear hc hg h0
  go_enter Try.func20, Try.ntmps20
  go_wp2_with fail
  generalize (w.alloc (.cells #[.string c.1, .int .u8 c.2.toNat] 27)) = W at *
  have c0 := hT.c0
  have c1 := hT.c1
  go_wp2_with fail
  refine (cO W).mono ?_
  rintro r W1 ⟨rfl, hB⟩
  have hR : Hid (Below w.heap.size w W1) := hX.trans (hB.mono hX.size)
  clear hX hB c0 c1 k0 cO hT
  go_wp2
  go_ret
  exact ⟨rfl, hR.out⟩
end Go.Proofs.Ytedknoadcdnioaa
