/- The program's table: who is asked. -/
import Derived.Test.YtioinppclejbhaaDoorCaE
namespace Go.Proofs.YtioinppclejbhaaDoor
open Go.RowKit Go.Maps Go.Sort
set_option linter.unusedVariables false
set_option maxRecDepth 100000
set_option maxHeartbeats 1000000 in
theorem room1_any (o : Option Rc) (w : World) : Calls Tryd.prog 58 #[.agg #[.string (slotC o).1, .int .u8 (slotC o).2.toNat]] w fun r w' => r = .returned (.bool (!o.isSome)) ∧ Below w.heap.size w w' := by
  have hX := below_new w (.cells #[.string (slotC o).1, .int .u8 (slotC o).2.toNat] 31)
  have hT := Two.new w 31 (.string (slotC o).1) (.int .u8 (slotC o).2.toNat)
  have eG := eqGuardC
  have eM := fun w => eqC w (slotC o).1 ⟨#[]⟩ (slotC o).2.toNat 0
  rw [slot_none o] at eM
  generalize (slotC o).1 = n at *
  generalize ((slotC o).2.toNat : Int) = r at *
  generalize o.isSome = z at *
  go_enter Tryd.func58, Tryd.ntmps58
  go_wp2_with fail
  generalize (w.alloc (.cells #[.string n, .int .u8 r] 31)) = W at *
  have c0 := hT.c0
  have c1 := hT.c1
  have g0 := fun d os => cell_regrown c0 d os
  have g1 := fun d os => cell_regrown c1 d os
  have dN := fun d os => Calls.regrown_of (none_any (grow (redrawn W d) os))
  clear hT
  refine wp_region_quiet_below (by kernel_rfl) (by kernel_rfl) ?_
  repeat (quiet_step (exact dN _ _))
  refine wpQuiet_nil ?_
  intro _ hw'
  obtain ⟨⟨dq, osq⟩, hw''⟩ := hw'
  subst hw''
  have hR : Hid (Below w.heap.size w (grow (redrawn W dq) osq)) := hX.trans ((below_regrown W dq osq).mono hX.size)
  clear hX g0 g1 dN c0 c1 eM eG
  go_wp2
  go_ret
  exact ⟨rfl, hR.out⟩
set_option maxHeartbeats 1000000 in
theorem slots1_any (o : Option Rc) (w : World) : Calls Tryd.prog 39 #[.agg #[.string (slotC o).1, .int .u8 (slotC o).2.toNat]] w fun r w' => r = .returned (.bool o.isSome) ∧ Below w.heap.size w w' := by
  have hX := below_new w (.cells #[.string (slotC o).1, .int .u8 (slotC o).2.toNat] 31)
  have hT := Two.new w 31 (.string (slotC o).1) (.int .u8 (slotC o).2.toNat)
  have eG := eqGuardC
  have eM := fun w => eqC w (slotC o).1 ⟨#[]⟩ (slotC o).2.toNat 0
  rw [slot_none o] at eM
  generalize (slotC o).1 = n at *
  generalize ((slotC o).2.toNat : Int) = r at *
  generalize o.isSome = z at *
  go_enter Tryd.func39, Tryd.ntmps39
  go_wp2_with fail
  generalize (w.alloc (.cells #[.string n, .int .u8 r] 31)) = W at *
  have c0 := hT.c0
  have c1 := hT.c1
  have g0 := fun d os => cell_regrown c0 d os
  have g1 := fun d os => cell_regrown c1 d os
  have dN := fun d os => Calls.regrown_of (none_any (grow (redrawn W d) os))
  clear hT
  refine wp_region_quiet_below (by kernel_rfl) (by kernel_rfl) ?_
  repeat (quiet_step (exact dN _ _))
  refine wpQuiet_nil ?_
  intro _ hw'
  obtain ⟨⟨dq, osq⟩, hw''⟩ := hw'
  subst hw''
  have hR : Hid (Below w.heap.size w (grow (redrawn W dq) osq)) := hX.trans ((below_regrown W dq osq).mono hX.size)
  clear hX g0 g1 dN c0 c1 eM eG
  go_wp2
  go_ret
  exact ⟨by simp, hR.out⟩
theorem find1_any (c g : Cp) (bx : Nat) (w : World) (hc : c.1.size ≤ 1000) (hg : g.1.size ≤ 1000) (h0 : w.cell? ⟨bx, 0, none⟩ = some (.string g.1)) (h1 : w.cell? ⟨bx, 1, none⟩ = some (.int .u8 g.2.toNat)) : Calls Tryd.prog 35 #[.agg #[.string c.1, .int .u8 c.2.toNat], .pointer (some ⟨bx, 0, none⟩)] w fun r w' => r = .returned (.bool (opensB c.1.data.toList c.2 g.1.data.toList g.2)) ∧ Below w.heap.size w w' := by
  have hX := below_new w (.cells #[.string c.1, .int .u8 c.2.toNat] 31)
  have hT := Two.new w 31 (.string c.1) (.int .u8 c.2.toNat)
  have hb := World.block_lt_of_cell? w _ h0
  have k0 := (hX.cell (p := ⟨bx, 0, none⟩) hb).trans h0
  have k1 := (hX.cell (p := ⟨bx, 1, none⟩) hb).trans h1
  have cO := fun w => opens_any c.1 g.1 c.2 g.2 w hc hg
  unfold capV at cO
  generalize opensB c.1.data.toList c.2 g.1.data.toList g.2 = z at *
  clear hc hg h0 h1
  go_enter Tryd.func35, Tryd.ntmps35
  go_wp2_with fail
  generalize (w.alloc (.cells #[.string c.1, .int .u8 c.2.toNat] 31)) = W at *
  have c0 := hT.c0
  have c1 := hT.c1
  go_wp2_with fail
  refine (cO W).mono ?_
  rintro r W1 ⟨rfl, hB⟩
  have hR : Hid (Below w.heap.size w W1) := hX.trans (hB.mono hX.size)
  clear hX hB c0 c1 k0 k1 cO hT
  go_wp2
  go_ret
  exact ⟨rfl, hR.out⟩
theorem revoke1_any (c : Cp) (top : ByteArray) (bx : Nat) (w : World) (hc : c.1.size ≤ 1000) (hg : top.size ≤ 1000) (h0 : w.cell? ⟨bx, 0, none⟩ = some (.string top)) : Calls Tryd.prog 46 #[.agg #[.string c.1, .int .u8 c.2.toNat], .pointer (some ⟨bx, 0, none⟩)] w fun r w' => r = .returned (.bool (aboveB top.data.toList c.1.data.toList)) ∧ Below w.heap.size w w' := by
  have hX := below_new w (.cells #[.string c.1, .int .u8 c.2.toNat] 31)
  have hT := Two.new w 31 (.string c.1) (.int .u8 c.2.toNat)
  have hb := World.block_lt_of_cell? w _ h0
  have k0 := (hX.cell (p := ⟨bx, 0, none⟩) hb).trans h0
  have cO := fun w => above_any top c.1 w hg hc
  generalize aboveB top.data.toList c.1.data.toList = z at *
  clear hc hg h0
  go_enter Tryd.func46, Tryd.ntmps46
  go_wp2_with fail
  generalize (w.alloc (.cells #[.string c.1, .int .u8 c.2.toNat] 31)) = W at *
  have c0 := hT.c0
  have c1 := hT.c1
  go_wp2_with fail
  refine (cO W).mono ?_
  rintro r W1 ⟨rfl, hB⟩
  have hR : Hid (Below w.heap.size w W1) := hX.trans (hB.mono hX.size)
  clear hX hB c0 c1 k0 cO hT
  go_wp2
  go_ret
  exact ⟨rfl, hR.out⟩
end Go.Proofs.YtioinppclejbhaaDoor
