/- The document's table: Find. -/
import Derived.Test.YtioinppclejbhaaDoorCaT
namespace Go.Proofs.YtioinppclejbhaaDoor
open Go.RowKit Go.Maps Go.Sort
set_option linter.unusedVariables false
set_option maxRecDepth 100000
set_option maxHeartbeats 2000000 in
theorem rfind_any (B b : Nat) (s : Sl) (g : Cp) (q : Fin 12 → Bool) (w : World) (h : Tb 61 B w b s) (cO : ∀ (k : Fin 12) W, Below w.heap.size w W → Calls Tryd.prog 37 #[.agg #[.string (slotC (s k)).1, .int .u8 (slotC (s k)).2.toNat], .agg #[.string g.1, .int .u8 g.2.toNat]] W fun e w' => e = .returned (.bool (q k)) ∧ Below W.heap.size W w') : Calls Tryd.prog 14 #[.pointer (some ⟨b, 0, none⟩), .agg #[.string g.1, .int .u8 g.2.toNat]] w fun r w' => r = .returned (.tuple #[.int .i64 (firstO q 7).1, .int .i64 (firstO q 7).2]) ∧ Below w.heap.size w w' := by
  have hX := below_new w (.cells #[.string g.1, .int .u8 g.2.toNat] 31)
  have hT := Two.new w 31 (.string g.1) (.int .u8 g.2.toNat)
  have hs : w.heap.size < (w.alloc (.cells #[.string g.1, .int .u8 g.2.toNat] 31)).heap.size := by simp
  have HA : Hid (∀ W, Below w.heap.size w W → ∀ k : Fin 12, W.cell? ⟨b, k.1 * 2, none⟩ = some (.string (slotC (s k)).1) ∧ W.cell? ⟨b, k.1 * 2 + 1, none⟩ = some (.int .u8 (slotC (s k)).2.toNat)) := fun W hW k => ((h.below hW).at k).1
  have HO := Hid3.mk cO
  clear h cO
  go_enter Tryd.func14, Tryd.ntmps14
  go_wp2
  generalize (w.alloc (.cells #[.string g.1, .int .u8 g.2.toNat] 31)) = W0 at *
  go_loopw [6] (fun i W => ∃ k : Nat, i = .int .i64 k ∧ k ≤ 12 ∧ Hid (Below W0.heap.size W0 W) ∧ Hid (thL q k = [])) (fun i _ => 12 - (intOf i).toNat)
  case atStart => exact ⟨0, rfl, Nat.zero_le _, Below.refl _ _, rfl⟩
  case round =>
    obtain ⟨k, rfl, hk, HW, hL⟩ := hrel
    have HB : Hid (Below w.heap.size w wr) := hX.trans (HW.out.mono hX.size)
    by_cases hk8 : k < 12
    · have hkz : (k : Int) < 12 := by omega
      have c0 := (HA.out wr HB.out ⟨k, hk8⟩).1
      have c1 := (HA.out wr HB.out ⟨k, hk8⟩).2
      have hT1 := hT.below HW.out hs
      have d0 := hT1.c0
      have d1 := hT1.c1
      have cO := fun W hW => HO.out ⟨k, hk8⟩ W hW
      simp only at c0 c1
      generalize (slotC (s ⟨k, hk8⟩)).1 = n at *
      generalize ((slotC (s ⟨k, hk8⟩)).2.toNat : Int) = r at *
      have g0 := fun d os => cell_regrown c0 d os
      have g1 := fun d os => cell_regrown c1 d os
      have e0 := fun d os => cell_regrown d0 d os
      have e1 := fun d os => cell_regrown d1 d os
      have dO := fun d os => Calls.regrown_of (cO (grow (redrawn wr d) os) (HB.out.trans ((below_regrown wr d os).mono HB.out.size)))
      clear cO hT1 HO
      cases hq : q ⟨k, hk8⟩ with
      | true =>
        rw [hq] at dO
        have HF : Hid (firstO q 7 = ((k : Int), 0)) := firstO_at q 7 k hk8 hL.out hq
        clear HA hq
        go_wp2_with fail
        refine wp_region_quiet_below (by kernel_rfl) (by kernel_rfl) ?_
        repeat (quiet_step (exact dO _ _))
        refine wpQuiet_nil ?_
        intro _ hw'
        obtain ⟨⟨dq, osq⟩, hw''⟩ := hw'
        subst hw''
        have hR : Hid (Below w.heap.size w (grow (redrawn wr dq) osq)) := HB.out.trans ((below_regrown wr dq osq).mono HB.out.size)
        clear g0 g1 e0 e1 dO c0 c1 d0 d1
        go_wp2
        go_ret2
        exact ⟨by rw [HF.out]; rfl, hR.out⟩
      | false =>
        rw [hq] at dO
        have HF : Hid (thL q (k + 1) = []) := thL_no q k hk8 hL.out hq
        clear HA hq
        go_wp2_with fail
        refine wp_region_quiet_below (by kernel_rfl) (by kernel_rfl) ?_
        repeat (quiet_step (exact dO _ _))
        refine wpQuiet_nil ?_
        intro _ hw'
        obtain ⟨⟨dq, osq⟩, hw''⟩ := hw'
        subst hw''
        have hR : Hid (Below W0.heap.size W0 (grow (redrawn wr dq) osq)) := HW.out.trans ((below_regrown wr dq osq).mono HW.out.size)
        clear g0 g1 e0 e1 dO c0 c1 d0 d1
        go_wp2
        go_roundw
        case rel => exact ⟨k + 1, by go_num, by omega, hR.out, HF.out⟩
        case measure => simp [intOf]; omega
    · have hkz : ¬ (k : Int) < 12 := by omega
      obtain rfl : k = 12 := by omega
      have HF : Hid (firstO q 7 = (0, 7)) := firstO_no q 7 hL.out
      clear HA HO
      go_wp2
      go_ret2
      exact ⟨by rw [HF.out]; rfl, HB.out⟩
end Go.Proofs.YtioinppclejbhaaDoor
