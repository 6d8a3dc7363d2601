/- The law WordBack: its walk. -/
import Derived.Test.YtghbmgionmlejaaDoorLive
namespace Go.Proofs.YtghbmgionmlejaaDoor
open Go.RowKit
set_option linter.unusedVariables false

theorem back_walk (a b : Int) (w : World) (ha : 0 ≤ a) (ha2 : a ≤ 65535) (hb : 0 ≤ b) (hb2 : b ≤ 65535) (hT : Tabs w) :
    Calls Tryd.prog 7 #[.int .u16 a, .int .u16 b] w fun e w' => e = .returned (.bool true) ∧ Below w.heap.size w w' := by
  have c1 := add_any a b w ha ha2 hb hb2
  have c2 := sub_any (addV a b) b w
  have e1 : subV (addV a b) b = a := by unfold subV addV; omega
  have e2 : decide (addV a b < a) = carryV a b := by unfold addV carryV; exact decide_eq_decide.2 (by omega)
  have e3 : decide (addV a b < b) = carryV a b := by unfold addV carryV; exact decide_eq_decide.2 (by omega)
  rw [e1, e3] at c2
  by_cases hz : b = 0
  · subst hz
    have c3 := div_zero a w
    have c4 := live_any w hT
    clear e1
    go_enter Tryd.func7, Tryd.ntmps7
    go_wp2_with (first | (go_at_call 9; refine c1.mono ?_; rintro e w0 ⟨rfl, rfl⟩) | (go_at_call 11; refine c2.mono ?_; rintro e w0 ⟨rfl, rfl⟩) | (go_at_call 15; refine c3.mono ?_; rintro e w0 ⟨rfl, rfl⟩) | (go_at_call 17; refine c4.mono ?_; rintro e w0 ⟨rfl, hb4⟩))
    go_ret
    exact ⟨rfl, hb4⟩
  · have hq : 0 ≤ a / b := Int.ediv_nonneg ha hb
    have hq2 : a / b ≤ a := Int.ediv_le_self b ha
    have hr := Int.emod_nonneg a hz
    have hr2 : a % b < b := Int.emod_lt_of_pos a (by omega)
    have hm : a / b * b + a % b = a := by rw [Int.mul_comm]; exact Int.mul_ediv_add_emod a b
    have hp : 0 ≤ a / b * b := Int.mul_nonneg hq hb
    have c3 := div_any a b w ha ha2 (by omega) hb2
    have c4 := fun w => mul_any (a / b) b w hq (by omega) hb hb2
    have f1 : hiV (a / b) b = 0 := by unfold hiV; omega
    have f2 : loV (a / b) b = a / b * b := by unfold loV; omega
    rw [f1, f2] at c4
    have c5 := fun w => add_any (a / b * b) (a % b) w hp (by omega) hr (by omega)
    have f3 : addV (a / b * b) (a % b) = a := by unfold addV; omega
    have f4 : carryV (a / b * b) (a % b) = false := by unfold carryV; exact decide_eq_false (by omega)
    rw [f3, f4] at c5
    have c6 := fun n => live_any (w.drewN n) (hT.later (below_drewN (Below.refl _ _) n))
    have hbz : (b == 0) = false := by rw [beq_eq_false_iff_ne]; exact hz
    have hrd : decide (a % b < b) = true := decide_eq_true hr2
    clear e1 f1 f2 f3 f4 hm hp hq hq2 hz
    go_enter Tryd.func7, Tryd.ntmps7
    go_wp2_with fail
    refine c1.mono fun e w0 ⟨he, hw⟩ => ?_
    subst he; subst hw
    go_wp2_with fail
    refine c2.mono fun e w1 ⟨he, hw⟩ => ?_
    subst he; subst hw
    go_wp2_with fail
    refine c3.mono fun e w2 ⟨he, n, hw⟩ => ?_
    subst he; subst hw
    go_wp2_with fail
    refine (c4 _).mono fun e w3 ⟨he, hw⟩ => ?_
    subst he; subst hw
    go_wp2_with fail
    refine (c5 _).mono fun e w4 ⟨he, hw⟩ => ?_
    subst he; subst hw
    go_wp2_with fail
    refine (c6 _).mono fun e w5 ⟨he, hb5⟩ => ?_
    subst he
    go_wp2
    go_ret
    exact ⟨rfl, (below_drewN (Below.refl _ _) n).trans (hb5.mono (Nat.le_refl _))⟩
end Go.Proofs.YtghbmgionmlejaaDoor
