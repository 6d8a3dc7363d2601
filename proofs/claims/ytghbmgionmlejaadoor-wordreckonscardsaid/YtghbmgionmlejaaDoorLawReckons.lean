/- The law WordReckons: its walk. -/
import Derived.Test.YtghbmgionmlejaaDoorLive
namespace Go.Proofs.YtghbmgionmlejaaDoor
open Go.RowKit
set_option linter.unusedVariables false

theorem reckons_walk (a b : Int) (w : World) (ha : 0 ≤ a) (ha2 : a ≤ 65535) (hb : 0 ≤ b) (hb2 : b ≤ 65535) (hT : Tabs w) :
    Calls Tryd.prog 3 #[.int .u16 a, .int .u16 b] w fun e w' => e = .returned (.bool true) ∧ Below w.heap.size w w' := by
  have c1 := add_any a b w ha ha2 hb hb2
  have c2 := radd_any a b w ha ha2 hb hb2
  have c3 := sub_any a b w
  have c4 := rsub_any a b w ha ha2 hb hb2
  have c5 := mul_any a b w ha ha2 hb hb2
  have c6 := rmul_any a b w ha ha2 hb hb2
  have c9 := fun w => neg_any a w ha ha2
  have c10 := fun w => rneg_any a w ha ha2
  generalize decide (a < b) = lt at *
  by_cases hz : b = 0
  · subst hz
    have c7 := div_zero a w
    have c8 := rdiv_zero a w
    have c0 := live_any w hT
    go_enter Tryd.func3, Tryd.ntmps3
    go_wp2_with fail
    refine (c1).mono fun e y1 ⟨he, hw⟩ => ?_
    subst he; subst hw
    go_wp2_with fail
    refine (c2).mono fun e y2 ⟨he, hw⟩ => ?_
    subst he; subst hw
    go_wp2_with fail
    refine (c3).mono fun e y3 ⟨he, hw⟩ => ?_
    subst he; subst hw
    go_wp2_with fail
    refine (c4).mono fun e y4 ⟨he, hw⟩ => ?_
    subst he; subst hw
    go_wp2_with fail
    refine (c5).mono fun e y5 ⟨he, hw⟩ => ?_
    subst he; subst hw
    go_wp2_with fail
    refine (c6).mono fun e y6 ⟨he, hw⟩ => ?_
    subst he; subst hw
    go_wp2_with fail
    refine (c7).mono fun e y7 ⟨he, hw⟩ => ?_
    subst he; subst hw
    go_wp2_with fail
    refine (c8).mono fun e y8 ⟨he, hw⟩ => ?_
    subst he; subst hw
    go_wp2_with fail
    refine (c0).mono fun e y0 ⟨he, hb0⟩ => ?_
    subst he
    go_wp2_with fail
    refine (c9 _).mono fun e y9 ⟨he, hw⟩ => ?_
    subst he; subst hw
    go_wp2_with fail
    refine (c10 _).mono fun e y10 ⟨he, hw⟩ => ?_
    subst he; subst hw
    go_wp2
    go_ret
    exact ⟨rfl, hb0⟩
  · have c7 := div_any a b w ha ha2 (by omega) hb2
    have c8 := fun w => rdiv_any a b w ha ha2 (by omega) hb2
    have c0 := fun n => live_any (w.drewN n) (hT.later (below_drewN (Below.refl _ _) n))
    generalize a / b = q at *
    generalize a % b = r at *
    go_enter Tryd.func3, Tryd.ntmps3
    go_wp2_with fail
    refine (c1).mono fun e y1 ⟨he, hw⟩ => ?_
    subst he; subst hw
    go_wp2_with fail
    refine (c2).mono fun e y2 ⟨he, hw⟩ => ?_
    subst he; subst hw
    go_wp2_with fail
    refine (c3).mono fun e y3 ⟨he, hw⟩ => ?_
    subst he; subst hw
    go_wp2_with fail
    refine (c4).mono fun e y4 ⟨he, hw⟩ => ?_
    subst he; subst hw
    go_wp2_with fail
    refine (c5).mono fun e y5 ⟨he, hw⟩ => ?_
    subst he; subst hw
    go_wp2_with fail
    refine (c6).mono fun e y6 ⟨he, hw⟩ => ?_
    subst he; subst hw
    go_wp2_with fail
    refine c7.mono fun e y7 ⟨he, n, hw⟩ => ?_
    subst he; subst hw
    go_wp2_with fail
    refine (c8 _).mono fun e y8 ⟨he, m, hw⟩ => ?_
    subst he; subst hw
    go_wp2_with fail
    refine (c0 _).mono fun e y0 ⟨he, hb0⟩ => ?_
    subst he
    go_wp2_with fail
    refine (c9 _).mono fun e y9 ⟨he, hw⟩ => ?_
    subst he; subst hw
    go_wp2_with fail
    refine (c10 _).mono fun e y10 ⟨he, hw⟩ => ?_
    subst he; subst hw
    go_wp2
    go_ret
    exact ⟨rfl, (below_drewN (Below.refl _ _) _).trans hb0⟩
end Go.Proofs.YtghbmgionmlejaaDoor
