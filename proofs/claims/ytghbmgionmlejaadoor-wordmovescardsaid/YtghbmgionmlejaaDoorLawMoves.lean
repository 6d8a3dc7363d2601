/- The law WordMoves: its walk. -/
import Derived.Test.YtghbmgionmlejaaDoorLive
namespace Go.Proofs.YtghbmgionmlejaaDoor
open Go.RowKit
set_option linter.unusedVariables false

theorem moves_walk (a n : Int) (w : World) (ha : 0 ≤ a) (ha2 : a ≤ 65535) (hn : -9223372036854775808 ≤ n) (hn2 : n ≤ 9223372036854775807) (hT : Tabs w) :
    Calls Tryd.prog 4 #[.int .u16 a, .int .i64 n] w fun e w' => e = .returned (.bool true) ∧ Below w.heap.size w w' := by
  have c0 := live_any w hT
  have c1 := fun w => shl_any a n w ha ha2
  have c2 := fun w => rshl_any a n w ha ha2
  have c3 := fun w => shr_any a n w ha ha2
  have c4 := fun w => rshr_any a n w ha ha2
  have c5 := fun w => sar_any a n w ha ha2
  have c6 := fun w => rsar_any a n w ha ha2
  have c7 := fun w => rot_any a n w ha ha2
  have c8 := fun w => rrot_any a n w ha ha2
  have c9 := fun w => ones_any a w ha ha2
  have c10 := fun w => rones_any a w ha ha2
  clear hn hn2
  go_enter Tryd.func4, Tryd.ntmps4
  go_wp2_with fail
  refine (c0).mono fun e y0 ⟨he, hb0⟩ => ?_
  subst he
  go_wp2_with fail
  refine (c1 _).mono fun e y1 ⟨he, hw⟩ => ?_
  subst he; subst hw
  go_wp2_with fail
  refine (c2 _).mono fun e y2 ⟨he, hw⟩ => ?_
  subst he; subst hw
  go_wp2_with fail
  refine (c3 _).mono fun e y3 ⟨he, hw⟩ => ?_
  subst he; subst hw
  go_wp2_with fail
  refine (c4 _).mono fun e y4 ⟨he, hw⟩ => ?_
  subst he; subst hw
  go_wp2_with fail
  refine (c5 _).mono fun e y5 ⟨he, hw⟩ => ?_
  subst he; subst hw
  go_wp2_with fail
  refine (c6 _).mono fun e y6 ⟨he, hw⟩ => ?_
  subst he; subst hw
  go_wp2_with fail
  refine (c7 _).mono fun e y7 ⟨he, hw⟩ => ?_
  subst he; subst hw
  go_wp2_with fail
  refine (c8 _).mono fun e y8 ⟨he, hw⟩ => ?_
  subst he; subst hw
  go_wp2_with fail
  refine (c9 _).mono fun e y9 ⟨he, hw⟩ => ?_
  subst he; subst hw
  go_wp2_with fail
  refine (c10 _).mono fun e y10 ⟨he, hw⟩ => ?_
  subst he; subst hw
  go_wp2
  go_ret
  exact ⟨rfl, hb0⟩
end Go.Proofs.YtghbmgionmlejaaDoor
