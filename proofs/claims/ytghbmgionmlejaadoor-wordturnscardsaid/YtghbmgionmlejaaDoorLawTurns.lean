/- The law WordTurns: its walk. -/
import Derived.Test.YtghbmgionmlejaaDoorLive
namespace Go.Proofs.YtghbmgionmlejaaDoor
open Go.RowKit
set_option linter.unusedVariables false

theorem turns_walk (a n : Int) (w : World) (ha : 0 ≤ a) (ha2 : a ≤ 65535) (hn : -32768 ≤ n) (hn2 : n ≤ 32767) (hT : Tabs w) :
    Calls Tryd.prog 8 #[.int .u16 a, .int .i16 n] w fun e w' => e = .returned (.bool true) ∧ Below w.heap.size w w' := by
  have b := rot_bd a ha ha2 n
  have c1 := rot_any a n w ha ha2
  have c2 := live_any w hT
  have c3 := fun w => rot_any (rotV a n) (-n) w b.1 b.2
  rw [rot_back a n ha ha2] at c3
  have c4 := fun w => ones_any (rotV a n) w b.1 b.2
  rw [ones_rot a n ha ha2] at c4
  have c5 := fun w => ones_any a w ha ha2
  have c6 := fun w => rot_any a (n + 16) w ha ha2
  rw [rot_more] at c6
  have ob := onesF_bd 16 a
  have o1 : decide (0 ≤ onesV a) = true := decide_eq_true ob.1
  have o2 : decide (onesV a ≤ 16) = true := decide_eq_true ob.2
  clear ob b
  generalize onesV a = o at *
  generalize rotV a n = r at *
  go_enter Tryd.func8, Tryd.ntmps8
  go_wp2_with fail
  refine (c1).mono fun e y1 ⟨he, hw⟩ => ?_
  subst he; subst hw
  go_wp2_with fail
  refine (c2).mono fun e y2 ⟨he, hb2⟩ => ?_
  subst he
  go_wp2_with fail
  refine (c3 _).mono fun e y3 ⟨he, hw⟩ => ?_
  subst he; subst hw
  go_wp2_with fail
  refine (c4 _).mono fun e y4 ⟨he, hw⟩ => ?_
  subst he; subst hw
  go_wp2_with fail
  refine (c5 _).mono fun e y5 ⟨he, hw⟩ => ?_
  subst he; subst hw
  go_wp2_with fail
  refine (c5 _).mono fun e y6 ⟨he, hw⟩ => ?_
  subst he; subst hw
  go_wp2_with fail
  refine (c5 _).mono fun e y7 ⟨he, hw⟩ => ?_
  subst he; subst hw
  go_wp2_with fail
  refine (c6 _).mono fun e y8 ⟨he, hw⟩ => ?_
  subst he; subst hw
  go_wp2
  go_ret
  exact ⟨rfl, hb2⟩
end Go.Proofs.YtghbmgionmlejaaDoor
