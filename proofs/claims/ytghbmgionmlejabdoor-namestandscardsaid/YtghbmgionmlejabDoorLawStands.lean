/- NameStands: whether a name stands above another one, and what stands above both, as the document says. -/
import Derived.Test.YtghbmgionmlejabDoorRefT
namespace Go.Proofs.YtghbmgionmlejabDoor
open Go.RowKit Go.Shelf
set_option linter.unusedVariables false

set_option maxHeartbeats 2000000 in
theorem stands_walk (n0 n1 : ByteArray) (W : World) (h0 : n0.size ≤ 9223372036854775807) (h1 : n1.size ≤ 9223372036854775807) (hT : NTabs W) :
    Calls Tryd.prog 6 #[.string n0, .string n1] W fun e W' => e = .returned (.bool true) ∧ Below W.heap.size W W' := by
  have c0 := fun w => short_any n0 w
  have c1 := fun w => short_any n1 w
  have s0 := shortS_size n0
  have s1 := shortS_size n1
  generalize shortS n0 = m0 at *
  generalize shortS n1 = m1 at *
  have c2 := fun w => common_any m0 m1 w (by omega) (by omega)
  have c3 := fun w hT => rcommon_any m0 m1 w (by omega) (by omega) hT
  have c4 := fun w => live2_any w
  have c5 := fun w => above_any m0 m1 w (by omega) (by omega)
  have c6 := fun w hT => rabove_any m0 m1 w (by omega) (by omega) hT
  obtain ⟨o1, o2, hO⟩ : ∃ o1 o2, commonO m0.data.toList m1.data.toList = (o1, o2) := ⟨_, _, rfl⟩
  rw [hO] at c2 c3
  unfold textV at c2 c3
  simp only at c2 c3
  clear hO
  generalize aboveB m0.data.toList m1.data.toList = U at *
  go_enter Tryd.func6, Tryd.ntmps6
  go_wp2_with (go_at_call 15; (first | refine (c0 _).mono ?_ | refine (c1 _).mono ?_); rintro e w' ⟨rfl, rfl⟩)
  refine (c2 _).mono ?_
  rintro e W2 ⟨rfl, hB2⟩
  go_wp2_with fail
  refine (c3 _ (hT.later hB2)).mono ?_
  rintro e W3 ⟨rfl, hB3⟩
  have hB3' := hB2.trans (hB3.mono hB2.size)
  go_wp2_with fail
  refine (c4 _).mono ?_
  rintro e W4 ⟨rfl, hB4⟩
  have hB4' := hB3'.trans (hB4.mono hB3'.size)
  go_wp2_with fail
  refine (c5 _).mono ?_
  rintro e W5 ⟨rfl, hB5⟩
  have hB5' := hB4'.trans (hB5.mono hB4'.size)
  go_wp2_with fail
  refine (c6 _ (hT.later hB5')).mono ?_
  rintro e W6 ⟨rfl, hB6⟩
  have hB6' := hB5'.trans (hB6.mono hB5'.size)
  go_wp2
  go_ret
  exact ⟨rfl, hB6'⟩
end Go.Proofs.YtghbmgionmlejabDoor
