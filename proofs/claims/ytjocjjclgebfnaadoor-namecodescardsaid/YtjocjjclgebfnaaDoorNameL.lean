/- What must be whatever is asked: of names, it is. -/
import Derived.Test.YtjocjjclgebfnaaDoorNameI
namespace Go.Proofs.YtjocjjclgebfnaaDoor
open Go.RowKit Go.Shelf
set_option linter.unusedVariables false

set_option maxRecDepth 100000 in
theorem live_derive : deriveO [47, 97] 9#8 [206, 178] = ([47, 97, 47, 206, 178], 9#8, 0) := by decide
set_option maxRecDepth 100000 in
theorem live_print : printO [47, 97, 47, 206, 178] 9#8 = ([47, 97, 47, 206, 178, 32, 114, 103], 0) := by decide
set_option maxRecDepth 100000 in
theorem live_opens : opensB [47, 97] 1#8 [47, 97, 47, 98] 1#8 = true := by decide
set_option maxRecDepth 100000 in
theorem live_above : aboveB [47, 97, 98] [47, 97] = false := by decide

set_option maxHeartbeats 1000000 in
theorem live2_any (w : World) :
    Calls Tryd.prog 8 #[] w fun e w' => e = .returned (.bool true) ∧ Below w.heap.size w w' := by
  have c1 := derive_any ⟨#[47, 97]⟩ ⟨#[206, 178]⟩ 9#8 w (by decide) (by decide)
  rw [show deriveO (⟨#[47, 97]⟩ : ByteArray).data.toList 9#8 (⟨#[206, 178]⟩ : ByteArray).data.toList = _ from live_derive] at c1
  have c2 := fun w => print_any ⟨#[47, 97, 47, 206, 178]⟩ 9#8 w (by decide)
  rw [show printO (⟨#[47, 97, 47, 206, 178]⟩ : ByteArray).data.toList 9#8 = _ from live_print] at c2
  have c3 := fun w => opens_any ⟨#[47, 97]⟩ ⟨#[47, 97, 47, 98]⟩ 1#8 1#8 w (by decide) (by decide)
  rw [show opensB (⟨#[47, 97]⟩ : ByteArray).data.toList 1#8 (⟨#[47, 97, 47, 98]⟩ : ByteArray).data.toList 1#8 = _ from live_opens] at c3
  have c4 := fun w => above_any ⟨#[47, 97, 98]⟩ ⟨#[47, 97]⟩ w (by decide) (by decide)
  rw [show aboveB (⟨#[47, 97, 98]⟩ : ByteArray).data.toList (⟨#[47, 97]⟩ : ByteArray).data.toList = _ from live_above] at c4
  unfold capsV capV at c1
  unfold textV capV at c2
  unfold capV at c3
  simp only at c1 c2 c3
  go_enter Tryd.func8, Tryd.ntmps8
  go_wp2_with fail
  refine c1.mono ?_
  rintro e W1 ⟨rfl, hB1⟩
  go_wp2_with fail
  refine (c2 _).mono ?_
  rintro e W2 ⟨rfl, hB2⟩
  go_wp2_with fail
  refine (c3 _).mono ?_
  rintro e W3 ⟨rfl, hB3⟩
  go_wp2_with fail
  refine (c4 _).mono ?_
  rintro e W4 ⟨rfl, hB4⟩
  go_wp2
  go_ret
  rw [World.size_alloc] at hB2
  have s1 := hB1.size
  have s2 := hB2.size
  rw [World.size_alloc] at s2
  have s3 := hB3.size
  exact ⟨rfl, (((hB1.alloc s1 _).trans (hB2.mono (by omega))).trans (hB3.mono (by omega))).trans (hB4.mono (by omega))⟩
end Go.Proofs.YtjocjjclgebfnaaDoor
