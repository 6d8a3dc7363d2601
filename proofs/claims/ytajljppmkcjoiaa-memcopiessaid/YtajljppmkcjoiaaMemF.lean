/- What must be whatever is asked. -/
import Derived.Test.YtajljppmkcjoiaaMemE
namespace Go.Proofs.Ytajljppmkcjoiaa
open Go.RowKit Go.Maps
set_option linter.unusedVariables false
set_option maxRecDepth 100000
theorem live_bytes : (putL (putL zeroL (0 * 32 + 30) [258 / 256, 258 % 256]) (0 * 32 + 31) [7, 8]).getD (0 * 32 + 30) 0 = 1 ∧ (putL (putL zeroL (0 * 32 + 30) [258 / 256, 258 % 256]) (0 * 32 + 31) [7, 8]).getD (1 * 32 + 0) 0 = 8 := by
  constructor <;> decide +kernel
set_option maxHeartbeats 4000000 in
theorem mlive_any (w : World) : Calls Try.prog 10 #[] w fun e w' => e = .returned (.bool true) ∧ Below w.heap.size w w' := by
  have c1 := new_good 2 w (by decide) (by decide)
  go_enter Try.func10, Try.ntmps10
  go_wp2_with fail
  refine c1.mono ?_
  rintro e W1 ⟨rfl, hM1, hB1⟩
  have c2 := setword_ok w.heap.size 0 30 2 258 zeroL W1 hM1 (by decide) (by decide) (by decide) (by decide)
  have hs1 := hB1.size
  clear c1
  go_wp2_with fail
  refine c2.mono ?_
  rintro e W2 ⟨rfl, hM2, hO2⟩
  clear c2
  have hB2 := hB1.trans (hO2.below w.heap.size (Nat.le_refl _) hB1.size)
  have hs2 := hM2.lt
  have hA : Below W2.heap.size W2 (W2.alloc (.cells #[.int .u8 7, .int .u8 8] 5)) := (Below.refl _ W2).alloc (Nat.le_refl _) _
  have hB2' := hB2.trans (hA.mono hB2.size)
  have hS : Src (W2.alloc (.cells #[.int .u8 7, .int .u8 8] 5)) w.heap.size W2.heap.size 0 [7, 8] := ⟨by omega, by simp, fun j y hj => by
    match j, hj with
    | 0, hj => cases hj; rw [cell_of_row _ _ _ _ _ _ (heap_alloc_last W2 _)]; rfl
    | 1, hj => cases hj; rw [cell_of_row _ _ _ _ _ _ (heap_alloc_last W2 _)]; rfl
    | j + 2, hj => cases hj⟩
  have c3 := fill_ok w.heap.size 0 31 W2.heap.size 0 2 2 2 _ [7, 8] _ (hM2.below hA) rfl (by decide) hS (by decide) (by decide) (by decide)
  go_wp2_with fail
  refine c3.mono ?_
  rintro e W3 ⟨rfl, hM3, hO3⟩
  clear c3 hS hA hO2 hM2 hM1
  have hB3 := hB2'.trans (hO3.below w.heap.size (Nat.le_refl _) hB2'.size)
  clear hO3 hB2' hB2 hB1
  have c4 := byte_ok w.heap.size 0 30 2 _ W3 hM3 (by decide) (by decide)
  have c5 := byte_ok w.heap.size 1 0 2 _ W3 hM3 (by decide) (by decide)
  have c6 := size_ok w.heap.size 2 _ W3 hM3
  rw [live_bytes.1] at c4
  rw [live_bytes.2] at c5
  clear hM3
  go_wp2_with fail
  refine c4.mono ?_
  rintro e W4 ⟨rfl, rfl⟩
  clear c4
  go_wp2_with fail
  refine c5.mono ?_
  rintro e W5 ⟨rfl, rfl⟩
  clear c5
  go_wp2_with fail
  refine c6.mono ?_
  rintro e W6 ⟨rfl, rfl⟩
  go_wp2
  go_ret
  exact ⟨rfl, hB3⟩
end Go.Proofs.Ytajljppmkcjoiaa
