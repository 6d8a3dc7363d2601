/- The document's memory: is a frame clean. -/
import Derived.Test.YtajljppmkcjoiaaMemL
import Derived.BigRegion
namespace Go.Proofs.Ytajljppmkcjoiaa
open Go.RowKit Go.Maps
set_option linter.unusedVariables false
set_option maxRecDepth 100000
set_option maxHeartbeats 2000000 in
theorem rclean_ok (rb g K N F : Nat) (L : List Int) (w : World) (h : RMem w rb g K L) (hK : K = 32 * N) (hF : F < N) (hL : ∀ x ∈ L, 0 ≤ x ∧ x ≤ 255) : Calls Try.prog 32 #[.pointer (some ⟨rb, 0, none⟩), .int .i64 F] w fun e w' => e = .returned (.bool (decide (frL L F = zeros))) ∧ Below w.heap.size w w' := by
  have c1 := rframe_any rb g K N F L w h hK
  have q : inB N F 0 1 = true := decide_eq_true ⟨by omega, by omega, by omega, by omega⟩
  unfold inE fT at c1
  rw [if_pos q, if_pos q, Int.toNat_natCast] at c1
  have hb1 := frL_bytes (f := F) hL
  have hcm : ∀ T1 T2 : ByteArray, T1 = strOfNums (frL L F) → T2 = strOfNums zeros → (T1.toList == T2.toList) = decide (frL L F = zeros) := by
    rintro T1 T2 rfl rfl
    rw [Bool.eq_iff_iff, decide_eq_true_iff, beq_iff_eq, Lib.toList_data, Lib.toList_data]
    exact ⟨str_inj hb1 zeros_bytes, fun e => by rw [e]⟩
  obtain ⟨T1, hT1⟩ : ∃ T, T = strOfNums (frL L F) := ⟨_, rfl⟩
  obtain ⟨T2, hT2⟩ : ∃ T, T = strOfNums zeros := ⟨_, rfl⟩
  have hcmp := hcm T1 T2 hT1 hT2
  rw [← hT1] at c1
  clear hcm hb1 q h hK
  generalize decide (frL L F = zeros) = qq at *
  have HT2 : Hid3 (T2 = strOfNums zeros) := ⟨hT2⟩
  clear hT1 hT2
  go_enter Try.func32, Try.ntmps32
  go_wp2_with fail
  refine c1.mono ?_
  rintro e W1 ⟨⟨v, rfl, hv⟩, hB⟩
  clear c1
  obtain ⟨Rw, hR⟩ : ∃ Rw, Rw = ((zeroL.take 32).map (Value.int .u8)).toArray := ⟨_, rfl⟩
  have hmk : (Instr.makeSlice 39 (.int .i64 32) (.int .i64 32)).run Try.prog W1.drew = .ok (.slice (some ⟨W1.heap.size, 0, none⟩) 32 32) (W1.alloc (.cells Rw 5)).drew := by
    rw [hR]
    exact made_any 32 (by decide) W1.drew
  have hb0 : Below W1.heap.size W1 W1.drew := (Below.refl _ W1).drew
  have hba : Below W1.heap.size W1 (W1.alloc (.cells Rw 5)).drew := ((Below.refl _ W1).alloc (Nat.le_refl _) _).drew
  have k1 := hv _ hb0
  have k2 := hv _ hba
  have k3 : (convert 39 9 (.slice (some ⟨W1.heap.size, 0, none⟩) 32 32)).run Try.prog (W1.alloc (.cells Rw 5)).drew = .ok (.string (strOfNums zeros)) (W1.alloc (.cells Rw 5)).drew := (Txt.of_cells (W1.alloc (.cells Rw 5)).drew W1.heap.size 0 32 32 zeros List.length_replicate (fun i hi => by
    rw [Nat.zero_add, cell_of_row _ _ i _ _ _ (show (W1.alloc (.cells Rw 5)).drew.heap[W1.heap.size]? = some (.cells Rw 5) from heap_alloc_last W1 _), hR, List.getElem?_toArray, List.getElem?_map, List.getElem?_take, if_pos hi]
    unfold zeroL zeros
    rw [List.getElem?_replicate, if_pos (by omega), List.getD_eq_getElem?_getD, List.getElem?_replicate, if_pos hi]
    rfl)) _ (Below.refl _ _)
  rw [← HT2.out] at k3
  have hbf : Below w.heap.size w (W1.alloc (.cells Rw 5)).drew := hB.trans (hba.mono hB.size)
  have HBf : Hid3 (Below w.heap.size w (W1.alloc (.cells Rw 5)).drew) := ⟨hbf⟩
  clear hR hv hb0 hba hB hbf HT2
  go_wp2_with fail
  go_region
  all_goals
    go_wp2
    go_ret
    exact ⟨rfl, HBf.out⟩
end Go.Proofs.Ytajljppmkcjoiaa
