/- The words of operations: the document's. -/
import Derived.Test.YteoappoacapdhaaDoorIsaX
import Derived.Test.YteoappoacapdhaaDoorIsaRefA
namespace Go.Proofs.YteoappoacapdhaaDoor
open Go.RowKit
set_option linter.unusedVariables false

theorem ref_word (k : Nat) (h : k < 24) : (#[.string ⟨#[110, 111, 112]⟩, .string ⟨#[104, 97, 108, 116]⟩, .string ⟨#[108, 105]⟩, .string ⟨#[109, 111, 118]⟩, .string ⟨#[97, 100, 100]⟩, .string ⟨#[115, 117, 98]⟩, .string ⟨#[109, 117, 108]⟩, .string ⟨#[100, 105, 118]⟩, .string ⟨#[97, 110, 100]⟩, .string ⟨#[111, 114]⟩, .string ⟨#[120, 111, 114]⟩, .string ⟨#[115, 104, 108]⟩, .string ⟨#[115, 104, 114]⟩, .string ⟨#[108, 100]⟩, .string ⟨#[115, 116]⟩, .string ⟨#[108, 100, 98]⟩, .string ⟨#[115, 116, 98]⟩, .string ⟨#[106, 109, 112]⟩, .string ⟨#[106, 122]⟩, .string ⟨#[106, 110, 122]⟩, .string ⟨#[106, 108, 116]⟩, .string ⟨#[99, 97, 108, 108]⟩, .string ⟨#[114, 101, 116]⟩, .string ⟨#[115, 121, 115]⟩] : Array Value)[k]? = some (.string ⟨(wordsL.getD k []).toArray⟩) := by
  match k, h with
  | 0, _ => rfl
  | 1, _ => rfl
  | 2, _ => rfl
  | 3, _ => rfl
  | 4, _ => rfl
  | 5, _ => rfl
  | 6, _ => rfl
  | 7, _ => rfl
  | 8, _ => rfl
  | 9, _ => rfl
  | 10, _ => rfl
  | 11, _ => rfl
  | 12, _ => rfl
  | 13, _ => rfl
  | 14, _ => rfl
  | 15, _ => rfl
  | 16, _ => rfl
  | 17, _ => rfl
  | 18, _ => rfl
  | 19, _ => rfl
  | 20, _ => rfl
  | 21, _ => rfl
  | 22, _ => rfl
  | 23, _ => rfl
  | n + 24, h => exact absurd h (by omega)
theorem ref_cell (k : Nat) (h : k < 24) (w : World) : (w.alloc (.cells #[.string ⟨#[110, 111, 112]⟩, .string ⟨#[104, 97, 108, 116]⟩, .string ⟨#[108, 105]⟩, .string ⟨#[109, 111, 118]⟩, .string ⟨#[97, 100, 100]⟩, .string ⟨#[115, 117, 98]⟩, .string ⟨#[109, 117, 108]⟩, .string ⟨#[100, 105, 118]⟩, .string ⟨#[97, 110, 100]⟩, .string ⟨#[111, 114]⟩, .string ⟨#[120, 111, 114]⟩, .string ⟨#[115, 104, 108]⟩, .string ⟨#[115, 104, 114]⟩, .string ⟨#[108, 100]⟩, .string ⟨#[115, 116]⟩, .string ⟨#[108, 100, 98]⟩, .string ⟨#[115, 116, 98]⟩, .string ⟨#[106, 109, 112]⟩, .string ⟨#[106, 122]⟩, .string ⟨#[106, 110, 122]⟩, .string ⟨#[106, 108, 116]⟩, .string ⟨#[99, 97, 108, 108]⟩, .string ⟨#[114, 101, 116]⟩, .string ⟨#[115, 121, 115]⟩] 9)).cell? ⟨w.heap.size, k, none⟩ = some (.string ⟨(wordsL.getD k []).toArray⟩) := by
  rw [Lib.cell_of_heap (World.alloc_heap_new w _)]
  exact ref_word k h
set_option maxHeartbeats 2000000 in
set_option maxRecDepth 100000 in
theorem rword_any (o : Int) (w : World) (h0 : 0 ≤ o) (h255 : o ≤ 255) :
    Calls Tryd.prog 28 #[.int .u8 o] w fun e w' => e = .returned (.string ⟨(wordT o).toArray⟩) ∧ Below w.heap.size w w' := by
  by_cases h1 : 24 ≤ o
  · rw [word_none o (by omega)]
    go_enter Tryd.func28, Tryd.ntmps28
    go_wp2
    go_ret
    exact ⟨rfl, (Below.refl _ w).alloc (Nat.le_refl _) _⟩
  · have h2 : o < 24 := by omega
    have hc := ref_cell o.toNat (by omega) w
    have e : wordsL.getD o.toNat [] = wordT o := rfl
    rw [e] at hc
    clear e
    generalize wordT o = t at *
    go_enter Tryd.func28, Tryd.ntmps28
    go_wp2
    go_ret
    exact ⟨rfl, (Below.refl _ w).alloc (Nat.le_refl _) _⟩
theorem opF_step (k : Nat) (h : k < 24) (s : List UInt8) : opF (wordsL.drop k) k s = if wordT (k : Int) = s then some k else opF (wordsL.drop (k + 1)) (k + 1) s := by
  have hl : k < wordsL.length := h
  have e : wordT (k : Int) = wordsL[k] := by
    unfold wordT
    rw [Int.toNat_natCast, List.getD_eq_getElem?_getD, List.getElem?_eq_getElem hl]
    rfl
  rw [List.drop_eq_getElem_cons hl, e]
  rfl
set_option maxHeartbeats 2000000 in
set_option maxRecDepth 100000 in
theorem rreadw_any (s : List UInt8) (w : World) :
    Calls Tryd.prog 26 #[.string ⟨s.toArray⟩] w fun e w' => e = .returned (.tuple #[.int .u8 (opN s), .bool (opO s).isSome]) ∧ Below w.heap.size w w' := by
  go_enter Tryd.func26, Tryd.ntmps26
  go_wp2
  go_loopw [4] (fun i wr => ∃ k : Nat, k ≤ 24 ∧ i = .int .u8 (k : Int) ∧ Hid (opO s = opF (wordsL.drop k) k s) ∧ Below w.heap.size w wr) (fun i _ => 24 - (intOf i).toNat)
  case atStart => exact ⟨0, by omega, rfl, rfl, Below.refl _ _⟩
  case round =>
    obtain ⟨k, hk, rfl, HO, hB⟩ := hrel
    by_cases hlt : k < 24
    · have hlt' : (k : Int) ≤ 23 := by omega
      have cW := fun w => rword_any (k : Int) w (by omega) (by omega)
      have HS : Hid (opF (wordsL.drop k) k s = if wordT (k : Int) = s then some k else opF (wordsL.drop (k + 1)) (k + 1) s) := opF_step k hlt s
      generalize wordT (k : Int) = t at *
      by_cases he : t = s
      · subst he
        have HR : Hid (opO t = some k) := by
          show _ = _
          rw [HO.out, HS.out, if_pos rfl]
        clear HO HS
        go_wp2_with fail
        refine (cW _).mono ?_
        rintro e W1 ⟨rfl, hB1⟩
        go_wp2
        go_ret2
        refine ⟨?_, hB.trans (hB1.mono hB.size)⟩
        unfold opN
        rw [HR.out]
        rfl
      · have hne : (t == s) = false := by rw [beq_eq_false_iff_ne]; exact he
        have HR : Hid (opO s = opF (wordsL.drop (k + 1)) (k + 1) s) := by
          show _ = _
          rw [HO.out, HS.out, if_neg he]
        have hw8 : IntKind.u8.wrap ((k : Int) + 1) = (k : Int) + 1 := by rw [u8w]; omega
        clear HO HS he
        go_wp2_with fail
        refine (cW _).mono ?_
        rintro e W1 ⟨rfl, hB1⟩
        go_wp2
        go_roundw
        case rel => exact ⟨k + 1, by omega, by simp, HR, hB.trans (hB1.mono hB.size)⟩
        case measure => simp [intOf]; omega
    · have hlt' : ¬ (k : Int) ≤ 23 := by omega
      have hke : k = 24 := by omega
      subst hke
      have HR : Hid (opO s = none) := by
        show _ = _
        rw [HO.out]
        rfl
      clear HO
      go_wp2
      go_ret2
      refine ⟨?_, hB⟩
      unfold opN
      rw [HR.out]
      rfl
end Go.Proofs.YteoappoacapdhaaDoor
