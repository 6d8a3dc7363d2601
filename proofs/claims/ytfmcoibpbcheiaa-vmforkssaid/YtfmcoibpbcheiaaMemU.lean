/- The document's memory: filled; a new one; a word. -/
import Derived.Test.YtfmcoibpbcheiaaMemT
import Derived.Laws.OwnMore
namespace Go.Proofs.Ytfmcoibpbcheiaa
open Go.RowKit Go.Maps
set_option linter.unusedVariables false
set_option maxRecDepth 100000
theorem Byts.only {B b : Nat} {w w' : World} {v : Value} {bs : List Int} (h : Byts B w v bs) (k : Only b w w') (hb : B ≤ b) : Byts B w' v bs := by
  obtain ⟨a, cap, rfl, hc, hb, hcell⟩ := h
  refine ⟨a, cap, rfl, hc, hb, fun j x hj => ?_⟩
  obtain ⟨g, off, rfl, hg, c0⟩ := hcell j x hj
  exact ⟨g, off, rfl, hg, (k.cell g (off + j) (World.block_lt_of_cell? w _ c0) (by omega)).trans c0⟩
theorem infoU8 : (Try.prog.info? 5).map (fun i => (i.zero, i.size, i.bytes)) = some (some (.int .u8 0), 1, 1) := by kernel_rfl
theorem made_any (K : Nat) (hK : K ≤ 2048) (W : World) : (Instr.makeSlice 34 (.int .i64 K) (.int .i64 K)).run Try.prog W = .ok (.slice (some ⟨W.heap.size, 0, none⟩) K K) (W.alloc (.cells ((zeroL.take K).map (Value.int .u8)).toArray 5)) := by
  obtain ⟨i, hi, hz, hs, hb⟩ := info_parts infoU8
  rw [run_make W 34 5 i (.int .u8 0) Try.underlying34 hi hz .i64 .i64 K K (by omega) (Int.le_refl _) (by rw [hb]; omega) (by omega), hs]
  simp only [Int.toNat_natCast, Nat.mul_one]
  have e : madeCells (Value.int .u8 0).cells K = ((zeroL.take K).map (Value.int .u8)).toArray := by
    apply Array.ext'
    rw [show (Value.int .u8 0).cells = #[Value.int .u8 0] from rfl, toList_madeCells_one]
    show _ = (zeroL.take K).map (Value.int .u8)
    unfold zeroL
    rw [List.take_replicate, Nat.min_eq_left hK, List.map_replicate]
  rw [e]
set_option maxHeartbeats 1000000 in
theorem rnew_any (N : Nat) (w : World) (h1 : 1 ≤ N) (h2 : N ≤ 64) (K : Nat) (hK : K = 32 * N) : Calls Try.prog 55 #[.int .i64 N] w fun e w' => e = .returned (.pointer (some ⟨w.heap.size + 1, 0, none⟩)) ∧ RMem w' (w.heap.size + 1) w.heap.size K zeroL ∧ Below w.heap.size w w' := by
  have hmk := made_any K (by omega)
  have e1 : (N : Int) * 32 = (K : Int) := by omega
  have g1 : ¬ (N : Int) < 1 := by omega
  have g2 : ¬ (64 : Int) < (N : Int) := by omega
  have hk : K ≤ 2048 := by omega
  have HZ : Hid3 (zeroL.length = 2048) := ⟨zeroL_length⟩
  obtain ⟨R, hR⟩ : ∃ R, R = ((zeroL.take K).map (Value.int .u8)).toArray := ⟨_, rfl⟩
  rw [← hR] at hmk
  have HR : Hid3 (R = ((zeroL.take K).map (Value.int .u8)).toArray) := ⟨hR⟩
  clear hR
  clear hK
  go_enter Try.func55, Try.ntmps55
  go_wp2
  go_ret
  refine ⟨rfl, ⟨⟨K, Nat.le_refl _, ?_⟩, ⟨[], ?_⟩, HZ.out, by omega, hk⟩, ((Below.refl _ w).alloc (Nat.le_refl _) _).alloc (by simp) _⟩
  · rw [show w.heap.size + 1 = (w.alloc (.cells R 5)).heap.size by simp]
    exact heap_alloc_last _ _
  · rw [Lib.alloc_old _ _ _ (by simp), List.append_nil, ← HR.out]
    exact heap_alloc_last _ _
end Go.Proofs.Ytfmcoibpbcheiaa
