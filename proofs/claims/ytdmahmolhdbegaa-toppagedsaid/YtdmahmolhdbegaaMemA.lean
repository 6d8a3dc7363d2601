/- A memory: a block of one number and 64 times 32 bytes, as a list. -/
import Derived.Test.YtdmahmolhdbegaaRows
import Derived.WalkKit
import Derived.WalkSpells
import Derived.WalkLawsBesides
import Derived.Handy
import Derived.Deep.QuietTactic
import Derived.BigQuiet
import Derived.Deep.RegionHeld3
import Derived.Deep.MidRow
import Derived.Deep.WholeRow
import Derived.Great.Ranges
import Derived.Great.BuildSlice
import Derived.Carry
import Derived.Shelf.Abstract
namespace Go.Proofs.Ytdmahmolhdbegaa
open Go.RowKit Go.Maps
set_option linter.unusedVariables false
set_option maxRecDepth 100000

/-- The cells of a memory: its size, and its bytes, frame after frame. -/
def memL (n : Int) (L : List Int) : List Value := .int .i64 n :: L.map (.int .u8)
def zeroL : List Int := List.replicate 2048 0
theorem memL_length (n : Int) (L : List Int) : (memL n L).length = L.length + 1 := by simp [memL]
theorem zeroL_length : zeroL.length = 2048 := List.length_replicate
theorem mem_built (n : Int) : Try.prog.built 78 [(0, .int .i64 n)] = some (memL n zeroL).toArray := by kernel_rfl
theorem mem_size : (Try.prog.info? 78).map (·.size) = some 2049 := by kernel_rfl
theorem con_size : (Try.prog.info? 75).map (·.size) = some 32 := by kernel_rfl
theorem con_zero : (Try.prog.info? 75).map (fun i => (i.zero, i.size)) = some (some (.agg (List.replicate 32 (Value.int .u8 0)).toArray), 32) := by kernel_rfl
theorem memL_get (n : Int) (L : List Int) (k : Nat) : (memL n L)[k + 1]? = (L[k]?).map (.int .u8) := by simp [memL]

/-- A memory lies in a block. -/
structure Mem (w : World) (b : Nat) (n : Int) (L : List Int) : Prop where
  blk : w.heap[b]? = some (.cells (memL n L).toArray 78)
  len : L.length = 2048
  lo : 1 ≤ n
  hi : n ≤ 64
theorem Mem.lt {w : World} {b : Nat} {n : Int} {L : List Int} (h : Mem w b n L) : b < w.heap.size := (Array.getElem?_eq_some_iff.1 h.blk).1
theorem Mem.below {w w' : World} {b : Nat} {n : Int} {L : List Int} (h : Mem w b n L) (k : Below w.heap.size w w') : Mem w' b n L := ⟨(k.block b h.lt).trans h.blk, h.len, h.lo, h.hi⟩
theorem Mem.size {w : World} {b : Nat} {n : Int} {L : List Int} (h : Mem w b n L) : w.cell? ⟨b, 0, none⟩ = some (.int .i64 n) := by
  rw [cell_of_row w b 0 _ _ _ h.blk]
  simp [memL]
theorem Mem.byte {w : World} {b : Nat} {n : Int} {L : List Int} (h : Mem w b n L) (k : Nat) (hk : k < 2048) : w.cell? ⟨b, 1 + k, none⟩ = some (.int .u8 (L.getD k 0)) := by
  rw [cell_of_row w b _ _ _ _ h.blk]
  have h2 : k < L.length := by rw [h.len]; exact hk
  have h3 := memL_get n L k
  rw [List.getElem?_eq_getElem h2] at h3
  rw [Nat.add_comm 1 k]
  simp only [List.getElem?_toArray, h3, Option.map_some, List.getD_eq_getElem?_getD, List.getElem?_eq_getElem h2, Option.getD_some]
theorem Mem.free {w : World} {b : Nat} {n : Int} {L : List Int} (h : Mem w b n L) (k : Nat) : w.frozen? ⟨b, k, none⟩ = false := by
  simp [World.frozen?, h.blk]

set_option maxHeartbeats 1000000 in
theorem new_bad (n : Int) (w : World) (h : n < 1 ∨ 64 < n) : Calls Try.prog 7 #[.int .i64 n] w fun e w' => e = .returned (.pointer none) ∧ w' = w := by
  go_enter Try.func7, Try.ntmps7
  by_cases h1 : n < 1
  · go_wp2
    go_ret
    exact ⟨rfl, rfl⟩
  · have h2 : 64 < n := by omega
    go_wp2
    go_ret
    exact ⟨rfl, rfl⟩
set_option maxHeartbeats 1000000 in
theorem new_good (n : Int) (w : World) (h1 : 1 ≤ n) (h2 : n ≤ 64) : Calls Try.prog 7 #[.int .i64 n] w fun e w' => e = .returned (.pointer (some ⟨w.heap.size, 0, none⟩)) ∧ Mem w' w.heap.size n zeroL ∧ Below w.heap.size w w' := by
  have hb := mem_built n
  go_enter Try.func7, Try.ntmps7
  go_wp2_with (first | (refine Go.wpList_buildTo rfl _ _ rfl _ rfl (memL n zeroL).toArray (by simpa [Act.eval] using hb) ?_) | (refine Go.Great.wpList_boxTo rfl _ _ rfl _ rfl _ rfl (memL n zeroL).toArray rfl ?_))
  go_ret
  exact ⟨rfl, ⟨heap_alloc_last _ _, zeroL_length, h1, h2⟩, (Below.refl _ w).alloc (Nat.le_refl _) _⟩
end Go.Proofs.Ytdmahmolhdbegaa
