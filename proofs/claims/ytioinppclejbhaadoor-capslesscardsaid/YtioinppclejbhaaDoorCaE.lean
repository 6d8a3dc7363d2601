/- The program's table: Derive and Restrict that come to an end. -/
import Derived.Test.YtioinppclejbhaaDoorCaD
namespace Go.Proofs.YtioinppclejbhaaDoor
open Go.RowKit Go.Maps Go.Sort
set_option linter.unusedVariables false
set_option maxRecDepth 100000
theorem tderive_go (B b : Nat) (s : Sl) (i j : Fin 12) (c d : Rc) (l : ByteArray) (hl : l.size ≤ 1000) (hi : s i = some c) (ho : deriveO c.1.1.data.toList c.1.2 l.data.toList = (d.1.1.data.toList, d.1.2, 0)) (w : World) (h : Tb 71 B w b s) : Calls Tryd.prog 18 #[.pointer (some ⟨b, 0, none⟩), .int .i64 i.1, .int .i64 j.1, .string l] w fun o w' => ∃ e, o = .returned (.int .i64 e) ∧ (e = putE s j ∧ TStp 71 B w w' b (putS s j d)) := by
  refine tderive_of _ _ _ l w (fun e w' => e = putE s j ∧ TStp 71 B w w' b (putS s j d)) ?_
  have hX := below_new w (.cells #[.string l] 9)
  have h0 := h.below hX
  have hb : (w.alloc (.cells #[.string l] 9)).cell? ⟨w.heap.size, 0, none⟩ = some (.string l) := by
    rw [Lib.cell_of_heap (heap_alloc_new w _)]; rfl
  have hlt : w.heap.size < (w.alloc (.cells #[.string l] 9)).heap.size := by simp
  generalize (w.alloc (.cells #[.string l] 9)) = W0 at *
  refine add_go _ w.heap.size hFderive _ _ _ 0 c.1.1 d.1.1 c.1.2.toNat d.1.2.toNat W0 ?_ ?_ _ ?_
  · have := get_ok B b s i W0 h0
    rw [hi] at this
    exact this
  · intro W hW
    have := drv1_any w.heap.size c.1 l W (by have := c.2.2; omega) hl ((hW.cell (p := ⟨w.heap.size, 0, none⟩) hlt).trans hb) (Nat.lt_of_lt_of_le hlt hW.size)
    rw [ho] at this
    exact this
  · intro W hW
    refine (put_right B b s j d W (h0.below hW)).mono ?_
    rintro o w' ⟨rfl, hS⟩
    exact ⟨_, rfl, rfl, hS.pre (hX.trans (hW.mono hX.size))⟩
theorem trestrict_go (B b : Nat) (s : Sl) (i j : Fin 12) (c d : Rc) (x : BitVec 8) (hi : s i = some c) (ho : restrictO c.1.1.data.toList c.1.2 x = (d.1.1.data.toList, d.1.2, 0)) (w : World) (h : Tb 71 B w b s) : Calls Tryd.prog 17 #[.pointer (some ⟨b, 0, none⟩), .int .i64 i.1, .int .i64 j.1, .int .u8 x.toNat] w fun o w' => ∃ e, o = .returned (.int .i64 e) ∧ (e = putE s j ∧ TStp 71 B w w' b (putS s j d)) := by
  refine trestrict_of _ _ _ x.toNat w (fun e w' => e = putE s j ∧ TStp 71 B w w' b (putS s j d)) ?_
  have hX := below_new w (.cells #[.int .u8 x.toNat] 5)
  have h0 := h.below hX
  have hb : (w.alloc (.cells #[.int .u8 x.toNat] 5)).cell? ⟨w.heap.size, 0, none⟩ = some (.int .u8 x.toNat) := by
    rw [Lib.cell_of_heap (heap_alloc_new w _)]; rfl
  have hlt : w.heap.size < (w.alloc (.cells #[.int .u8 x.toNat] 5)).heap.size := by simp
  generalize (w.alloc (.cells #[.int .u8 x.toNat] 5)) = W0 at *
  refine add_go _ w.heap.size hFrestrict _ _ _ 0 c.1.1 d.1.1 c.1.2.toNat d.1.2.toNat W0 ?_ ?_ _ ?_
  · have := get_ok B b s i W0 h0
    rw [hi] at this
    exact this
  · intro W hW
    have := rst1_any w.heap.size c.1 x W (by have := c.2.2; omega) ((hW.cell (p := ⟨w.heap.size, 0, none⟩) hlt).trans hb) (Nat.lt_of_lt_of_le hlt hW.size)
    rw [ho] at this
    exact this
  · intro W hW
    refine (put_right B b s j d W (h0.below hW)).mono ?_
    rintro o w' ⟨rfl, hS⟩
    exact ⟨_, rfl, rfl, hS.pre (hX.trans (hW.mono hX.size))⟩
end Go.Proofs.YtioinppclejbhaaDoor
