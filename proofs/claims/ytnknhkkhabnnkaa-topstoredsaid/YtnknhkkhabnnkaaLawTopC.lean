/- TopStored: the walk. -/
import Derived.Test.YtnknhkkhabnnkaaLawTopA
import Derived.Deep.Cut
namespace Go.Proofs.Ytnknhkkhabnnkaa
open Go.RowKit Go.Maps
set_option linter.unusedVariables false
set_option maxRecDepth 100000
set_option maxHeartbeats 8000000 in
theorem stored_4_0 (x rg at_ q : Int) (f o : Nat) (w : World) (hx : 0 ≤ x ∧ x ≤ 65535) (hr : rg.tmod 7 = 4) (hm : at_.tmod 511 = q) (Hq : Hid3 (q = 32 * f + o)) (hf : f < 16) (ho : o + 2 ≤ 32) (hqf : q.tdiv 32 = f) (hqo : q.tmod 32 = o) :
    Calls Try.prog 3 #[.int .u16 x, .int .u8 rg, .int .u16 at_] w fun e w' => e = .returned (.bool true) ∧ Below w.heap.size w w' := by
  have c1 := new_good 16 w (by decide) (by decide)
  have hqa : 0 ≤ q ∧ q ≤ 510 := by have := Hq.out; omega
  go_enter Try.func3, Try.ntmps3
  go_wp2_with fail
  refine c1.mono ?_
  rintro e W1 ⟨rfl, hM1, hB1⟩
  clear c1
  have hs1 := hM1.lt
  go_wp2_with fail
  have c2 := exec_any 0 (upd (fun _ => 0) 4 x) 14 4 7 q (W1.alloc (.cells #[.int .u16 0, .int .u16 0, .int .u16 0, .int .u16 0, .int .u16 0, .int .u16 x, .int .u16 0, .int .u16 0, .int .u16 0] 28)) ⟨by decide, by decide⟩ (upd0_wd 4 x hx) ⟨by decide, by decide, by decide, by decide, by decide, by decide, by omega, by omega⟩
  have eX := st_exec 4 x q (by decide) hqa
  rw [show ((4 : Nat) : Int) = 4 from rfl] at eX
  rw [eX] at c2
  clear eX
  refine c2.mono ?_
  rintro e W2 ⟨rfl, hB2⟩
  clear c2
  have hC : Cel W2 W1.heap.size #[.int .u16 0, .int .u16 0, .int .u16 0, .int .u16 0, .int .u16 0, .int .u16 x, .int .u16 0, .int .u16 0, .int .u16 0] 28 := (Cel.new W1 _ _).below hB2 (by simp)
  have hM2 : Mem W2 w.heap.size 16 zeroL := (hM1.below ((Below.refl _ W1).alloc (Nat.le_refl _) _)).below hB2
  have hs2 : W1.heap.size < W2.heap.size := (Array.getElem?_eq_some_iff.1 hC).1
  have y0 := hC.c 0
  have y1 := hC.c 1
  have y2 := hC.c 2
  have y3 := hC.c 3
  have y4 := hC.c 4
  have y5 := hC.c 5
  have y6 := hC.c 6
  have y7 := hC.c 7
  have y8 := hC.c 8
  have yf := hC.f
  have hne : w.heap.size ≠ W1.heap.size := by omega
  have hM3 : Mem ((((((((((W2.setCell ⟨W1.heap.size, 0, none⟩ (.int .u16 4)).setCell ⟨W1.heap.size, 1, none⟩ (.int .u16 0)).setCell ⟨W1.heap.size, 2, none⟩ (.int .u16 0)).setCell ⟨W1.heap.size, 3, none⟩ (.int .u16 0)).setCell ⟨W1.heap.size, 4, none⟩ (.int .u16 0)).setCell ⟨W1.heap.size, 5, none⟩ (.int .u16 x)).setCell ⟨W1.heap.size, 6, none⟩ (.int .u16 0)).setCell ⟨W1.heap.size, 7, none⟩ (.int .u16 0)).setCell ⟨W1.heap.size, 8, none⟩ (.int .u16 0)).alloc (.cells #[.int .u8 2, .int .u16 q, .int .u16 x, .int .u8 0, .int .i64 0] 32)) w.heap.size 16 zeroL := (((((((((hM2.other hne 0 _).other hne 1 _).other hne 2 _).other hne 3 _).other hne 4 _).other hne 5 _).other hne 6 _).other hne 7 _).other hne 8 _).below ((Below.refl _ _).alloc (Nat.le_refl _) _)
  have c3 := setword_ok w.heap.size f o 16 x zeroL ((((((((((W2.setCell ⟨W1.heap.size, 0, none⟩ (.int .u16 4)).setCell ⟨W1.heap.size, 1, none⟩ (.int .u16 0)).setCell ⟨W1.heap.size, 2, none⟩ (.int .u16 0)).setCell ⟨W1.heap.size, 3, none⟩ (.int .u16 0)).setCell ⟨W1.heap.size, 4, none⟩ (.int .u16 0)).setCell ⟨W1.heap.size, 5, none⟩ (.int .u16 x)).setCell ⟨W1.heap.size, 6, none⟩ (.int .u16 0)).setCell ⟨W1.heap.size, 7, none⟩ (.int .u16 0)).setCell ⟨W1.heap.size, 8, none⟩ (.int .u16 0)).alloc (.cells #[.int .u8 2, .int .u16 q, .int .u16 x, .int .u8 0, .int .i64 0] 32)) hM3 (by omega) ho hx.1 (by omega)
  unfold execV rgV accV
  simp only [upd]
  go_wp2_with fail
  refine c3.mono ?_
  rintro e W4 ⟨rfl, hM4, hO4⟩
  clear c3 y0 y1 y2 y3 y4 y5 y6 y7 y8 yf
  have hz2 : (((((((((W2.setCell ⟨W1.heap.size, 0, none⟩ (.int .u16 4)).setCell ⟨W1.heap.size, 1, none⟩ (.int .u16 0)).setCell ⟨W1.heap.size, 2, none⟩ (.int .u16 0)).setCell ⟨W1.heap.size, 3, none⟩ (.int .u16 0)).setCell ⟨W1.heap.size, 4, none⟩ (.int .u16 0)).setCell ⟨W1.heap.size, 5, none⟩ (.int .u16 x)).setCell ⟨W1.heap.size, 6, none⟩ (.int .u16 0)).setCell ⟨W1.heap.size, 7, none⟩ (.int .u16 0)).setCell ⟨W1.heap.size, 8, none⟩ (.int .u16 0)).heap.size = W2.heap.size := by simp only [size_cell]
  have hC3 : Cel ((((((((((W2.setCell ⟨W1.heap.size, 0, none⟩ (.int .u16 4)).setCell ⟨W1.heap.size, 1, none⟩ (.int .u16 0)).setCell ⟨W1.heap.size, 2, none⟩ (.int .u16 0)).setCell ⟨W1.heap.size, 3, none⟩ (.int .u16 0)).setCell ⟨W1.heap.size, 4, none⟩ (.int .u16 0)).setCell ⟨W1.heap.size, 5, none⟩ (.int .u16 x)).setCell ⟨W1.heap.size, 6, none⟩ (.int .u16 0)).setCell ⟨W1.heap.size, 7, none⟩ (.int .u16 0)).setCell ⟨W1.heap.size, 8, none⟩ (.int .u16 0)).alloc (.cells #[.int .u8 2, .int .u16 q, .int .u16 x, .int .u8 0, .int .i64 0] 32)) W1.heap.size #[.int .u16 4, .int .u16 0, .int .u16 0, .int .u16 0, .int .u16 0, .int .u16 x, .int .u16 0, .int .u16 0, .int .u16 0] 28 := (hC.set9 (.int .u16 4) (.int .u16 0) (.int .u16 0) (.int .u16 0) (.int .u16 0) (.int .u16 x) (.int .u16 0) (.int .u16 0) (.int .u16 0)).alloc _
  have hD3 : Cel ((((((((((W2.setCell ⟨W1.heap.size, 0, none⟩ (.int .u16 4)).setCell ⟨W1.heap.size, 1, none⟩ (.int .u16 0)).setCell ⟨W1.heap.size, 2, none⟩ (.int .u16 0)).setCell ⟨W1.heap.size, 3, none⟩ (.int .u16 0)).setCell ⟨W1.heap.size, 4, none⟩ (.int .u16 0)).setCell ⟨W1.heap.size, 5, none⟩ (.int .u16 x)).setCell ⟨W1.heap.size, 6, none⟩ (.int .u16 0)).setCell ⟨W1.heap.size, 7, none⟩ (.int .u16 0)).setCell ⟨W1.heap.size, 8, none⟩ (.int .u16 0)).alloc (.cells #[.int .u8 2, .int .u16 q, .int .u16 x, .int .u8 0, .int .i64 0] 32)) W2.heap.size #[.int .u8 2, .int .u16 q, .int .u16 x, .int .u8 0, .int .i64 0] 32 := by
    have := Cel.new (((((((((W2.setCell ⟨W1.heap.size, 0, none⟩ (.int .u16 4)).setCell ⟨W1.heap.size, 1, none⟩ (.int .u16 0)).setCell ⟨W1.heap.size, 2, none⟩ (.int .u16 0)).setCell ⟨W1.heap.size, 3, none⟩ (.int .u16 0)).setCell ⟨W1.heap.size, 4, none⟩ (.int .u16 0)).setCell ⟨W1.heap.size, 5, none⟩ (.int .u16 x)).setCell ⟨W1.heap.size, 6, none⟩ (.int .u16 0)).setCell ⟨W1.heap.size, 7, none⟩ (.int .u16 0)).setCell ⟨W1.heap.size, 8, none⟩ (.int .u16 0)) #[.int .u8 2, .int .u16 q, .int .u16 x, .int .u8 0, .int .i64 0] 32
    rw [hz2] at this
    exact this
  have hC4 : Cel W4 W1.heap.size #[.int .u16 4, .int .u16 0, .int .u16 0, .int .u16 0, .int .u16 0, .int .u16 x, .int .u16 0, .int .u16 0, .int .u16 0] 28 := (hO4.block _ (Array.getElem?_eq_some_iff.1 hC3).1 (by omega)).trans hC3
  have hD4 : Cel W4 W2.heap.size #[.int .u8 2, .int .u16 q, .int .u16 x, .int .u8 0, .int .i64 0] 32 := (hO4.block _ (Array.getElem?_eq_some_iff.1 hD3).1 (by omega)).trans hD3
  have hB4 : Below w.heap.size w W4 := by
    have h2 := (hB1.alloc hB1.size (.cells #[.int .u16 0, .int .u16 0, .int .u16 0, .int .u16 0, .int .u16 0, .int .u16 x, .int .u16 0, .int .u16 0, .int .u16 0] 28)).trans (hB2.mono (by simp; omega))
    have h3 : Below w.heap.size w ((((((((((W2.setCell ⟨W1.heap.size, 0, none⟩ (.int .u16 4)).setCell ⟨W1.heap.size, 1, none⟩ (.int .u16 0)).setCell ⟨W1.heap.size, 2, none⟩ (.int .u16 0)).setCell ⟨W1.heap.size, 3, none⟩ (.int .u16 0)).setCell ⟨W1.heap.size, 4, none⟩ (.int .u16 0)).setCell ⟨W1.heap.size, 5, none⟩ (.int .u16 x)).setCell ⟨W1.heap.size, 6, none⟩ (.int .u16 0)).setCell ⟨W1.heap.size, 7, none⟩ (.int .u16 0)).setCell ⟨W1.heap.size, 8, none⟩ (.int .u16 0)).alloc (.cells #[.int .u8 2, .int .u16 q, .int .u16 x, .int .u8 0, .int .i64 0] 32)) := ((bel_cell (bel_cell (bel_cell (bel_cell (bel_cell (bel_cell (bel_cell (bel_cell (bel_cell h2 (by omega) 0 _) (by omega) 1 _) (by omega) 2 _) (by omega) 3 _) (by omega) 4 _) (by omega) 5 _) (by omega) 6 _) (by omega) 7 _) (by omega) 8 _)).alloc (by rw [hz2]; omega) (.cells #[.int .u8 2, .int .u16 q, .int .u16 x, .int .u8 0, .int .i64 0] 32)
    exact h3.trans (hO4.below _ (Nat.le_refl _) h3.size)
  clear hO4 hC3 hD3 hM3 hM2 hM1 hC hB2 hB1 hz2
  have y0 := hC4.c 0
  have y1 := hC4.c 1
  have y2 := hC4.c 2
  have y3 := hC4.c 3
  have y4 := hC4.c 4
  have y5 := hC4.c 5
  have y6 := hC4.c 6
  have y7 := hC4.c 7
  have y8 := hC4.c 8
  have u0 := hD4.c 0
  have u1 := hD4.c 1
  have u2 := hD4.c 2
  have u3 := hD4.c 3
  have u4 := hD4.c 4
  have yf := hC4.f
  go_wp2_with fail
  have c4 := exec_any 4 (upd (fun _ => 0) 4 x) 13 7 6 q W4 ⟨by decide, by decide⟩ (upd0_wd 4 x hx) ⟨by decide, by decide, by decide, by decide, by decide, by decide, by omega, by omega⟩
  have eX := ld_exec 4 x q (by decide) hqa
  rw [eX] at c4
  clear eX
  refine c4.mono ?_
  rintro e W5 ⟨rfl, hB5⟩
  clear c4 yf y0 y1 y2 y3 y4 y5 y6 y7 y8 u0 u1 u2 u3 u4
  have hC5 := hC4.below hB5 (Array.getElem?_eq_some_iff.1 hC4).1
  have hD5 := hD4.below hB5 (Array.getElem?_eq_some_iff.1 hD4).1
  have hM5 := hM4.below hB5
  have hW5 := hB4.trans (hB5.mono hB4.size)
  clear hC4 hD4 hM4 hB4 hB5
  have hs5 : W1.heap.size < W5.heap.size := (Array.getElem?_eq_some_iff.1 hC5).1
  have ht5 : W2.heap.size < W5.heap.size := (Array.getElem?_eq_some_iff.1 hD5).1
  have hz5 : (((((((((W5.setCell ⟨W1.heap.size, 0, none⟩ (.int .u16 8)).setCell ⟨W1.heap.size, 1, none⟩ (.int .u16 0)).setCell ⟨W1.heap.size, 2, none⟩ (.int .u16 0)).setCell ⟨W1.heap.size, 3, none⟩ (.int .u16 0)).setCell ⟨W1.heap.size, 4, none⟩ (.int .u16 0)).setCell ⟨W1.heap.size, 5, none⟩ (.int .u16 x)).setCell ⟨W1.heap.size, 6, none⟩ (.int .u16 0)).setCell ⟨W1.heap.size, 7, none⟩ (.int .u16 0)).setCell ⟨W1.heap.size, 8, none⟩ (.int .u16 0)).heap.size = W5.heap.size := by simp only [size_cell]
  have hC6 : Cel ((((((((((W5.setCell ⟨W1.heap.size, 0, none⟩ (.int .u16 8)).setCell ⟨W1.heap.size, 1, none⟩ (.int .u16 0)).setCell ⟨W1.heap.size, 2, none⟩ (.int .u16 0)).setCell ⟨W1.heap.size, 3, none⟩ (.int .u16 0)).setCell ⟨W1.heap.size, 4, none⟩ (.int .u16 0)).setCell ⟨W1.heap.size, 5, none⟩ (.int .u16 x)).setCell ⟨W1.heap.size, 6, none⟩ (.int .u16 0)).setCell ⟨W1.heap.size, 7, none⟩ (.int .u16 0)).setCell ⟨W1.heap.size, 8, none⟩ (.int .u16 0)).alloc (.cells #[.int .u8 1, .int .u16 q, .int .u16 0, .int .u8 7, .int .i64 0] 32)) W1.heap.size #[.int .u16 8, .int .u16 0, .int .u16 0, .int .u16 0, .int .u16 0, .int .u16 x, .int .u16 0, .int .u16 0, .int .u16 0] 28 := (hC5.set9 (.int .u16 8) (.int .u16 0) (.int .u16 0) (.int .u16 0) (.int .u16 0) (.int .u16 x) (.int .u16 0) (.int .u16 0) (.int .u16 0)).alloc _
  have hD6 : Cel ((((((((((W5.setCell ⟨W1.heap.size, 0, none⟩ (.int .u16 8)).setCell ⟨W1.heap.size, 1, none⟩ (.int .u16 0)).setCell ⟨W1.heap.size, 2, none⟩ (.int .u16 0)).setCell ⟨W1.heap.size, 3, none⟩ (.int .u16 0)).setCell ⟨W1.heap.size, 4, none⟩ (.int .u16 0)).setCell ⟨W1.heap.size, 5, none⟩ (.int .u16 x)).setCell ⟨W1.heap.size, 6, none⟩ (.int .u16 0)).setCell ⟨W1.heap.size, 7, none⟩ (.int .u16 0)).setCell ⟨W1.heap.size, 8, none⟩ (.int .u16 0)).alloc (.cells #[.int .u8 1, .int .u16 q, .int .u16 0, .int .u8 7, .int .i64 0] 32)) W2.heap.size #[.int .u8 2, .int .u16 q, .int .u16 x, .int .u8 0, .int .i64 0] 32 := (hD5.set9o (by omega) (.int .u16 8) (.int .u16 0) (.int .u16 0) (.int .u16 0) (.int .u16 0) (.int .u16 x) (.int .u16 0) (.int .u16 0) (.int .u16 0)).alloc _
  have hE6 : Cel ((((((((((W5.setCell ⟨W1.heap.size, 0, none⟩ (.int .u16 8)).setCell ⟨W1.heap.size, 1, none⟩ (.int .u16 0)).setCell ⟨W1.heap.size, 2, none⟩ (.int .u16 0)).setCell ⟨W1.heap.size, 3, none⟩ (.int .u16 0)).setCell ⟨W1.heap.size, 4, none⟩ (.int .u16 0)).setCell ⟨W1.heap.size, 5, none⟩ (.int .u16 x)).setCell ⟨W1.heap.size, 6, none⟩ (.int .u16 0)).setCell ⟨W1.heap.size, 7, none⟩ (.int .u16 0)).setCell ⟨W1.heap.size, 8, none⟩ (.int .u16 0)).alloc (.cells #[.int .u8 1, .int .u16 q, .int .u16 0, .int .u8 7, .int .i64 0] 32)) W5.heap.size #[.int .u8 1, .int .u16 q, .int .u16 0, .int .u8 7, .int .i64 0] 32 := by
    have := Cel.new (((((((((W5.setCell ⟨W1.heap.size, 0, none⟩ (.int .u16 8)).setCell ⟨W1.heap.size, 1, none⟩ (.int .u16 0)).setCell ⟨W1.heap.size, 2, none⟩ (.int .u16 0)).setCell ⟨W1.heap.size, 3, none⟩ (.int .u16 0)).setCell ⟨W1.heap.size, 4, none⟩ (.int .u16 0)).setCell ⟨W1.heap.size, 5, none⟩ (.int .u16 x)).setCell ⟨W1.heap.size, 6, none⟩ (.int .u16 0)).setCell ⟨W1.heap.size, 7, none⟩ (.int .u16 0)).setCell ⟨W1.heap.size, 8, none⟩ (.int .u16 0)) #[.int .u8 1, .int .u16 q, .int .u16 0, .int .u8 7, .int .i64 0] 32
    rw [hz5] at this
    exact this
  have hM6 : Mem ((((((((((W5.setCell ⟨W1.heap.size, 0, none⟩ (.int .u16 8)).setCell ⟨W1.heap.size, 1, none⟩ (.int .u16 0)).setCell ⟨W1.heap.size, 2, none⟩ (.int .u16 0)).setCell ⟨W1.heap.size, 3, none⟩ (.int .u16 0)).setCell ⟨W1.heap.size, 4, none⟩ (.int .u16 0)).setCell ⟨W1.heap.size, 5, none⟩ (.int .u16 x)).setCell ⟨W1.heap.size, 6, none⟩ (.int .u16 0)).setCell ⟨W1.heap.size, 7, none⟩ (.int .u16 0)).setCell ⟨W1.heap.size, 8, none⟩ (.int .u16 0)).alloc (.cells #[.int .u8 1, .int .u16 q, .int .u16 0, .int .u8 7, .int .i64 0] 32)) w.heap.size 16 (putL zeroL (f * 32 + o) [x / 256, x % 256]) := (((((((((hM5.other hne 0 _).other hne 1 _).other hne 2 _).other hne 3 _).other hne 4 _).other hne 5 _).other hne 6 _).other hne 7 _).other hne 8 _).below ((Below.refl _ _).alloc (Nat.le_refl _) _)
  have hW6 : Below w.heap.size w ((((((((((W5.setCell ⟨W1.heap.size, 0, none⟩ (.int .u16 8)).setCell ⟨W1.heap.size, 1, none⟩ (.int .u16 0)).setCell ⟨W1.heap.size, 2, none⟩ (.int .u16 0)).setCell ⟨W1.heap.size, 3, none⟩ (.int .u16 0)).setCell ⟨W1.heap.size, 4, none⟩ (.int .u16 0)).setCell ⟨W1.heap.size, 5, none⟩ (.int .u16 x)).setCell ⟨W1.heap.size, 6, none⟩ (.int .u16 0)).setCell ⟨W1.heap.size, 7, none⟩ (.int .u16 0)).setCell ⟨W1.heap.size, 8, none⟩ (.int .u16 0)).alloc (.cells #[.int .u8 1, .int .u16 q, .int .u16 0, .int .u8 7, .int .i64 0] 32)) := ((bel_cell (bel_cell (bel_cell (bel_cell (bel_cell (bel_cell (bel_cell (bel_cell (bel_cell hW5 (by omega) 0 _) (by omega) 1 _) (by omega) 2 _) (by omega) 3 _) (by omega) 4 _) (by omega) 5 _) (by omega) 6 _) (by omega) 7 _) (by omega) 8 _)).alloc (by rw [hz5]; omega) (.cells #[.int .u8 1, .int .u16 q, .int .u16 0, .int .u8 7, .int .i64 0] 32)
  have c5 := word_ok w.heap.size f o 16 _ ((((((((((W5.setCell ⟨W1.heap.size, 0, none⟩ (.int .u16 8)).setCell ⟨W1.heap.size, 1, none⟩ (.int .u16 0)).setCell ⟨W1.heap.size, 2, none⟩ (.int .u16 0)).setCell ⟨W1.heap.size, 3, none⟩ (.int .u16 0)).setCell ⟨W1.heap.size, 4, none⟩ (.int .u16 0)).setCell ⟨W1.heap.size, 5, none⟩ (.int .u16 x)).setCell ⟨W1.heap.size, 6, none⟩ (.int .u16 0)).setCell ⟨W1.heap.size, 7, none⟩ (.int .u16 0)).setCell ⟨W1.heap.size, 8, none⟩ (.int .u16 0)).alloc (.cells #[.int .u8 1, .int .u16 q, .int .u16 0, .int .u8 7, .int .i64 0] 32)) hM6 (by omega) ho (stored_ok _ x hx)
  rw [(stored_two (f * 32 + o) x (by omega)).1, (stored_two (f * 32 + o) x (by omega)).2, show x / 256 * 256 + x % 256 = x by omega] at c5
  have y0 := hC5.c 0
  have y1 := hC5.c 1
  have y2 := hC5.c 2
  have y3 := hC5.c 3
  have y4 := hC5.c 4
  have y5 := hC5.c 5
  have y6 := hC5.c 6
  have y7 := hC5.c 7
  have y8 := hC5.c 8
  have u0 := hD5.c 0
  have u1 := hD5.c 1
  have u2 := hD5.c 2
  have u3 := hD5.c 3
  have u4 := hD5.c 4
  have yf := hC5.f
  unfold execV rgV accV
  simp only [upd]
  go_wp2_with fail
  refine c5.mono ?_
  rintro e W7 ⟨rfl, hB7⟩
  clear c5 yf y0 y1 y2 y3 y4 y5 y6 y7 y8 u0 u1 u2 u3 u4
  have hC7 := hC6.below hB7 (Array.getElem?_eq_some_iff.1 hC6).1
  have hD7 := hD6.below hB7 (Array.getElem?_eq_some_iff.1 hD6).1
  have hE7 := hE6.below hB7 (Array.getElem?_eq_some_iff.1 hE6).1
  have hW7 := hW6.trans (hB7.mono hW6.size)
  clear hC6 hD6 hE6 hM6 hW6 hB7 hC5 hD5 hM5 hW5 hz5
  have y0 := hC7.c 0
  have y1 := hC7.c 1
  have y2 := hC7.c 2
  have y3 := hC7.c 3
  have y4 := hC7.c 4
  have y5 := hC7.c 5
  have y6 := hC7.c 6
  have y7 := hC7.c 7
  have y8 := hC7.c 8
  have u0 := hD7.c 0
  have u1 := hD7.c 1
  have u2 := hD7.c 2
  have u3 := hD7.c 3
  have u4 := hD7.c 4
  have t0 := hE7.c 0
  have t1 := hE7.c 1
  have t2 := hE7.c 2
  have t3 := hE7.c 3
  have t4 := hE7.c 4
  have yf := hC7.f
  go_wp2_with fail
  have c6 := load_any 8 (upd (fun _ => 0) 4 x) 7 x W7 (by decide)
  refine c6.mono ?_
  rintro e W8 ⟨rfl, hB8⟩
  clear c6 yf y0 y1 y2 y3 y4 y5 y6 y7 y8 u0 u1 u2 u3 u4 t0 t1 t2 t3 t4
  have hC8 := hC7.below hB8 (Array.getElem?_eq_some_iff.1 hC7).1
  have hD8 := hD7.below hB8 (Array.getElem?_eq_some_iff.1 hD7).1
  have hE8 := hE7.below hB8 (Array.getElem?_eq_some_iff.1 hE7).1
  have hW8 := hW7.trans (hB8.mono hW7.size)
  clear hC7 hD7 hE7 hW7 hB8
  have y0 := hC8.c 0
  have y1 := hC8.c 1
  have y2 := hC8.c 2
  have y3 := hC8.c 3
  have y4 := hC8.c 4
  have y5 := hC8.c 5
  have y6 := hC8.c 6
  have y7 := hC8.c 7
  have y8 := hC8.c 8
  have u0 := hD8.c 0
  have u1 := hD8.c 1
  have u2 := hD8.c 2
  have u3 := hD8.c 3
  have u4 := hD8.c 4
  have t0 := hE8.c 0
  have t1 := hE8.c 1
  have t2 := hE8.c 2
  have t3 := hE8.c 3
  have t4 := hE8.c 4
  have yf := hC8.f
  unfold loadV rgV
  rw [if_pos (by decide)]
  simp only [upd]
  go_upto_region 15 with fail
  have hCF : Cel (((((((((W8.setCell ⟨W1.heap.size, 0, none⟩ (.int .u16 8)).setCell ⟨W1.heap.size, 1, none⟩ (.int .u16 0)).setCell ⟨W1.heap.size, 2, none⟩ (.int .u16 0)).setCell ⟨W1.heap.size, 3, none⟩ (.int .u16 0)).setCell ⟨W1.heap.size, 4, none⟩ (.int .u16 0)).setCell ⟨W1.heap.size, 5, none⟩ (.int .u16 x)).setCell ⟨W1.heap.size, 6, none⟩ (.int .u16 0)).setCell ⟨W1.heap.size, 7, none⟩ (.int .u16 0)).setCell ⟨W1.heap.size, 8, none⟩ (.int .u16 x)) W1.heap.size #[.int .u16 8, .int .u16 0, .int .u16 0, .int .u16 0, .int .u16 0, .int .u16 x, .int .u16 0, .int .u16 0, .int .u16 x] 28 := hC8.set9 (.int .u16 8) (.int .u16 0) (.int .u16 0) (.int .u16 0) (.int .u16 0) (.int .u16 x) (.int .u16 0) (.int .u16 0) (.int .u16 x)
  have hDF : Cel (((((((((W8.setCell ⟨W1.heap.size, 0, none⟩ (.int .u16 8)).setCell ⟨W1.heap.size, 1, none⟩ (.int .u16 0)).setCell ⟨W1.heap.size, 2, none⟩ (.int .u16 0)).setCell ⟨W1.heap.size, 3, none⟩ (.int .u16 0)).setCell ⟨W1.heap.size, 4, none⟩ (.int .u16 0)).setCell ⟨W1.heap.size, 5, none⟩ (.int .u16 x)).setCell ⟨W1.heap.size, 6, none⟩ (.int .u16 0)).setCell ⟨W1.heap.size, 7, none⟩ (.int .u16 0)).setCell ⟨W1.heap.size, 8, none⟩ (.int .u16 x)) W2.heap.size #[.int .u8 2, .int .u16 q, .int .u16 x, .int .u8 0, .int .i64 0] 32 := hD8.set9o (by omega) (.int .u16 8) (.int .u16 0) (.int .u16 0) (.int .u16 0) (.int .u16 0) (.int .u16 x) (.int .u16 0) (.int .u16 0) (.int .u16 x)
  have hEF : Cel (((((((((W8.setCell ⟨W1.heap.size, 0, none⟩ (.int .u16 8)).setCell ⟨W1.heap.size, 1, none⟩ (.int .u16 0)).setCell ⟨W1.heap.size, 2, none⟩ (.int .u16 0)).setCell ⟨W1.heap.size, 3, none⟩ (.int .u16 0)).setCell ⟨W1.heap.size, 4, none⟩ (.int .u16 0)).setCell ⟨W1.heap.size, 5, none⟩ (.int .u16 x)).setCell ⟨W1.heap.size, 6, none⟩ (.int .u16 0)).setCell ⟨W1.heap.size, 7, none⟩ (.int .u16 0)).setCell ⟨W1.heap.size, 8, none⟩ (.int .u16 x)) W5.heap.size #[.int .u8 1, .int .u16 q, .int .u16 0, .int .u8 7, .int .i64 0] 32 := hE8.set9o (by omega) (.int .u16 8) (.int .u16 0) (.int .u16 0) (.int .u16 0) (.int .u16 0) (.int .u16 x) (.int .u16 0) (.int .u16 0) (.int .u16 x)
  have hWF : Below w.heap.size w (((((((((W8.setCell ⟨W1.heap.size, 0, none⟩ (.int .u16 8)).setCell ⟨W1.heap.size, 1, none⟩ (.int .u16 0)).setCell ⟨W1.heap.size, 2, none⟩ (.int .u16 0)).setCell ⟨W1.heap.size, 3, none⟩ (.int .u16 0)).setCell ⟨W1.heap.size, 4, none⟩ (.int .u16 0)).setCell ⟨W1.heap.size, 5, none⟩ (.int .u16 x)).setCell ⟨W1.heap.size, 6, none⟩ (.int .u16 0)).setCell ⟨W1.heap.size, 7, none⟩ (.int .u16 0)).setCell ⟨W1.heap.size, 8, none⟩ (.int .u16 x)) := (bel_cell (bel_cell (bel_cell (bel_cell (bel_cell (bel_cell (bel_cell (bel_cell (bel_cell hW8 (by omega) 0 _) (by omega) 1 _) (by omega) 2 _) (by omega) 3 _) (by omega) 4 _) (by omega) 5 _) (by omega) 6 _) (by omega) 7 _) (by omega) 8 _)
  clear yf y0 y1 y2 y3 y4 y5 y6 y7 y8 u0 u1 u2 u3 u4 t0 t1 t2 t3 t4 hC8 hD8 hE8 hW8
  generalize (((((((((W8.setCell ⟨W1.heap.size, 0, none⟩ (.int .u16 8)).setCell ⟨W1.heap.size, 1, none⟩ (.int .u16 0)).setCell ⟨W1.heap.size, 2, none⟩ (.int .u16 0)).setCell ⟨W1.heap.size, 3, none⟩ (.int .u16 0)).setCell ⟨W1.heap.size, 4, none⟩ (.int .u16 0)).setCell ⟨W1.heap.size, 5, none⟩ (.int .u16 x)).setCell ⟨W1.heap.size, 6, none⟩ (.int .u16 0)).setCell ⟨W1.heap.size, 7, none⟩ (.int .u16 0)).setCell ⟨W1.heap.size, 8, none⟩ (.int .u16 x)) = WF at *
  have y0 := hCF.c 0
  have y1 := hCF.c 1
  have y2 := hCF.c 2
  have y3 := hCF.c 3
  have y4 := hCF.c 4
  have y5 := hCF.c 5
  have y6 := hCF.c 6
  have y7 := hCF.c 7
  have y8 := hCF.c 8
  have u0 := hDF.c 0
  have u1 := hDF.c 1
  have u2 := hDF.c 2
  have u3 := hDF.c 3
  have u4 := hDF.c 4
  have t0 := hEF.c 0
  have t1 := hEF.c 1
  have t2 := hEF.c 2
  have t3 := hEF.c 3
  have t4 := hEF.c 4
  go_wp2
  go_ret
  exact ⟨rfl, hWF⟩
set_option maxHeartbeats 8000000 in
theorem stored_4_1 (x rg at_ q : Int) (f o : Nat) (w : World) (hx : 0 ≤ x ∧ x ≤ 65535) (hr : rg.tmod 7 = 4) (m : Int) (hm : at_.tmod 511 = m) (hq2 : m.tmod 32 = 31) (hw : IntKind.u16.wrap (m - 1) = q) (Hq : Hid3 (q = 32 * f + o)) (hf : f < 16) (ho : o + 2 ≤ 32) (hqf : q.tdiv 32 = f) (hqo : q.tmod 32 = o) :
    Calls Try.prog 3 #[.int .u16 x, .int .u8 rg, .int .u16 at_] w fun e w' => e = .returned (.bool true) ∧ Below w.heap.size w w' := by
  have c1 := new_good 16 w (by decide) (by decide)
  have hqa : 0 ≤ q ∧ q ≤ 510 := by have := Hq.out; omega
  go_enter Try.func3, Try.ntmps3
  go_wp2_with fail
  refine c1.mono ?_
  rintro e W1 ⟨rfl, hM1, hB1⟩
  clear c1
  have hs1 := hM1.lt
  go_wp2_with fail
  have c2 := exec_any 0 (upd (fun _ => 0) 4 x) 14 4 7 q (W1.alloc (.cells #[.int .u16 0, .int .u16 0, .int .u16 0, .int .u16 0, .int .u16 0, .int .u16 x, .int .u16 0, .int .u16 0, .int .u16 0] 28)) ⟨by decide, by decide⟩ (upd0_wd 4 x hx) ⟨by decide, by decide, by decide, by decide, by decide, by decide, by omega, by omega⟩
  have eX := st_exec 4 x q (by decide) hqa
  rw [show ((4 : Nat) : Int) = 4 from rfl] at eX
  rw [eX] at c2
  clear eX
  refine c2.mono ?_
  rintro e W2 ⟨rfl, hB2⟩
  clear c2
  have hC : Cel W2 W1.heap.size #[.int .u16 0, .int .u16 0, .int .u16 0, .int .u16 0, .int .u16 0, .int .u16 x, .int .u16 0, .int .u16 0, .int .u16 0] 28 := (Cel.new W1 _ _).below hB2 (by simp)
  have hM2 : Mem W2 w.heap.size 16 zeroL := (hM1.below ((Below.refl _ W1).alloc (Nat.le_refl _) _)).below hB2
  have hs2 : W1.heap.size < W2.heap.size := (Array.getElem?_eq_some_iff.1 hC).1
  have y0 := hC.c 0
  have y1 := hC.c 1
  have y2 := hC.c 2
  have y3 := hC.c 3
  have y4 := hC.c 4
  have y5 := hC.c 5
  have y6 := hC.c 6
  have y7 := hC.c 7
  have y8 := hC.c 8
  have yf := hC.f
  have hne : w.heap.size ≠ W1.heap.size := by omega
  have hM3 : Mem ((((((((((W2.setCell ⟨W1.heap.size, 0, none⟩ (.int .u16 4)).setCell ⟨W1.heap.size, 1, none⟩ (.int .u16 0)).setCell ⟨W1.heap.size, 2, none⟩ (.int .u16 0)).setCell ⟨W1.heap.size, 3, none⟩ (.int .u16 0)).setCell ⟨W1.heap.size, 4, none⟩ (.int .u16 0)).setCell ⟨W1.heap.size, 5, none⟩ (.int .u16 x)).setCell ⟨W1.heap.size, 6, none⟩ (.int .u16 0)).setCell ⟨W1.heap.size, 7, none⟩ (.int .u16 0)).setCell ⟨W1.heap.size, 8, none⟩ (.int .u16 0)).alloc (.cells #[.int .u8 2, .int .u16 q, .int .u16 x, .int .u8 0, .int .i64 0] 32)) w.heap.size 16 zeroL := (((((((((hM2.other hne 0 _).other hne 1 _).other hne 2 _).other hne 3 _).other hne 4 _).other hne 5 _).other hne 6 _).other hne 7 _).other hne 8 _).below ((Below.refl _ _).alloc (Nat.le_refl _) _)
  have c3 := setword_ok w.heap.size f o 16 x zeroL ((((((((((W2.setCell ⟨W1.heap.size, 0, none⟩ (.int .u16 4)).setCell ⟨W1.heap.size, 1, none⟩ (.int .u16 0)).setCell ⟨W1.heap.size, 2, none⟩ (.int .u16 0)).setCell ⟨W1.heap.size, 3, none⟩ (.int .u16 0)).setCell ⟨W1.heap.size, 4, none⟩ (.int .u16 0)).setCell ⟨W1.heap.size, 5, none⟩ (.int .u16 x)).setCell ⟨W1.heap.size, 6, none⟩ (.int .u16 0)).setCell ⟨W1.heap.size, 7, none⟩ (.int .u16 0)).setCell ⟨W1.heap.size, 8, none⟩ (.int .u16 0)).alloc (.cells #[.int .u8 2, .int .u16 q, .int .u16 x, .int .u8 0, .int .i64 0] 32)) hM3 (by omega) ho hx.1 (by omega)
  unfold execV rgV accV
  simp only [upd]
  go_wp2_with fail
  refine c3.mono ?_
  rintro e W4 ⟨rfl, hM4, hO4⟩
  clear c3 y0 y1 y2 y3 y4 y5 y6 y7 y8 yf
  have hz2 : (((((((((W2.setCell ⟨W1.heap.size, 0, none⟩ (.int .u16 4)).setCell ⟨W1.heap.size, 1, none⟩ (.int .u16 0)).setCell ⟨W1.heap.size, 2, none⟩ (.int .u16 0)).setCell ⟨W1.heap.size, 3, none⟩ (.int .u16 0)).setCell ⟨W1.heap.size, 4, none⟩ (.int .u16 0)).setCell ⟨W1.heap.size, 5, none⟩ (.int .u16 x)).setCell ⟨W1.heap.size, 6, none⟩ (.int .u16 0)).setCell ⟨W1.heap.size, 7, none⟩ (.int .u16 0)).setCell ⟨W1.heap.size, 8, none⟩ (.int .u16 0)).heap.size = W2.heap.size := by simp only [size_cell]
  have hC3 : Cel ((((((((((W2.setCell ⟨W1.heap.size, 0, none⟩ (.int .u16 4)).setCell ⟨W1.heap.size, 1, none⟩ (.int .u16 0)).setCell ⟨W1.heap.size, 2, none⟩ (.int .u16 0)).setCell ⟨W1.heap.size, 3, none⟩ (.int .u16 0)).setCell ⟨W1.heap.size, 4, none⟩ (.int .u16 0)).setCell ⟨W1.heap.size, 5, none⟩ (.int .u16 x)).setCell ⟨W1.heap.size, 6, none⟩ (.int .u16 0)).setCell ⟨W1.heap.size, 7, none⟩ (.int .u16 0)).setCell ⟨W1.heap.size, 8, none⟩ (.int .u16 0)).alloc (.cells #[.int .u8 2, .int .u16 q, .int .u16 x, .int .u8 0, .int .i64 0] 32)) W1.heap.size #[.int .u16 4, .int .u16 0, .int .u16 0, .int .u16 0, .int .u16 0, .int .u16 x, .int .u16 0, .int .u16 0, .int .u16 0] 28 := (hC.set9 (.int .u16 4) (.int .u16 0) (.int .u16 0) (.int .u16 0) (.int .u16 0) (.int .u16 x) (.int .u16 0) (.int .u16 0) (.int .u16 0)).alloc _
  have hD3 : Cel ((((((((((W2.setCell ⟨W1.heap.size, 0, none⟩ (.int .u16 4)).setCell ⟨W1.heap.size, 1, none⟩ (.int .u16 0)).setCell ⟨W1.heap.size, 2, none⟩ (.int .u16 0)).setCell ⟨W1.heap.size, 3, none⟩ (.int .u16 0)).setCell ⟨W1.heap.size, 4, none⟩ (.int .u16 0)).setCell ⟨W1.heap.size, 5, none⟩ (.int .u16 x)).setCell ⟨W1.heap.size, 6, none⟩ (.int .u16 0)).setCell ⟨W1.heap.size, 7, none⟩ (.int .u16 0)).setCell ⟨W1.heap.size, 8, none⟩ (.int .u16 0)).alloc (.cells #[.int .u8 2, .int .u16 q, .int .u16 x, .int .u8 0, .int .i64 0] 32)) W2.heap.size #[.int .u8 2, .int .u16 q, .int .u16 x, .int .u8 0, .int .i64 0] 32 := by
    have := Cel.new (((((((((W2.setCell ⟨W1.heap.size, 0, none⟩ (.int .u16 4)).setCell ⟨W1.heap.size, 1, none⟩ (.int .u16 0)).setCell ⟨W1.heap.size, 2, none⟩ (.int .u16 0)).setCell ⟨W1.heap.size, 3, none⟩ (.int .u16 0)).setCell ⟨W1.heap.size, 4, none⟩ (.int .u16 0)).setCell ⟨W1.heap.size, 5, none⟩ (.int .u16 x)).setCell ⟨W1.heap.size, 6, none⟩ (.int .u16 0)).setCell ⟨W1.heap.size, 7, none⟩ (.int .u16 0)).setCell ⟨W1.heap.size, 8, none⟩ (.int .u16 0)) #[.int .u8 2, .int .u16 q, .int .u16 x, .int .u8 0, .int .i64 0] 32
    rw [hz2] at this
    exact this
  have hC4 : Cel W4 W1.heap.size #[.int .u16 4, .int .u16 0, .int .u16 0, .int .u16 0, .int .u16 0, .int .u16 x, .int .u16 0, .int .u16 0, .int .u16 0] 28 := (hO4.block _ (Array.getElem?_eq_some_iff.1 hC3).1 (by omega)).trans hC3
  have hD4 : Cel W4 W2.heap.size #[.int .u8 2, .int .u16 q, .int .u16 x, .int .u8 0, .int .i64 0] 32 := (hO4.block _ (Array.getElem?_eq_some_iff.1 hD3).1 (by omega)).trans hD3
  have hB4 : Below w.heap.size w W4 := by
    have h2 := (hB1.alloc hB1.size (.cells #[.int .u16 0, .int .u16 0, .int .u16 0, .int .u16 0, .int .u16 0, .int .u16 x, .int .u16 0, .int .u16 0, .int .u16 0] 28)).trans (hB2.mono (by simp; omega))
    have h3 : Below w.heap.size w ((((((((((W2.setCell ⟨W1.heap.size, 0, none⟩ (.int .u16 4)).setCell ⟨W1.heap.size, 1, none⟩ (.int .u16 0)).setCell ⟨W1.heap.size, 2, none⟩ (.int .u16 0)).setCell ⟨W1.heap.size, 3, none⟩ (.int .u16 0)).setCell ⟨W1.heap.size, 4, none⟩ (.int .u16 0)).setCell ⟨W1.heap.size, 5, none⟩ (.int .u16 x)).setCell ⟨W1.heap.size, 6, none⟩ (.int .u16 0)).setCell ⟨W1.heap.size, 7, none⟩ (.int .u16 0)).setCell ⟨W1.heap.size, 8, none⟩ (.int .u16 0)).alloc (.cells #[.int .u8 2, .int .u16 q, .int .u16 x, .int .u8 0, .int .i64 0] 32)) := ((bel_cell (bel_cell (bel_cell (bel_cell (bel_cell (bel_cell (bel_cell (bel_cell (bel_cell h2 (by omega) 0 _) (by omega) 1 _) (by omega) 2 _) (by omega) 3 _) (by omega) 4 _) (by omega) 5 _) (by omega) 6 _) (by omega) 7 _) (by omega) 8 _)).alloc (by rw [hz2]; omega) (.cells #[.int .u8 2, .int .u16 q, .int .u16 x, .int .u8 0, .int .i64 0] 32)
    exact h3.trans (hO4.below _ (Nat.le_refl _) h3.size)
  clear hO4 hC3 hD3 hM3 hM2 hM1 hC hB2 hB1 hz2
  have y0 := hC4.c 0
  have y1 := hC4.c 1
  have y2 := hC4.c 2
  have y3 := hC4.c 3
  have y4 := hC4.c 4
  have y5 := hC4.c 5
  have y6 := hC4.c 6
  have y7 := hC4.c 7
  have y8 := hC4.c 8
  have u0 := hD4.c 0
  have u1 := hD4.c 1
  have u2 := hD4.c 2
  have u3 := hD4.c 3
  have u4 := hD4.c 4
  have yf := hC4.f
  go_wp2_with fail
  have c4 := exec_any 4 (upd (fun _ => 0) 4 x) 13 7 6 q W4 ⟨by decide, by decide⟩ (upd0_wd 4 x hx) ⟨by decide, by decide, by decide, by decide, by decide, by decide, by omega, by omega⟩
  have eX := ld_exec 4 x q (by decide) hqa
  rw [eX] at c4
  clear eX
  refine c4.mono ?_
  rintro e W5 ⟨rfl, hB5⟩
  clear c4 yf y0 y1 y2 y3 y4 y5 y6 y7 y8 u0 u1 u2 u3 u4
  have hC5 := hC4.below hB5 (Array.getElem?_eq_some_iff.1 hC4).1
  have hD5 := hD4.below hB5 (Array.getElem?_eq_some_iff.1 hD4).1
  have hM5 := hM4.below hB5
  have hW5 := hB4.trans (hB5.mono hB4.size)
  clear hC4 hD4 hM4 hB4 hB5
  have hs5 : W1.heap.size < W5.heap.size := (Array.getElem?_eq_some_iff.1 hC5).1
  have ht5 : W2.heap.size < W5.heap.size := (Array.getElem?_eq_some_iff.1 hD5).1
  have hz5 : (((((((((W5.setCell ⟨W1.heap.size, 0, none⟩ (.int .u16 8)).setCell ⟨W1.heap.size, 1, none⟩ (.int .u16 0)).setCell ⟨W1.heap.size, 2, none⟩ (.int .u16 0)).setCell ⟨W1.heap.size, 3, none⟩ (.int .u16 0)).setCell ⟨W1.heap.size, 4, none⟩ (.int .u16 0)).setCell ⟨W1.heap.size, 5, none⟩ (.int .u16 x)).setCell ⟨W1.heap.size, 6, none⟩ (.int .u16 0)).setCell ⟨W1.heap.size, 7, none⟩ (.int .u16 0)).setCell ⟨W1.heap.size, 8, none⟩ (.int .u16 0)).heap.size = W5.heap.size := by simp only [size_cell]
  have hC6 : Cel ((((((((((W5.setCell ⟨W1.heap.size, 0, none⟩ (.int .u16 8)).setCell ⟨W1.heap.size, 1, none⟩ (.int .u16 0)).setCell ⟨W1.heap.size, 2, none⟩ (.int .u16 0)).setCell ⟨W1.heap.size, 3, none⟩ (.int .u16 0)).setCell ⟨W1.heap.size, 4, none⟩ (.int .u16 0)).setCell ⟨W1.heap.size, 5, none⟩ (.int .u16 x)).setCell ⟨W1.heap.size, 6, none⟩ (.int .u16 0)).setCell ⟨W1.heap.size, 7, none⟩ (.int .u16 0)).setCell ⟨W1.heap.size, 8, none⟩ (.int .u16 0)).alloc (.cells #[.int .u8 1, .int .u16 q, .int .u16 0, .int .u8 7, .int .i64 0] 32)) W1.heap.size #[.int .u16 8, .int .u16 0, .int .u16 0, .int .u16 0, .int .u16 0, .int .u16 x, .int .u16 0, .int .u16 0, .int .u16 0] 28 := (hC5.set9 (.int .u16 8) (.int .u16 0) (.int .u16 0) (.int .u16 0) (.int .u16 0) (.int .u16 x) (.int .u16 0) (.int .u16 0) (.int .u16 0)).alloc _
  have hD6 : Cel ((((((((((W5.setCell ⟨W1.heap.size, 0, none⟩ (.int .u16 8)).setCell ⟨W1.heap.size, 1, none⟩ (.int .u16 0)).setCell ⟨W1.heap.size, 2, none⟩ (.int .u16 0)).setCell ⟨W1.heap.size, 3, none⟩ (.int .u16 0)).setCell ⟨W1.heap.size, 4, none⟩ (.int .u16 0)).setCell ⟨W1.heap.size, 5, none⟩ (.int .u16 x)).setCell ⟨W1.heap.size, 6, none⟩ (.int .u16 0)).setCell ⟨W1.heap.size, 7, none⟩ (.int .u16 0)).setCell ⟨W1.heap.size, 8, none⟩ (.int .u16 0)).alloc (.cells #[.int .u8 1, .int .u16 q, .int .u16 0, .int .u8 7, .int .i64 0] 32)) W2.heap.size #[.int .u8 2, .int .u16 q, .int .u16 x, .int .u8 0, .int .i64 0] 32 := (hD5.set9o (by omega) (.int .u16 8) (.int .u16 0) (.int .u16 0) (.int .u16 0) (.int .u16 0) (.int .u16 x) (.int .u16 0) (.int .u16 0) (.int .u16 0)).alloc _
  have hE6 : Cel ((((((((((W5.setCell ⟨W1.heap.size, 0, none⟩ (.int .u16 8)).setCell ⟨W1.heap.size, 1, none⟩ (.int .u16 0)).setCell ⟨W1.heap.size, 2, none⟩ (.int .u16 0)).setCell ⟨W1.heap.size, 3, none⟩ (.int .u16 0)).setCell ⟨W1.heap.size, 4, none⟩ (.int .u16 0)).setCell ⟨W1.heap.size, 5, none⟩ (.int .u16 x)).setCell ⟨W1.heap.size, 6, none⟩ (.int .u16 0)).setCell ⟨W1.heap.size, 7, none⟩ (.int .u16 0)).setCell ⟨W1.heap.size, 8, none⟩ (.int .u16 0)).alloc (.cells #[.int .u8 1, .int .u16 q, .int .u16 0, .int .u8 7, .int .i64 0] 32)) W5.heap.size #[.int .u8 1, .int .u16 q, .int .u16 0, .int .u8 7, .int .i64 0] 32 := by
    have := Cel.new (((((((((W5.setCell ⟨W1.heap.size, 0, none⟩ (.int .u16 8)).setCell ⟨W1.heap.size, 1, none⟩ (.int .u16 0)).setCell ⟨W1.heap.size, 2, none⟩ (.int .u16 0)).setCell ⟨W1.heap.size, 3, none⟩ (.int .u16 0)).setCell ⟨W1.heap.size, 4, none⟩ (.int .u16 0)).setCell ⟨W1.heap.size, 5, none⟩ (.int .u16 x)).setCell ⟨W1.heap.size, 6, none⟩ (.int .u16 0)).setCell ⟨W1.heap.size, 7, none⟩ (.int .u16 0)).setCell ⟨W1.heap.size, 8, none⟩ (.int .u16 0)) #[.int .u8 1, .int .u16 q, .int .u16 0, .int .u8 7, .int .i64 0] 32
    rw [hz5] at this
    exact this
  have hM6 : Mem ((((((((((W5.setCell ⟨W1.heap.size, 0, none⟩ (.int .u16 8)).setCell ⟨W1.heap.size, 1, none⟩ (.int .u16 0)).setCell ⟨W1.heap.size, 2, none⟩ (.int .u16 0)).setCell ⟨W1.heap.size, 3, none⟩ (.int .u16 0)).setCell ⟨W1.heap.size, 4, none⟩ (.int .u16 0)).setCell ⟨W1.heap.size, 5, none⟩ (.int .u16 x)).setCell ⟨W1.heap.size, 6, none⟩ (.int .u16 0)).setCell ⟨W1.heap.size, 7, none⟩ (.int .u16 0)).setCell ⟨W1.heap.size, 8, none⟩ (.int .u16 0)).alloc (.cells #[.int .u8 1, .int .u16 q, .int .u16 0, .int .u8 7, .int .i64 0] 32)) w.heap.size 16 (putL zeroL (f * 32 + o) [x / 256, x % 256]) := (((((((((hM5.other hne 0 _).other hne 1 _).other hne 2 _).other hne 3 _).other hne 4 _).other hne 5 _).other hne 6 _).other hne 7 _).other hne 8 _).below ((Below.refl _ _).alloc (Nat.le_refl _) _)
  have hW6 : Below w.heap.size w ((((((((((W5.setCell ⟨W1.heap.size, 0, none⟩ (.int .u16 8)).setCell ⟨W1.heap.size, 1, none⟩ (.int .u16 0)).setCell ⟨W1.heap.size, 2, none⟩ (.int .u16 0)).setCell ⟨W1.heap.size, 3, none⟩ (.int .u16 0)).setCell ⟨W1.heap.size, 4, none⟩ (.int .u16 0)).setCell ⟨W1.heap.size, 5, none⟩ (.int .u16 x)).setCell ⟨W1.heap.size, 6, none⟩ (.int .u16 0)).setCell ⟨W1.heap.size, 7, none⟩ (.int .u16 0)).setCell ⟨W1.heap.size, 8, none⟩ (.int .u16 0)).alloc (.cells #[.int .u8 1, .int .u16 q, .int .u16 0, .int .u8 7, .int .i64 0] 32)) := ((bel_cell (bel_cell (bel_cell (bel_cell (bel_cell (bel_cell (bel_cell (bel_cell (bel_cell hW5 (by omega) 0 _) (by omega) 1 _) (by omega) 2 _) (by omega) 3 _) (by omega) 4 _) (by omega) 5 _) (by omega) 6 _) (by omega) 7 _) (by omega) 8 _)).alloc (by rw [hz5]; omega) (.cells #[.int .u8 1, .int .u16 q, .int .u16 0, .int .u8 7, .int .i64 0] 32)
  have c5 := word_ok w.heap.size f o 16 _ ((((((((((W5.setCell ⟨W1.heap.size, 0, none⟩ (.int .u16 8)).setCell ⟨W1.heap.size, 1, none⟩ (.int .u16 0)).setCell ⟨W1.heap.size, 2, none⟩ (.int .u16 0)).setCell ⟨W1.heap.size, 3, none⟩ (.int .u16 0)).setCell ⟨W1.heap.size, 4, none⟩ (.int .u16 0)).setCell ⟨W1.heap.size, 5, none⟩ (.int .u16 x)).setCell ⟨W1.heap.size, 6, none⟩ (.int .u16 0)).setCell ⟨W1.heap.size, 7, none⟩ (.int .u16 0)).setCell ⟨W1.heap.size, 8, none⟩ (.int .u16 0)).alloc (.cells #[.int .u8 1, .int .u16 q, .int .u16 0, .int .u8 7, .int .i64 0] 32)) hM6 (by omega) ho (stored_ok _ x hx)
  rw [(stored_two (f * 32 + o) x (by omega)).1, (stored_two (f * 32 + o) x (by omega)).2, show x / 256 * 256 + x % 256 = x by omega] at c5
  have y0 := hC5.c 0
  have y1 := hC5.c 1
  have y2 := hC5.c 2
  have y3 := hC5.c 3
  have y4 := hC5.c 4
  have y5 := hC5.c 5
  have y6 := hC5.c 6
  have y7 := hC5.c 7
  have y8 := hC5.c 8
  have u0 := hD5.c 0
  have u1 := hD5.c 1
  have u2 := hD5.c 2
  have u3 := hD5.c 3
  have u4 := hD5.c 4
  have yf := hC5.f
  unfold execV rgV accV
  simp only [upd]
  go_wp2_with fail
  refine c5.mono ?_
  rintro e W7 ⟨rfl, hB7⟩
  clear c5 yf y0 y1 y2 y3 y4 y5 y6 y7 y8 u0 u1 u2 u3 u4
  have hC7 := hC6.below hB7 (Array.getElem?_eq_some_iff.1 hC6).1
  have hD7 := hD6.below hB7 (Array.getElem?_eq_some_iff.1 hD6).1
  have hE7 := hE6.below hB7 (Array.getElem?_eq_some_iff.1 hE6).1
  have hW7 := hW6.trans (hB7.mono hW6.size)
  clear hC6 hD6 hE6 hM6 hW6 hB7 hC5 hD5 hM5 hW5 hz5
  have y0 := hC7.c 0
  have y1 := hC7.c 1
  have y2 := hC7.c 2
  have y3 := hC7.c 3
  have y4 := hC7.c 4
  have y5 := hC7.c 5
  have y6 := hC7.c 6
  have y7 := hC7.c 7
  have y8 := hC7.c 8
  have u0 := hD7.c 0
  have u1 := hD7.c 1
  have u2 := hD7.c 2
  have u3 := hD7.c 3
  have u4 := hD7.c 4
  have t0 := hE7.c 0
  have t1 := hE7.c 1
  have t2 := hE7.c 2
  have t3 := hE7.c 3
  have t4 := hE7.c 4
  have yf := hC7.f
  go_wp2_with fail
  have c6 := load_any 8 (upd (fun _ => 0) 4 x) 7 x W7 (by decide)
  refine c6.mono ?_
  rintro e W8 ⟨rfl, hB8⟩
  clear c6 yf y0 y1 y2 y3 y4 y5 y6 y7 y8 u0 u1 u2 u3 u4 t0 t1 t2 t3 t4
  have hC8 := hC7.below hB8 (Array.getElem?_eq_some_iff.1 hC7).1
  have hD8 := hD7.below hB8 (Array.getElem?_eq_some_iff.1 hD7).1
  have hE8 := hE7.below hB8 (Array.getElem?_eq_some_iff.1 hE7).1
  have hW8 := hW7.trans (hB8.mono hW7.size)
  clear hC7 hD7 hE7 hW7 hB8
  have y0 := hC8.c 0
  have y1 := hC8.c 1
  have y2 := hC8.c 2
  have y3 := hC8.c 3
  have y4 := hC8.c 4
  have y5 := hC8.c 5
  have y6 := hC8.c 6
  have y7 := hC8.c 7
  have y8 := hC8.c 8
  have u0 := hD8.c 0
  have u1 := hD8.c 1
  have u2 := hD8.c 2
  have u3 := hD8.c 3
  have u4 := hD8.c 4
  have t0 := hE8.c 0
  have t1 := hE8.c 1
  have t2 := hE8.c 2
  have t3 := hE8.c 3
  have t4 := hE8.c 4
  have yf := hC8.f
  unfold loadV rgV
  rw [if_pos (by decide)]
  simp only [upd]
  go_upto_region 15 with fail
  have hCF : Cel (((((((((W8.setCell ⟨W1.heap.size, 0, none⟩ (.int .u16 8)).setCell ⟨W1.heap.size, 1, none⟩ (.int .u16 0)).setCell ⟨W1.heap.size, 2, none⟩ (.int .u16 0)).setCell ⟨W1.heap.size, 3, none⟩ (.int .u16 0)).setCell ⟨W1.heap.size, 4, none⟩ (.int .u16 0)).setCell ⟨W1.heap.size, 5, none⟩ (.int .u16 x)).setCell ⟨W1.heap.size, 6, none⟩ (.int .u16 0)).setCell ⟨W1.heap.size, 7, none⟩ (.int .u16 0)).setCell ⟨W1.heap.size, 8, none⟩ (.int .u16 x)) W1.heap.size #[.int .u16 8, .int .u16 0, .int .u16 0, .int .u16 0, .int .u16 0, .int .u16 x, .int .u16 0, .int .u16 0, .int .u16 x] 28 := hC8.set9 (.int .u16 8) (.int .u16 0) (.int .u16 0) (.int .u16 0) (.int .u16 0) (.int .u16 x) (.int .u16 0) (.int .u16 0) (.int .u16 x)
  have hDF : Cel (((((((((W8.setCell ⟨W1.heap.size, 0, none⟩ (.int .u16 8)).setCell ⟨W1.heap.size, 1, none⟩ (.int .u16 0)).setCell ⟨W1.heap.size, 2, none⟩ (.int .u16 0)).setCell ⟨W1.heap.size, 3, none⟩ (.int .u16 0)).setCell ⟨W1.heap.size, 4, none⟩ (.int .u16 0)).setCell ⟨W1.heap.size, 5, none⟩ (.int .u16 x)).setCell ⟨W1.heap.size, 6, none⟩ (.int .u16 0)).setCell ⟨W1.heap.size, 7, none⟩ (.int .u16 0)).setCell ⟨W1.heap.size, 8, none⟩ (.int .u16 x)) W2.heap.size #[.int .u8 2, .int .u16 q, .int .u16 x, .int .u8 0, .int .i64 0] 32 := hD8.set9o (by omega) (.int .u16 8) (.int .u16 0) (.int .u16 0) (.int .u16 0) (.int .u16 0) (.int .u16 x) (.int .u16 0) (.int .u16 0) (.int .u16 x)
  have hEF : Cel (((((((((W8.setCell ⟨W1.heap.size, 0, none⟩ (.int .u16 8)).setCell ⟨W1.heap.size, 1, none⟩ (.int .u16 0)).setCell ⟨W1.heap.size, 2, none⟩ (.int .u16 0)).setCell ⟨W1.heap.size, 3, none⟩ (.int .u16 0)).setCell ⟨W1.heap.size, 4, none⟩ (.int .u16 0)).setCell ⟨W1.heap.size, 5, none⟩ (.int .u16 x)).setCell ⟨W1.heap.size, 6, none⟩ (.int .u16 0)).setCell ⟨W1.heap.size, 7, none⟩ (.int .u16 0)).setCell ⟨W1.heap.size, 8, none⟩ (.int .u16 x)) W5.heap.size #[.int .u8 1, .int .u16 q, .int .u16 0, .int .u8 7, .int .i64 0] 32 := hE8.set9o (by omega) (.int .u16 8) (.int .u16 0) (.int .u16 0) (.int .u16 0) (.int .u16 0) (.int .u16 x) (.int .u16 0) (.int .u16 0) (.int .u16 x)
  have hWF : Below w.heap.size w (((((((((W8.setCell ⟨W1.heap.size, 0, none⟩ (.int .u16 8)).setCell ⟨W1.heap.size, 1, none⟩ (.int .u16 0)).setCell ⟨W1.heap.size, 2, none⟩ (.int .u16 0)).setCell ⟨W1.heap.size, 3, none⟩ (.int .u16 0)).setCell ⟨W1.heap.size, 4, none⟩ (.int .u16 0)).setCell ⟨W1.heap.size, 5, none⟩ (.int .u16 x)).setCell ⟨W1.heap.size, 6, none⟩ (.int .u16 0)).setCell ⟨W1.heap.size, 7, none⟩ (.int .u16 0)).setCell ⟨W1.heap.size, 8, none⟩ (.int .u16 x)) := (bel_cell (bel_cell (bel_cell (bel_cell (bel_cell (bel_cell (bel_cell (bel_cell (bel_cell hW8 (by omega) 0 _) (by omega) 1 _) (by omega) 2 _) (by omega) 3 _) (by omega) 4 _) (by omega) 5 _) (by omega) 6 _) (by omega) 7 _) (by omega) 8 _)
  clear yf y0 y1 y2 y3 y4 y5 y6 y7 y8 u0 u1 u2 u3 u4 t0 t1 t2 t3 t4 hC8 hD8 hE8 hW8
  generalize (((((((((W8.setCell ⟨W1.heap.size, 0, none⟩ (.int .u16 8)).setCell ⟨W1.heap.size, 1, none⟩ (.int .u16 0)).setCell ⟨W1.heap.size, 2, none⟩ (.int .u16 0)).setCell ⟨W1.heap.size, 3, none⟩ (.int .u16 0)).setCell ⟨W1.heap.size, 4, none⟩ (.int .u16 0)).setCell ⟨W1.heap.size, 5, none⟩ (.int .u16 x)).setCell ⟨W1.heap.size, 6, none⟩ (.int .u16 0)).setCell ⟨W1.heap.size, 7, none⟩ (.int .u16 0)).setCell ⟨W1.heap.size, 8, none⟩ (.int .u16 x)) = WF at *
  have y0 := hCF.c 0
  have y1 := hCF.c 1
  have y2 := hCF.c 2
  have y3 := hCF.c 3
  have y4 := hCF.c 4
  have y5 := hCF.c 5
  have y6 := hCF.c 6
  have y7 := hCF.c 7
  have y8 := hCF.c 8
  have u0 := hDF.c 0
  have u1 := hDF.c 1
  have u2 := hDF.c 2
  have u3 := hDF.c 3
  have u4 := hDF.c 4
  have t0 := hEF.c 0
  have t1 := hEF.c 1
  have t2 := hEF.c 2
  have t3 := hEF.c 3
  have t4 := hEF.c 4
  go_wp2
  go_ret
  exact ⟨rfl, hWF⟩
set_option maxHeartbeats 8000000 in
theorem stored_5_0 (x rg at_ q : Int) (f o : Nat) (w : World) (hx : 0 ≤ x ∧ x ≤ 65535) (hr : rg.tmod 7 = 5) (hm : at_.tmod 511 = q) (Hq : Hid3 (q = 32 * f + o)) (hf : f < 16) (ho : o + 2 ≤ 32) (hqf : q.tdiv 32 = f) (hqo : q.tmod 32 = o) :
    Calls Try.prog 3 #[.int .u16 x, .int .u8 rg, .int .u16 at_] w fun e w' => e = .returned (.bool true) ∧ Below w.heap.size w w' := by
  have c1 := new_good 16 w (by decide) (by decide)
  have hqa : 0 ≤ q ∧ q ≤ 510 := by have := Hq.out; omega
  go_enter Try.func3, Try.ntmps3
  go_wp2_with fail
  refine c1.mono ?_
  rintro e W1 ⟨rfl, hM1, hB1⟩
  clear c1
  have hs1 := hM1.lt
  go_wp2_with fail
  have c2 := exec_any 0 (upd (fun _ => 0) 5 x) 14 5 7 q (W1.alloc (.cells #[.int .u16 0, .int .u16 0, .int .u16 0, .int .u16 0, .int .u16 0, .int .u16 0, .int .u16 x, .int .u16 0, .int .u16 0] 28)) ⟨by decide, by decide⟩ (upd0_wd 5 x hx) ⟨by decide, by decide, by decide, by decide, by decide, by decide, by omega, by omega⟩
  have eX := st_exec 5 x q (by decide) hqa
  rw [show ((5 : Nat) : Int) = 5 from rfl] at eX
  rw [eX] at c2
  clear eX
  refine c2.mono ?_
  rintro e W2 ⟨rfl, hB2⟩
  clear c2
  have hC : Cel W2 W1.heap.size #[.int .u16 0, .int .u16 0, .int .u16 0, .int .u16 0, .int .u16 0, .int .u16 0, .int .u16 x, .int .u16 0, .int .u16 0] 28 := (Cel.new W1 _ _).below hB2 (by simp)
  have hM2 : Mem W2 w.heap.size 16 zeroL := (hM1.below ((Below.refl _ W1).alloc (Nat.le_refl _) _)).below hB2
  have hs2 : W1.heap.size < W2.heap.size := (Array.getElem?_eq_some_iff.1 hC).1
  have y0 := hC.c 0
  have y1 := hC.c 1
  have y2 := hC.c 2
  have y3 := hC.c 3
  have y4 := hC.c 4
  have y5 := hC.c 5
  have y6 := hC.c 6
  have y7 := hC.c 7
  have y8 := hC.c 8
  have yf := hC.f
  have hne : w.heap.size ≠ W1.heap.size := by omega
  have hM3 : Mem ((((((((((W2.setCell ⟨W1.heap.size, 0, none⟩ (.int .u16 4)).setCell ⟨W1.heap.size, 1, none⟩ (.int .u16 0)).setCell ⟨W1.heap.size, 2, none⟩ (.int .u16 0)).setCell ⟨W1.heap.size, 3, none⟩ (.int .u16 0)).setCell ⟨W1.heap.size, 4, none⟩ (.int .u16 0)).setCell ⟨W1.heap.size, 5, none⟩ (.int .u16 0)).setCell ⟨W1.heap.size, 6, none⟩ (.int .u16 x)).setCell ⟨W1.heap.size, 7, none⟩ (.int .u16 0)).setCell ⟨W1.heap.size, 8, none⟩ (.int .u16 0)).alloc (.cells #[.int .u8 2, .int .u16 q, .int .u16 x, .int .u8 0, .int .i64 0] 32)) w.heap.size 16 zeroL := (((((((((hM2.other hne 0 _).other hne 1 _).other hne 2 _).other hne 3 _).other hne 4 _).other hne 5 _).other hne 6 _).other hne 7 _).other hne 8 _).below ((Below.refl _ _).alloc (Nat.le_refl _) _)
  have c3 := setword_ok w.heap.size f o 16 x zeroL ((((((((((W2.setCell ⟨W1.heap.size, 0, none⟩ (.int .u16 4)).setCell ⟨W1.heap.size, 1, none⟩ (.int .u16 0)).setCell ⟨W1.heap.size, 2, none⟩ (.int .u16 0)).setCell ⟨W1.heap.size, 3, none⟩ (.int .u16 0)).setCell ⟨W1.heap.size, 4, none⟩ (.int .u16 0)).setCell ⟨W1.heap.size, 5, none⟩ (.int .u16 0)).setCell ⟨W1.heap.size, 6, none⟩ (.int .u16 x)).setCell ⟨W1.heap.size, 7, none⟩ (.int .u16 0)).setCell ⟨W1.heap.size, 8, none⟩ (.int .u16 0)).alloc (.cells #[.int .u8 2, .int .u16 q, .int .u16 x, .int .u8 0, .int .i64 0] 32)) hM3 (by omega) ho hx.1 (by omega)
  unfold execV rgV accV
  simp only [upd]
  go_wp2_with fail
  refine c3.mono ?_
  rintro e W4 ⟨rfl, hM4, hO4⟩
  clear c3 y0 y1 y2 y3 y4 y5 y6 y7 y8 yf
  have hz2 : (((((((((W2.setCell ⟨W1.heap.size, 0, none⟩ (.int .u16 4)).setCell ⟨W1.heap.size, 1, none⟩ (.int .u16 0)).setCell ⟨W1.heap.size, 2, none⟩ (.int .u16 0)).setCell ⟨W1.heap.size, 3, none⟩ (.int .u16 0)).setCell ⟨W1.heap.size, 4, none⟩ (.int .u16 0)).setCell ⟨W1.heap.size, 5, none⟩ (.int .u16 0)).setCell ⟨W1.heap.size, 6, none⟩ (.int .u16 x)).setCell ⟨W1.heap.size, 7, none⟩ (.int .u16 0)).setCell ⟨W1.heap.size, 8, none⟩ (.int .u16 0)).heap.size = W2.heap.size := by simp only [size_cell]
  have hC3 : Cel ((((((((((W2.setCell ⟨W1.heap.size, 0, none⟩ (.int .u16 4)).setCell ⟨W1.heap.size, 1, none⟩ (.int .u16 0)).setCell ⟨W1.heap.size, 2, none⟩ (.int .u16 0)).setCell ⟨W1.heap.size, 3, none⟩ (.int .u16 0)).setCell ⟨W1.heap.size, 4, none⟩ (.int .u16 0)).setCell ⟨W1.heap.size, 5, none⟩ (.int .u16 0)).setCell ⟨W1.heap.size, 6, none⟩ (.int .u16 x)).setCell ⟨W1.heap.size, 7, none⟩ (.int .u16 0)).setCell ⟨W1.heap.size, 8, none⟩ (.int .u16 0)).alloc (.cells #[.int .u8 2, .int .u16 q, .int .u16 x, .int .u8 0, .int .i64 0] 32)) W1.heap.size #[.int .u16 4, .int .u16 0, .int .u16 0, .int .u16 0, .int .u16 0, .int .u16 0, .int .u16 x, .int .u16 0, .int .u16 0] 28 := (hC.set9 (.int .u16 4) (.int .u16 0) (.int .u16 0) (.int .u16 0) (.int .u16 0) (.int .u16 0) (.int .u16 x) (.int .u16 0) (.int .u16 0)).alloc _
  have hD3 : Cel ((((((((((W2.setCell ⟨W1.heap.size, 0, none⟩ (.int .u16 4)).setCell ⟨W1.heap.size, 1, none⟩ (.int .u16 0)).setCell ⟨W1.heap.size, 2, none⟩ (.int .u16 0)).setCell ⟨W1.heap.size, 3, none⟩ (.int .u16 0)).setCell ⟨W1.heap.size, 4, none⟩ (.int .u16 0)).setCell ⟨W1.heap.size, 5, none⟩ (.int .u16 0)).setCell ⟨W1.heap.size, 6, none⟩ (.int .u16 x)).setCell ⟨W1.heap.size, 7, none⟩ (.int .u16 0)).setCell ⟨W1.heap.size, 8, none⟩ (.int .u16 0)).alloc (.cells #[.int .u8 2, .int .u16 q, .int .u16 x, .int .u8 0, .int .i64 0] 32)) W2.heap.size #[.int .u8 2, .int .u16 q, .int .u16 x, .int .u8 0, .int .i64 0] 32 := by
    have := Cel.new (((((((((W2.setCell ⟨W1.heap.size, 0, none⟩ (.int .u16 4)).setCell ⟨W1.heap.size, 1, none⟩ (.int .u16 0)).setCell ⟨W1.heap.size, 2, none⟩ (.int .u16 0)).setCell ⟨W1.heap.size, 3, none⟩ (.int .u16 0)).setCell ⟨W1.heap.size, 4, none⟩ (.int .u16 0)).setCell ⟨W1.heap.size, 5, none⟩ (.int .u16 0)).setCell ⟨W1.heap.size, 6, none⟩ (.int .u16 x)).setCell ⟨W1.heap.size, 7, none⟩ (.int .u16 0)).setCell ⟨W1.heap.size, 8, none⟩ (.int .u16 0)) #[.int .u8 2, .int .u16 q, .int .u16 x, .int .u8 0, .int .i64 0] 32
    rw [hz2] at this
    exact this
  have hC4 : Cel W4 W1.heap.size #[.int .u16 4, .int .u16 0, .int .u16 0, .int .u16 0, .int .u16 0, .int .u16 0, .int .u16 x, .int .u16 0, .int .u16 0] 28 := (hO4.block _ (Array.getElem?_eq_some_iff.1 hC3).1 (by omega)).trans hC3
  have hD4 : Cel W4 W2.heap.size #[.int .u8 2, .int .u16 q, .int .u16 x, .int .u8 0, .int .i64 0] 32 := (hO4.block _ (Array.getElem?_eq_some_iff.1 hD3).1 (by omega)).trans hD3
  have hB4 : Below w.heap.size w W4 := by
    have h2 := (hB1.alloc hB1.size (.cells #[.int .u16 0, .int .u16 0, .int .u16 0, .int .u16 0, .int .u16 0, .int .u16 0, .int .u16 x, .int .u16 0, .int .u16 0] 28)).trans (hB2.mono (by simp; omega))
    have h3 : Below w.heap.size w ((((((((((W2.setCell ⟨W1.heap.size, 0, none⟩ (.int .u16 4)).setCell ⟨W1.heap.size, 1, none⟩ (.int .u16 0)).setCell ⟨W1.heap.size, 2, none⟩ (.int .u16 0)).setCell ⟨W1.heap.size, 3, none⟩ (.int .u16 0)).setCell ⟨W1.heap.size, 4, none⟩ (.int .u16 0)).setCell ⟨W1.heap.size, 5, none⟩ (.int .u16 0)).setCell ⟨W1.heap.size, 6, none⟩ (.int .u16 x)).setCell ⟨W1.heap.size, 7, none⟩ (.int .u16 0)).setCell ⟨W1.heap.size, 8, none⟩ (.int .u16 0)).alloc (.cells #[.int .u8 2, .int .u16 q, .int .u16 x, .int .u8 0, .int .i64 0] 32)) := ((bel_cell (bel_cell (bel_cell (bel_cell (bel_cell (bel_cell (bel_cell (bel_cell (bel_cell h2 (by omega) 0 _) (by omega) 1 _) (by omega) 2 _) (by omega) 3 _) (by omega) 4 _) (by omega) 5 _) (by omega) 6 _) (by omega) 7 _) (by omega) 8 _)).alloc (by rw [hz2]; omega) (.cells #[.int .u8 2, .int .u16 q, .int .u16 x, .int .u8 0, .int .i64 0] 32)
    exact h3.trans (hO4.below _ (Nat.le_refl _) h3.size)
  clear hO4 hC3 hD3 hM3 hM2 hM1 hC hB2 hB1 hz2
  have y0 := hC4.c 0
  have y1 := hC4.c 1
  have y2 := hC4.c 2
  have y3 := hC4.c 3
  have y4 := hC4.c 4
  have y5 := hC4.c 5
  have y6 := hC4.c 6
  have y7 := hC4.c 7
  have y8 := hC4.c 8
  have u0 := hD4.c 0
  have u1 := hD4.c 1
  have u2 := hD4.c 2
  have u3 := hD4.c 3
  have u4 := hD4.c 4
  have yf := hC4.f
  go_wp2_with fail
  have c4 := exec_any 4 (upd (fun _ => 0) 5 x) 13 7 6 q W4 ⟨by decide, by decide⟩ (upd0_wd 5 x hx) ⟨by decide, by decide, by decide, by decide, by decide, by decide, by omega, by omega⟩
  have eX := ld_exec 5 x q (by decide) hqa
  rw [eX] at c4
  clear eX
  refine c4.mono ?_
  rintro e W5 ⟨rfl, hB5⟩
  clear c4 yf y0 y1 y2 y3 y4 y5 y6 y7 y8 u0 u1 u2 u3 u4
  have hC5 := hC4.below hB5 (Array.getElem?_eq_some_iff.1 hC4).1
  have hD5 := hD4.below hB5 (Array.getElem?_eq_some_iff.1 hD4).1
  have hM5 := hM4.below hB5
  have hW5 := hB4.trans (hB5.mono hB4.size)
  clear hC4 hD4 hM4 hB4 hB5
  have hs5 : W1.heap.size < W5.heap.size := (Array.getElem?_eq_some_iff.1 hC5).1
  have ht5 : W2.heap.size < W5.heap.size := (Array.getElem?_eq_some_iff.1 hD5).1
  have hz5 : (((((((((W5.setCell ⟨W1.heap.size, 0, none⟩ (.int .u16 8)).setCell ⟨W1.heap.size, 1, none⟩ (.int .u16 0)).setCell ⟨W1.heap.size, 2, none⟩ (.int .u16 0)).setCell ⟨W1.heap.size, 3, none⟩ (.int .u16 0)).setCell ⟨W1.heap.size, 4, none⟩ (.int .u16 0)).setCell ⟨W1.heap.size, 5, none⟩ (.int .u16 0)).setCell ⟨W1.heap.size, 6, none⟩ (.int .u16 x)).setCell ⟨W1.heap.size, 7, none⟩ (.int .u16 0)).setCell ⟨W1.heap.size, 8, none⟩ (.int .u16 0)).heap.size = W5.heap.size := by simp only [size_cell]
  have hC6 : Cel ((((((((((W5.setCell ⟨W1.heap.size, 0, none⟩ (.int .u16 8)).setCell ⟨W1.heap.size, 1, none⟩ (.int .u16 0)).setCell ⟨W1.heap.size, 2, none⟩ (.int .u16 0)).setCell ⟨W1.heap.size, 3, none⟩ (.int .u16 0)).setCell ⟨W1.heap.size, 4, none⟩ (.int .u16 0)).setCell ⟨W1.heap.size, 5, none⟩ (.int .u16 0)).setCell ⟨W1.heap.size, 6, none⟩ (.int .u16 x)).setCell ⟨W1.heap.size, 7, none⟩ (.int .u16 0)).setCell ⟨W1.heap.size, 8, none⟩ (.int .u16 0)).alloc (.cells #[.int .u8 1, .int .u16 q, .int .u16 0, .int .u8 7, .int .i64 0] 32)) W1.heap.size #[.int .u16 8, .int .u16 0, .int .u16 0, .int .u16 0, .int .u16 0, .int .u16 0, .int .u16 x, .int .u16 0, .int .u16 0] 28 := (hC5.set9 (.int .u16 8) (.int .u16 0) (.int .u16 0) (.int .u16 0) (.int .u16 0) (.int .u16 0) (.int .u16 x) (.int .u16 0) (.int .u16 0)).alloc _
  have hD6 : Cel ((((((((((W5.setCell ⟨W1.heap.size, 0, none⟩ (.int .u16 8)).setCell ⟨W1.heap.size, 1, none⟩ (.int .u16 0)).setCell ⟨W1.heap.size, 2, none⟩ (.int .u16 0)).setCell ⟨W1.heap.size, 3, none⟩ (.int .u16 0)).setCell ⟨W1.heap.size, 4, none⟩ (.int .u16 0)).setCell ⟨W1.heap.size, 5, none⟩ (.int .u16 0)).setCell ⟨W1.heap.size, 6, none⟩ (.int .u16 x)).setCell ⟨W1.heap.size, 7, none⟩ (.int .u16 0)).setCell ⟨W1.heap.size, 8, none⟩ (.int .u16 0)).alloc (.cells #[.int .u8 1, .int .u16 q, .int .u16 0, .int .u8 7, .int .i64 0] 32)) W2.heap.size #[.int .u8 2, .int .u16 q, .int .u16 x, .int .u8 0, .int .i64 0] 32 := (hD5.set9o (by omega) (.int .u16 8) (.int .u16 0) (.int .u16 0) (.int .u16 0) (.int .u16 0) (.int .u16 0) (.int .u16 x) (.int .u16 0) (.int .u16 0)).alloc _
  have hE6 : Cel ((((((((((W5.setCell ⟨W1.heap.size, 0, none⟩ (.int .u16 8)).setCell ⟨W1.heap.size, 1, none⟩ (.int .u16 0)).setCell ⟨W1.heap.size, 2, none⟩ (.int .u16 0)).setCell ⟨W1.heap.size, 3, none⟩ (.int .u16 0)).setCell ⟨W1.heap.size, 4, none⟩ (.int .u16 0)).setCell ⟨W1.heap.size, 5, none⟩ (.int .u16 0)).setCell ⟨W1.heap.size, 6, none⟩ (.int .u16 x)).setCell ⟨W1.heap.size, 7, none⟩ (.int .u16 0)).setCell ⟨W1.heap.size, 8, none⟩ (.int .u16 0)).alloc (.cells #[.int .u8 1, .int .u16 q, .int .u16 0, .int .u8 7, .int .i64 0] 32)) W5.heap.size #[.int .u8 1, .int .u16 q, .int .u16 0, .int .u8 7, .int .i64 0] 32 := by
    have := Cel.new (((((((((W5.setCell ⟨W1.heap.size, 0, none⟩ (.int .u16 8)).setCell ⟨W1.heap.size, 1, none⟩ (.int .u16 0)).setCell ⟨W1.heap.size, 2, none⟩ (.int .u16 0)).setCell ⟨W1.heap.size, 3, none⟩ (.int .u16 0)).setCell ⟨W1.heap.size, 4, none⟩ (.int .u16 0)).setCell ⟨W1.heap.size, 5, none⟩ (.int .u16 0)).setCell ⟨W1.heap.size, 6, none⟩ (.int .u16 x)).setCell ⟨W1.heap.size, 7, none⟩ (.int .u16 0)).setCell ⟨W1.heap.size, 8, none⟩ (.int .u16 0)) #[.int .u8 1, .int .u16 q, .int .u16 0, .int .u8 7, .int .i64 0] 32
    rw [hz5] at this
    exact this
  have hM6 : Mem ((((((((((W5.setCell ⟨W1.heap.size, 0, none⟩ (.int .u16 8)).setCell ⟨W1.heap.size, 1, none⟩ (.int .u16 0)).setCell ⟨W1.heap.size, 2, none⟩ (.int .u16 0)).setCell ⟨W1.heap.size, 3, none⟩ (.int .u16 0)).setCell ⟨W1.heap.size, 4, none⟩ (.int .u16 0)).setCell ⟨W1.heap.size, 5, none⟩ (.int .u16 0)).setCell ⟨W1.heap.size, 6, none⟩ (.int .u16 x)).setCell ⟨W1.heap.size, 7, none⟩ (.int .u16 0)).setCell ⟨W1.heap.size, 8, none⟩ (.int .u16 0)).alloc (.cells #[.int .u8 1, .int .u16 q, .int .u16 0, .int .u8 7, .int .i64 0] 32)) w.heap.size 16 (putL zeroL (f * 32 + o) [x / 256, x % 256]) := (((((((((hM5.other hne 0 _).other hne 1 _).other hne 2 _).other hne 3 _).other hne 4 _).other hne 5 _).other hne 6 _).other hne 7 _).other hne 8 _).below ((Below.refl _ _).alloc (Nat.le_refl _) _)
  have hW6 : Below w.heap.size w ((((((((((W5.setCell ⟨W1.heap.size, 0, none⟩ (.int .u16 8)).setCell ⟨W1.heap.size, 1, none⟩ (.int .u16 0)).setCell ⟨W1.heap.size, 2, none⟩ (.int .u16 0)).setCell ⟨W1.heap.size, 3, none⟩ (.int .u16 0)).setCell ⟨W1.heap.size, 4, none⟩ (.int .u16 0)).setCell ⟨W1.heap.size, 5, none⟩ (.int .u16 0)).setCell ⟨W1.heap.size, 6, none⟩ (.int .u16 x)).setCell ⟨W1.heap.size, 7, none⟩ (.int .u16 0)).setCell ⟨W1.heap.size, 8, none⟩ (.int .u16 0)).alloc (.cells #[.int .u8 1, .int .u16 q, .int .u16 0, .int .u8 7, .int .i64 0] 32)) := ((bel_cell (bel_cell (bel_cell (bel_cell (bel_cell (bel_cell (bel_cell (bel_cell (bel_cell hW5 (by omega) 0 _) (by omega) 1 _) (by omega) 2 _) (by omega) 3 _) (by omega) 4 _) (by omega) 5 _) (by omega) 6 _) (by omega) 7 _) (by omega) 8 _)).alloc (by rw [hz5]; omega) (.cells #[.int .u8 1, .int .u16 q, .int .u16 0, .int .u8 7, .int .i64 0] 32)
  have c5 := word_ok w.heap.size f o 16 _ ((((((((((W5.setCell ⟨W1.heap.size, 0, none⟩ (.int .u16 8)).setCell ⟨W1.heap.size, 1, none⟩ (.int .u16 0)).setCell ⟨W1.heap.size, 2, none⟩ (.int .u16 0)).setCell ⟨W1.heap.size, 3, none⟩ (.int .u16 0)).setCell ⟨W1.heap.size, 4, none⟩ (.int .u16 0)).setCell ⟨W1.heap.size, 5, none⟩ (.int .u16 0)).setCell ⟨W1.heap.size, 6, none⟩ (.int .u16 x)).setCell ⟨W1.heap.size, 7, none⟩ (.int .u16 0)).setCell ⟨W1.heap.size, 8, none⟩ (.int .u16 0)).alloc (.cells #[.int .u8 1, .int .u16 q, .int .u16 0, .int .u8 7, .int .i64 0] 32)) hM6 (by omega) ho (stored_ok _ x hx)
  rw [(stored_two (f * 32 + o) x (by omega)).1, (stored_two (f * 32 + o) x (by omega)).2, show x / 256 * 256 + x % 256 = x by omega] at c5
  have y0 := hC5.c 0
  have y1 := hC5.c 1
  have y2 := hC5.c 2
  have y3 := hC5.c 3
  have y4 := hC5.c 4
  have y5 := hC5.c 5
  have y6 := hC5.c 6
  have y7 := hC5.c 7
  have y8 := hC5.c 8
  have u0 := hD5.c 0
  have u1 := hD5.c 1
  have u2 := hD5.c 2
  have u3 := hD5.c 3
  have u4 := hD5.c 4
  have yf := hC5.f
  unfold execV rgV accV
  simp only [upd]
  go_wp2_with fail
  refine c5.mono ?_
  rintro e W7 ⟨rfl, hB7⟩
  clear c5 yf y0 y1 y2 y3 y4 y5 y6 y7 y8 u0 u1 u2 u3 u4
  have hC7 := hC6.below hB7 (Array.getElem?_eq_some_iff.1 hC6).1
  have hD7 := hD6.below hB7 (Array.getElem?_eq_some_iff.1 hD6).1
  have hE7 := hE6.below hB7 (Array.getElem?_eq_some_iff.1 hE6).1
  have hW7 := hW6.trans (hB7.mono hW6.size)
  clear hC6 hD6 hE6 hM6 hW6 hB7 hC5 hD5 hM5 hW5 hz5
  have y0 := hC7.c 0
  have y1 := hC7.c 1
  have y2 := hC7.c 2
  have y3 := hC7.c 3
  have y4 := hC7.c 4
  have y5 := hC7.c 5
  have y6 := hC7.c 6
  have y7 := hC7.c 7
  have y8 := hC7.c 8
  have u0 := hD7.c 0
  have u1 := hD7.c 1
  have u2 := hD7.c 2
  have u3 := hD7.c 3
  have u4 := hD7.c 4
  have t0 := hE7.c 0
  have t1 := hE7.c 1
  have t2 := hE7.c 2
  have t3 := hE7.c 3
  have t4 := hE7.c 4
  have yf := hC7.f
  go_wp2_with fail
  have c6 := load_any 8 (upd (fun _ => 0) 5 x) 7 x W7 (by decide)
  refine c6.mono ?_
  rintro e W8 ⟨rfl, hB8⟩
  clear c6 yf y0 y1 y2 y3 y4 y5 y6 y7 y8 u0 u1 u2 u3 u4 t0 t1 t2 t3 t4
  have hC8 := hC7.below hB8 (Array.getElem?_eq_some_iff.1 hC7).1
  have hD8 := hD7.below hB8 (Array.getElem?_eq_some_iff.1 hD7).1
  have hE8 := hE7.below hB8 (Array.getElem?_eq_some_iff.1 hE7).1
  have hW8 := hW7.trans (hB8.mono hW7.size)
  clear hC7 hD7 hE7 hW7 hB8
  have y0 := hC8.c 0
  have y1 := hC8.c 1
  have y2 := hC8.c 2
  have y3 := hC8.c 3
  have y4 := hC8.c 4
  have y5 := hC8.c 5
  have y6 := hC8.c 6
  have y7 := hC8.c 7
  have y8 := hC8.c 8
  have u0 := hD8.c 0
  have u1 := hD8.c 1
  have u2 := hD8.c 2
  have u3 := hD8.c 3
  have u4 := hD8.c 4
  have t0 := hE8.c 0
  have t1 := hE8.c 1
  have t2 := hE8.c 2
  have t3 := hE8.c 3
  have t4 := hE8.c 4
  have yf := hC8.f
  unfold loadV rgV
  rw [if_pos (by decide)]
  simp only [upd]
  go_upto_region 15 with fail
  have hCF : Cel (((((((((W8.setCell ⟨W1.heap.size, 0, none⟩ (.int .u16 8)).setCell ⟨W1.heap.size, 1, none⟩ (.int .u16 0)).setCell ⟨W1.heap.size, 2, none⟩ (.int .u16 0)).setCell ⟨W1.heap.size, 3, none⟩ (.int .u16 0)).setCell ⟨W1.heap.size, 4, none⟩ (.int .u16 0)).setCell ⟨W1.heap.size, 5, none⟩ (.int .u16 0)).setCell ⟨W1.heap.size, 6, none⟩ (.int .u16 x)).setCell ⟨W1.heap.size, 7, none⟩ (.int .u16 0)).setCell ⟨W1.heap.size, 8, none⟩ (.int .u16 x)) W1.heap.size #[.int .u16 8, .int .u16 0, .int .u16 0, .int .u16 0, .int .u16 0, .int .u16 0, .int .u16 x, .int .u16 0, .int .u16 x] 28 := hC8.set9 (.int .u16 8) (.int .u16 0) (.int .u16 0) (.int .u16 0) (.int .u16 0) (.int .u16 0) (.int .u16 x) (.int .u16 0) (.int .u16 x)
  have hDF : Cel (((((((((W8.setCell ⟨W1.heap.size, 0, none⟩ (.int .u16 8)).setCell ⟨W1.heap.size, 1, none⟩ (.int .u16 0)).setCell ⟨W1.heap.size, 2, none⟩ (.int .u16 0)).setCell ⟨W1.heap.size, 3, none⟩ (.int .u16 0)).setCell ⟨W1.heap.size, 4, none⟩ (.int .u16 0)).setCell ⟨W1.heap.size, 5, none⟩ (.int .u16 0)).setCell ⟨W1.heap.size, 6, none⟩ (.int .u16 x)).setCell ⟨W1.heap.size, 7, none⟩ (.int .u16 0)).setCell ⟨W1.heap.size, 8, none⟩ (.int .u16 x)) W2.heap.size #[.int .u8 2, .int .u16 q, .int .u16 x, .int .u8 0, .int .i64 0] 32 := hD8.set9o (by omega) (.int .u16 8) (.int .u16 0) (.int .u16 0) (.int .u16 0) (.int .u16 0) (.int .u16 0) (.int .u16 x) (.int .u16 0) (.int .u16 x)
  have hEF : Cel (((((((((W8.setCell ⟨W1.heap.size, 0, none⟩ (.int .u16 8)).setCell ⟨W1.heap.size, 1, none⟩ (.int .u16 0)).setCell ⟨W1.heap.size, 2, none⟩ (.int .u16 0)).setCell ⟨W1.heap.size, 3, none⟩ (.int .u16 0)).setCell ⟨W1.heap.size, 4, none⟩ (.int .u16 0)).setCell ⟨W1.heap.size, 5, none⟩ (.int .u16 0)).setCell ⟨W1.heap.size, 6, none⟩ (.int .u16 x)).setCell ⟨W1.heap.size, 7, none⟩ (.int .u16 0)).setCell ⟨W1.heap.size, 8, none⟩ (.int .u16 x)) W5.heap.size #[.int .u8 1, .int .u16 q, .int .u16 0, .int .u8 7, .int .i64 0] 32 := hE8.set9o (by omega) (.int .u16 8) (.int .u16 0) (.int .u16 0) (.int .u16 0) (.int .u16 0) (.int .u16 0) (.int .u16 x) (.int .u16 0) (.int .u16 x)
  have hWF : Below w.heap.size w (((((((((W8.setCell ⟨W1.heap.size, 0, none⟩ (.int .u16 8)).setCell ⟨W1.heap.size, 1, none⟩ (.int .u16 0)).setCell ⟨W1.heap.size, 2, none⟩ (.int .u16 0)).setCell ⟨W1.heap.size, 3, none⟩ (.int .u16 0)).setCell ⟨W1.heap.size, 4, none⟩ (.int .u16 0)).setCell ⟨W1.heap.size, 5, none⟩ (.int .u16 0)).setCell ⟨W1.heap.size, 6, none⟩ (.int .u16 x)).setCell ⟨W1.heap.size, 7, none⟩ (.int .u16 0)).setCell ⟨W1.heap.size, 8, none⟩ (.int .u16 x)) := (bel_cell (bel_cell (bel_cell (bel_cell (bel_cell (bel_cell (bel_cell (bel_cell (bel_cell hW8 (by omega) 0 _) (by omega) 1 _) (by omega) 2 _) (by omega) 3 _) (by omega) 4 _) (by omega) 5 _) (by omega) 6 _) (by omega) 7 _) (by omega) 8 _)
  clear yf y0 y1 y2 y3 y4 y5 y6 y7 y8 u0 u1 u2 u3 u4 t0 t1 t2 t3 t4 hC8 hD8 hE8 hW8
  generalize (((((((((W8.setCell ⟨W1.heap.size, 0, none⟩ (.int .u16 8)).setCell ⟨W1.heap.size, 1, none⟩ (.int .u16 0)).setCell ⟨W1.heap.size, 2, none⟩ (.int .u16 0)).setCell ⟨W1.heap.size, 3, none⟩ (.int .u16 0)).setCell ⟨W1.heap.size, 4, none⟩ (.int .u16 0)).setCell ⟨W1.heap.size, 5, none⟩ (.int .u16 0)).setCell ⟨W1.heap.size, 6, none⟩ (.int .u16 x)).setCell ⟨W1.heap.size, 7, none⟩ (.int .u16 0)).setCell ⟨W1.heap.size, 8, none⟩ (.int .u16 x)) = WF at *
  have y0 := hCF.c 0
  have y1 := hCF.c 1
  have y2 := hCF.c 2
  have y3 := hCF.c 3
  have y4 := hCF.c 4
  have y5 := hCF.c 5
  have y6 := hCF.c 6
  have y7 := hCF.c 7
  have y8 := hCF.c 8
  have u0 := hDF.c 0
  have u1 := hDF.c 1
  have u2 := hDF.c 2
  have u3 := hDF.c 3
  have u4 := hDF.c 4
  have t0 := hEF.c 0
  have t1 := hEF.c 1
  have t2 := hEF.c 2
  have t3 := hEF.c 3
  have t4 := hEF.c 4
  go_wp2
  go_ret
  exact ⟨rfl, hWF⟩
set_option maxHeartbeats 8000000 in
theorem stored_5_1 (x rg at_ q : Int) (f o : Nat) (w : World) (hx : 0 ≤ x ∧ x ≤ 65535) (hr : rg.tmod 7 = 5) (m : Int) (hm : at_.tmod 511 = m) (hq2 : m.tmod 32 = 31) (hw : IntKind.u16.wrap (m - 1) = q) (Hq : Hid3 (q = 32 * f + o)) (hf : f < 16) (ho : o + 2 ≤ 32) (hqf : q.tdiv 32 = f) (hqo : q.tmod 32 = o) :
    Calls Try.prog 3 #[.int .u16 x, .int .u8 rg, .int .u16 at_] w fun e w' => e = .returned (.bool true) ∧ Below w.heap.size w w' := by
  have c1 := new_good 16 w (by decide) (by decide)
  have hqa : 0 ≤ q ∧ q ≤ 510 := by have := Hq.out; omega
  go_enter Try.func3, Try.ntmps3
  go_wp2_with fail
  refine c1.mono ?_
  rintro e W1 ⟨rfl, hM1, hB1⟩
  clear c1
  have hs1 := hM1.lt
  go_wp2_with fail
  have c2 := exec_any 0 (upd (fun _ => 0) 5 x) 14 5 7 q (W1.alloc (.cells #[.int .u16 0, .int .u16 0, .int .u16 0, .int .u16 0, .int .u16 0, .int .u16 0, .int .u16 x, .int .u16 0, .int .u16 0] 28)) ⟨by decide, by decide⟩ (upd0_wd 5 x hx) ⟨by decide, by decide, by decide, by decide, by decide, by decide, by omega, by omega⟩
  have eX := st_exec 5 x q (by decide) hqa
  rw [show ((5 : Nat) : Int) = 5 from rfl] at eX
  rw [eX] at c2
  clear eX
  refine c2.mono ?_
  rintro e W2 ⟨rfl, hB2⟩
  clear c2
  have hC : Cel W2 W1.heap.size #[.int .u16 0, .int .u16 0, .int .u16 0, .int .u16 0, .int .u16 0, .int .u16 0, .int .u16 x, .int .u16 0, .int .u16 0] 28 := (Cel.new W1 _ _).below hB2 (by simp)
  have hM2 : Mem W2 w.heap.size 16 zeroL := (hM1.below ((Below.refl _ W1).alloc (Nat.le_refl _) _)).below hB2
  have hs2 : W1.heap.size < W2.heap.size := (Array.getElem?_eq_some_iff.1 hC).1
  have y0 := hC.c 0
  have y1 := hC.c 1
  have y2 := hC.c 2
  have y3 := hC.c 3
  have y4 := hC.c 4
  have y5 := hC.c 5
  have y6 := hC.c 6
  have y7 := hC.c 7
  have y8 := hC.c 8
  have yf := hC.f
  have hne : w.heap.size ≠ W1.heap.size := by omega
  have hM3 : Mem ((((((((((W2.setCell ⟨W1.heap.size, 0, none⟩ (.int .u16 4)).setCell ⟨W1.heap.size, 1, none⟩ (.int .u16 0)).setCell ⟨W1.heap.size, 2, none⟩ (.int .u16 0)).setCell ⟨W1.heap.size, 3, none⟩ (.int .u16 0)).setCell ⟨W1.heap.size, 4, none⟩ (.int .u16 0)).setCell ⟨W1.heap.size, 5, none⟩ (.int .u16 0)).setCell ⟨W1.heap.size, 6, none⟩ (.int .u16 x)).setCell ⟨W1.heap.size, 7, none⟩ (.int .u16 0)).setCell ⟨W1.heap.size, 8, none⟩ (.int .u16 0)).alloc (.cells #[.int .u8 2, .int .u16 q, .int .u16 x, .int .u8 0, .int .i64 0] 32)) w.heap.size 16 zeroL := (((((((((hM2.other hne 0 _).other hne 1 _).other hne 2 _).other hne 3 _).other hne 4 _).other hne 5 _).other hne 6 _).other hne 7 _).other hne 8 _).below ((Below.refl _ _).alloc (Nat.le_refl _) _)
  have c3 := setword_ok w.heap.size f o 16 x zeroL ((((((((((W2.setCell ⟨W1.heap.size, 0, none⟩ (.int .u16 4)).setCell ⟨W1.heap.size, 1, none⟩ (.int .u16 0)).setCell ⟨W1.heap.size, 2, none⟩ (.int .u16 0)).setCell ⟨W1.heap.size, 3, none⟩ (.int .u16 0)).setCell ⟨W1.heap.size, 4, none⟩ (.int .u16 0)).setCell ⟨W1.heap.size, 5, none⟩ (.int .u16 0)).setCell ⟨W1.heap.size, 6, none⟩ (.int .u16 x)).setCell ⟨W1.heap.size, 7, none⟩ (.int .u16 0)).setCell ⟨W1.heap.size, 8, none⟩ (.int .u16 0)).alloc (.cells #[.int .u8 2, .int .u16 q, .int .u16 x, .int .u8 0, .int .i64 0] 32)) hM3 (by omega) ho hx.1 (by omega)
  unfold execV rgV accV
  simp only [upd]
  go_wp2_with fail
  refine c3.mono ?_
  rintro e W4 ⟨rfl, hM4, hO4⟩
  clear c3 y0 y1 y2 y3 y4 y5 y6 y7 y8 yf
  have hz2 : (((((((((W2.setCell ⟨W1.heap.size, 0, none⟩ (.int .u16 4)).setCell ⟨W1.heap.size, 1, none⟩ (.int .u16 0)).setCell ⟨W1.heap.size, 2, none⟩ (.int .u16 0)).setCell ⟨W1.heap.size, 3, none⟩ (.int .u16 0)).setCell ⟨W1.heap.size, 4, none⟩ (.int .u16 0)).setCell ⟨W1.heap.size, 5, none⟩ (.int .u16 0)).setCell ⟨W1.heap.size, 6, none⟩ (.int .u16 x)).setCell ⟨W1.heap.size, 7, none⟩ (.int .u16 0)).setCell ⟨W1.heap.size, 8, none⟩ (.int .u16 0)).heap.size = W2.heap.size := by simp only [size_cell]
  have hC3 : Cel ((((((((((W2.setCell ⟨W1.heap.size, 0, none⟩ (.int .u16 4)).setCell ⟨W1.heap.size, 1, none⟩ (.int .u16 0)).setCell ⟨W1.heap.size, 2, none⟩ (.int .u16 0)).setCell ⟨W1.heap.size, 3, none⟩ (.int .u16 0)).setCell ⟨W1.heap.size, 4, none⟩ (.int .u16 0)).setCell ⟨W1.heap.size, 5, none⟩ (.int .u16 0)).setCell ⟨W1.heap.size, 6, none⟩ (.int .u16 x)).setCell ⟨W1.heap.size, 7, none⟩ (.int .u16 0)).setCell ⟨W1.heap.size, 8, none⟩ (.int .u16 0)).alloc (.cells #[.int .u8 2, .int .u16 q, .int .u16 x, .int .u8 0, .int .i64 0] 32)) W1.heap.size #[.int .u16 4, .int .u16 0, .int .u16 0, .int .u16 0, .int .u16 0, .int .u16 0, .int .u16 x, .int .u16 0, .int .u16 0] 28 := (hC.set9 (.int .u16 4) (.int .u16 0) (.int .u16 0) (.int .u16 0) (.int .u16 0) (.int .u16 0) (.int .u16 x) (.int .u16 0) (.int .u16 0)).alloc _
  have hD3 : Cel ((((((((((W2.setCell ⟨W1.heap.size, 0, none⟩ (.int .u16 4)).setCell ⟨W1.heap.size, 1, none⟩ (.int .u16 0)).setCell ⟨W1.heap.size, 2, none⟩ (.int .u16 0)).setCell ⟨W1.heap.size, 3, none⟩ (.int .u16 0)).setCell ⟨W1.heap.size, 4, none⟩ (.int .u16 0)).setCell ⟨W1.heap.size, 5, none⟩ (.int .u16 0)).setCell ⟨W1.heap.size, 6, none⟩ (.int .u16 x)).setCell ⟨W1.heap.size, 7, none⟩ (.int .u16 0)).setCell ⟨W1.heap.size, 8, none⟩ (.int .u16 0)).alloc (.cells #[.int .u8 2, .int .u16 q, .int .u16 x, .int .u8 0, .int .i64 0] 32)) W2.heap.size #[.int .u8 2, .int .u16 q, .int .u16 x, .int .u8 0, .int .i64 0] 32 := by
    have := Cel.new (((((((((W2.setCell ⟨W1.heap.size, 0, none⟩ (.int .u16 4)).setCell ⟨W1.heap.size, 1, none⟩ (.int .u16 0)).setCell ⟨W1.heap.size, 2, none⟩ (.int .u16 0)).setCell ⟨W1.heap.size, 3, none⟩ (.int .u16 0)).setCell ⟨W1.heap.size, 4, none⟩ (.int .u16 0)).setCell ⟨W1.heap.size, 5, none⟩ (.int .u16 0)).setCell ⟨W1.heap.size, 6, none⟩ (.int .u16 x)).setCell ⟨W1.heap.size, 7, none⟩ (.int .u16 0)).setCell ⟨W1.heap.size, 8, none⟩ (.int .u16 0)) #[.int .u8 2, .int .u16 q, .int .u16 x, .int .u8 0, .int .i64 0] 32
    rw [hz2] at this
    exact this
  have hC4 : Cel W4 W1.heap.size #[.int .u16 4, .int .u16 0, .int .u16 0, .int .u16 0, .int .u16 0, .int .u16 0, .int .u16 x, .int .u16 0, .int .u16 0] 28 := (hO4.block _ (Array.getElem?_eq_some_iff.1 hC3).1 (by omega)).trans hC3
  have hD4 : Cel W4 W2.heap.size #[.int .u8 2, .int .u16 q, .int .u16 x, .int .u8 0, .int .i64 0] 32 := (hO4.block _ (Array.getElem?_eq_some_iff.1 hD3).1 (by omega)).trans hD3
  have hB4 : Below w.heap.size w W4 := by
    have h2 := (hB1.alloc hB1.size (.cells #[.int .u16 0, .int .u16 0, .int .u16 0, .int .u16 0, .int .u16 0, .int .u16 0, .int .u16 x, .int .u16 0, .int .u16 0] 28)).trans (hB2.mono (by simp; omega))
    have h3 : Below w.heap.size w ((((((((((W2.setCell ⟨W1.heap.size, 0, none⟩ (.int .u16 4)).setCell ⟨W1.heap.size, 1, none⟩ (.int .u16 0)).setCell ⟨W1.heap.size, 2, none⟩ (.int .u16 0)).setCell ⟨W1.heap.size, 3, none⟩ (.int .u16 0)).setCell ⟨W1.heap.size, 4, none⟩ (.int .u16 0)).setCell ⟨W1.heap.size, 5, none⟩ (.int .u16 0)).setCell ⟨W1.heap.size, 6, none⟩ (.int .u16 x)).setCell ⟨W1.heap.size, 7, none⟩ (.int .u16 0)).setCell ⟨W1.heap.size, 8, none⟩ (.int .u16 0)).alloc (.cells #[.int .u8 2, .int .u16 q, .int .u16 x, .int .u8 0, .int .i64 0] 32)) := ((bel_cell (bel_cell (bel_cell (bel_cell (bel_cell (bel_cell (bel_cell (bel_cell (bel_cell h2 (by omega) 0 _) (by omega) 1 _) (by omega) 2 _) (by omega) 3 _) (by omega) 4 _) (by omega) 5 _) (by omega) 6 _) (by omega) 7 _) (by omega) 8 _)).alloc (by rw [hz2]; omega) (.cells #[.int .u8 2, .int .u16 q, .int .u16 x, .int .u8 0, .int .i64 0] 32)
    exact h3.trans (hO4.below _ (Nat.le_refl _) h3.size)
  clear hO4 hC3 hD3 hM3 hM2 hM1 hC hB2 hB1 hz2
  have y0 := hC4.c 0
  have y1 := hC4.c 1
  have y2 := hC4.c 2
  have y3 := hC4.c 3
  have y4 := hC4.c 4
  have y5 := hC4.c 5
  have y6 := hC4.c 6
  have y7 := hC4.c 7
  have y8 := hC4.c 8
  have u0 := hD4.c 0
  have u1 := hD4.c 1
  have u2 := hD4.c 2
  have u3 := hD4.c 3
  have u4 := hD4.c 4
  have yf := hC4.f
  go_wp2_with fail
  have c4 := exec_any 4 (upd (fun _ => 0) 5 x) 13 7 6 q W4 ⟨by decide, by decide⟩ (upd0_wd 5 x hx) ⟨by decide, by decide, by decide, by decide, by decide, by decide, by omega, by omega⟩
  have eX := ld_exec 5 x q (by decide) hqa
  rw [eX] at c4
  clear eX
  refine c4.mono ?_
  rintro e W5 ⟨rfl, hB5⟩
  clear c4 yf y0 y1 y2 y3 y4 y5 y6 y7 y8 u0 u1 u2 u3 u4
  have hC5 := hC4.below hB5 (Array.getElem?_eq_some_iff.1 hC4).1
  have hD5 := hD4.below hB5 (Array.getElem?_eq_some_iff.1 hD4).1
  have hM5 := hM4.below hB5
  have hW5 := hB4.trans (hB5.mono hB4.size)
  clear hC4 hD4 hM4 hB4 hB5
  have hs5 : W1.heap.size < W5.heap.size := (Array.getElem?_eq_some_iff.1 hC5).1
  have ht5 : W2.heap.size < W5.heap.size := (Array.getElem?_eq_some_iff.1 hD5).1
  have hz5 : (((((((((W5.setCell ⟨W1.heap.size, 0, none⟩ (.int .u16 8)).setCell ⟨W1.heap.size, 1, none⟩ (.int .u16 0)).setCell ⟨W1.heap.size, 2, none⟩ (.int .u16 0)).setCell ⟨W1.heap.size, 3, none⟩ (.int .u16 0)).setCell ⟨W1.heap.size, 4, none⟩ (.int .u16 0)).setCell ⟨W1.heap.size, 5, none⟩ (.int .u16 0)).setCell ⟨W1.heap.size, 6, none⟩ (.int .u16 x)).setCell ⟨W1.heap.size, 7, none⟩ (.int .u16 0)).setCell ⟨W1.heap.size, 8, none⟩ (.int .u16 0)).heap.size = W5.heap.size := by simp only [size_cell]
  have hC6 : Cel ((((((((((W5.setCell ⟨W1.heap.size, 0, none⟩ (.int .u16 8)).setCell ⟨W1.heap.size, 1, none⟩ (.int .u16 0)).setCell ⟨W1.heap.size, 2, none⟩ (.int .u16 0)).setCell ⟨W1.heap.size, 3, none⟩ (.int .u16 0)).setCell ⟨W1.heap.size, 4, none⟩ (.int .u16 0)).setCell ⟨W1.heap.size, 5, none⟩ (.int .u16 0)).setCell ⟨W1.heap.size, 6, none⟩ (.int .u16 x)).setCell ⟨W1.heap.size, 7, none⟩ (.int .u16 0)).setCell ⟨W1.heap.size, 8, none⟩ (.int .u16 0)).alloc (.cells #[.int .u8 1, .int .u16 q, .int .u16 0, .int .u8 7, .int .i64 0] 32)) W1.heap.size #[.int .u16 8, .int .u16 0, .int .u16 0, .int .u16 0, .int .u16 0, .int .u16 0, .int .u16 x, .int .u16 0, .int .u16 0] 28 := (hC5.set9 (.int .u16 8) (.int .u16 0) (.int .u16 0) (.int .u16 0) (.int .u16 0) (.int .u16 0) (.int .u16 x) (.int .u16 0) (.int .u16 0)).alloc _
  have hD6 : Cel ((((((((((W5.setCell ⟨W1.heap.size, 0, none⟩ (.int .u16 8)).setCell ⟨W1.heap.size, 1, none⟩ (.int .u16 0)).setCell ⟨W1.heap.size, 2, none⟩ (.int .u16 0)).setCell ⟨W1.heap.size, 3, none⟩ (.int .u16 0)).setCell ⟨W1.heap.size, 4, none⟩ (.int .u16 0)).setCell ⟨W1.heap.size, 5, none⟩ (.int .u16 0)).setCell ⟨W1.heap.size, 6, none⟩ (.int .u16 x)).setCell ⟨W1.heap.size, 7, none⟩ (.int .u16 0)).setCell ⟨W1.heap.size, 8, none⟩ (.int .u16 0)).alloc (.cells #[.int .u8 1, .int .u16 q, .int .u16 0, .int .u8 7, .int .i64 0] 32)) W2.heap.size #[.int .u8 2, .int .u16 q, .int .u16 x, .int .u8 0, .int .i64 0] 32 := (hD5.set9o (by omega) (.int .u16 8) (.int .u16 0) (.int .u16 0) (.int .u16 0) (.int .u16 0) (.int .u16 0) (.int .u16 x) (.int .u16 0) (.int .u16 0)).alloc _
  have hE6 : Cel ((((((((((W5.setCell ⟨W1.heap.size, 0, none⟩ (.int .u16 8)).setCell ⟨W1.heap.size, 1, none⟩ (.int .u16 0)).setCell ⟨W1.heap.size, 2, none⟩ (.int .u16 0)).setCell ⟨W1.heap.size, 3, none⟩ (.int .u16 0)).setCell ⟨W1.heap.size, 4, none⟩ (.int .u16 0)).setCell ⟨W1.heap.size, 5, none⟩ (.int .u16 0)).setCell ⟨W1.heap.size, 6, none⟩ (.int .u16 x)).setCell ⟨W1.heap.size, 7, none⟩ (.int .u16 0)).setCell ⟨W1.heap.size, 8, none⟩ (.int .u16 0)).alloc (.cells #[.int .u8 1, .int .u16 q, .int .u16 0, .int .u8 7, .int .i64 0] 32)) W5.heap.size #[.int .u8 1, .int .u16 q, .int .u16 0, .int .u8 7, .int .i64 0] 32 := by
    have := Cel.new (((((((((W5.setCell ⟨W1.heap.size, 0, none⟩ (.int .u16 8)).setCell ⟨W1.heap.size, 1, none⟩ (.int .u16 0)).setCell ⟨W1.heap.size, 2, none⟩ (.int .u16 0)).setCell ⟨W1.heap.size, 3, none⟩ (.int .u16 0)).setCell ⟨W1.heap.size, 4, none⟩ (.int .u16 0)).setCell ⟨W1.heap.size, 5, none⟩ (.int .u16 0)).setCell ⟨W1.heap.size, 6, none⟩ (.int .u16 x)).setCell ⟨W1.heap.size, 7, none⟩ (.int .u16 0)).setCell ⟨W1.heap.size, 8, none⟩ (.int .u16 0)) #[.int .u8 1, .int .u16 q, .int .u16 0, .int .u8 7, .int .i64 0] 32
    rw [hz5] at this
    exact this
  have hM6 : Mem ((((((((((W5.setCell ⟨W1.heap.size, 0, none⟩ (.int .u16 8)).setCell ⟨W1.heap.size, 1, none⟩ (.int .u16 0)).setCell ⟨W1.heap.size, 2, none⟩ (.int .u16 0)).setCell ⟨W1.heap.size, 3, none⟩ (.int .u16 0)).setCell ⟨W1.heap.size, 4, none⟩ (.int .u16 0)).setCell ⟨W1.heap.size, 5, none⟩ (.int .u16 0)).setCell ⟨W1.heap.size, 6, none⟩ (.int .u16 x)).setCell ⟨W1.heap.size, 7, none⟩ (.int .u16 0)).setCell ⟨W1.heap.size, 8, none⟩ (.int .u16 0)).alloc (.cells #[.int .u8 1, .int .u16 q, .int .u16 0, .int .u8 7, .int .i64 0] 32)) w.heap.size 16 (putL zeroL (f * 32 + o) [x / 256, x % 256]) := (((((((((hM5.other hne 0 _).other hne 1 _).other hne 2 _).other hne 3 _).other hne 4 _).other hne 5 _).other hne 6 _).other hne 7 _).other hne 8 _).below ((Below.refl _ _).alloc (Nat.le_refl _) _)
  have hW6 : Below w.heap.size w ((((((((((W5.setCell ⟨W1.heap.size, 0, none⟩ (.int .u16 8)).setCell ⟨W1.heap.size, 1, none⟩ (.int .u16 0)).setCell ⟨W1.heap.size, 2, none⟩ (.int .u16 0)).setCell ⟨W1.heap.size, 3, none⟩ (.int .u16 0)).setCell ⟨W1.heap.size, 4, none⟩ (.int .u16 0)).setCell ⟨W1.heap.size, 5, none⟩ (.int .u16 0)).setCell ⟨W1.heap.size, 6, none⟩ (.int .u16 x)).setCell ⟨W1.heap.size, 7, none⟩ (.int .u16 0)).setCell ⟨W1.heap.size, 8, none⟩ (.int .u16 0)).alloc (.cells #[.int .u8 1, .int .u16 q, .int .u16 0, .int .u8 7, .int .i64 0] 32)) := ((bel_cell (bel_cell (bel_cell (bel_cell (bel_cell (bel_cell (bel_cell (bel_cell (bel_cell hW5 (by omega) 0 _) (by omega) 1 _) (by omega) 2 _) (by omega) 3 _) (by omega) 4 _) (by omega) 5 _) (by omega) 6 _) (by omega) 7 _) (by omega) 8 _)).alloc (by rw [hz5]; omega) (.cells #[.int .u8 1, .int .u16 q, .int .u16 0, .int .u8 7, .int .i64 0] 32)
  have c5 := word_ok w.heap.size f o 16 _ ((((((((((W5.setCell ⟨W1.heap.size, 0, none⟩ (.int .u16 8)).setCell ⟨W1.heap.size, 1, none⟩ (.int .u16 0)).setCell ⟨W1.heap.size, 2, none⟩ (.int .u16 0)).setCell ⟨W1.heap.size, 3, none⟩ (.int .u16 0)).setCell ⟨W1.heap.size, 4, none⟩ (.int .u16 0)).setCell ⟨W1.heap.size, 5, none⟩ (.int .u16 0)).setCell ⟨W1.heap.size, 6, none⟩ (.int .u16 x)).setCell ⟨W1.heap.size, 7, none⟩ (.int .u16 0)).setCell ⟨W1.heap.size, 8, none⟩ (.int .u16 0)).alloc (.cells #[.int .u8 1, .int .u16 q, .int .u16 0, .int .u8 7, .int .i64 0] 32)) hM6 (by omega) ho (stored_ok _ x hx)
  rw [(stored_two (f * 32 + o) x (by omega)).1, (stored_two (f * 32 + o) x (by omega)).2, show x / 256 * 256 + x % 256 = x by omega] at c5
  have y0 := hC5.c 0
  have y1 := hC5.c 1
  have y2 := hC5.c 2
  have y3 := hC5.c 3
  have y4 := hC5.c 4
  have y5 := hC5.c 5
  have y6 := hC5.c 6
  have y7 := hC5.c 7
  have y8 := hC5.c 8
  have u0 := hD5.c 0
  have u1 := hD5.c 1
  have u2 := hD5.c 2
  have u3 := hD5.c 3
  have u4 := hD5.c 4
  have yf := hC5.f
  unfold execV rgV accV
  simp only [upd]
  go_wp2_with fail
  refine c5.mono ?_
  rintro e W7 ⟨rfl, hB7⟩
  clear c5 yf y0 y1 y2 y3 y4 y5 y6 y7 y8 u0 u1 u2 u3 u4
  have hC7 := hC6.below hB7 (Array.getElem?_eq_some_iff.1 hC6).1
  have hD7 := hD6.below hB7 (Array.getElem?_eq_some_iff.1 hD6).1
  have hE7 := hE6.below hB7 (Array.getElem?_eq_some_iff.1 hE6).1
  have hW7 := hW6.trans (hB7.mono hW6.size)
  clear hC6 hD6 hE6 hM6 hW6 hB7 hC5 hD5 hM5 hW5 hz5
  have y0 := hC7.c 0
  have y1 := hC7.c 1
  have y2 := hC7.c 2
  have y3 := hC7.c 3
  have y4 := hC7.c 4
  have y5 := hC7.c 5
  have y6 := hC7.c 6
  have y7 := hC7.c 7
  have y8 := hC7.c 8
  have u0 := hD7.c 0
  have u1 := hD7.c 1
  have u2 := hD7.c 2
  have u3 := hD7.c 3
  have u4 := hD7.c 4
  have t0 := hE7.c 0
  have t1 := hE7.c 1
  have t2 := hE7.c 2
  have t3 := hE7.c 3
  have t4 := hE7.c 4
  have yf := hC7.f
  go_wp2_with fail
  have c6 := load_any 8 (upd (fun _ => 0) 5 x) 7 x W7 (by decide)
  refine c6.mono ?_
  rintro e W8 ⟨rfl, hB8⟩
  clear c6 yf y0 y1 y2 y3 y4 y5 y6 y7 y8 u0 u1 u2 u3 u4 t0 t1 t2 t3 t4
  have hC8 := hC7.below hB8 (Array.getElem?_eq_some_iff.1 hC7).1
  have hD8 := hD7.below hB8 (Array.getElem?_eq_some_iff.1 hD7).1
  have hE8 := hE7.below hB8 (Array.getElem?_eq_some_iff.1 hE7).1
  have hW8 := hW7.trans (hB8.mono hW7.size)
  clear hC7 hD7 hE7 hW7 hB8
  have y0 := hC8.c 0
  have y1 := hC8.c 1
  have y2 := hC8.c 2
  have y3 := hC8.c 3
  have y4 := hC8.c 4
  have y5 := hC8.c 5
  have y6 := hC8.c 6
  have y7 := hC8.c 7
  have y8 := hC8.c 8
  have u0 := hD8.c 0
  have u1 := hD8.c 1
  have u2 := hD8.c 2
  have u3 := hD8.c 3
  have u4 := hD8.c 4
  have t0 := hE8.c 0
  have t1 := hE8.c 1
  have t2 := hE8.c 2
  have t3 := hE8.c 3
  have t4 := hE8.c 4
  have yf := hC8.f
  unfold loadV rgV
  rw [if_pos (by decide)]
  simp only [upd]
  go_upto_region 15 with fail
  have hCF : Cel (((((((((W8.setCell ⟨W1.heap.size, 0, none⟩ (.int .u16 8)).setCell ⟨W1.heap.size, 1, none⟩ (.int .u16 0)).setCell ⟨W1.heap.size, 2, none⟩ (.int .u16 0)).setCell ⟨W1.heap.size, 3, none⟩ (.int .u16 0)).setCell ⟨W1.heap.size, 4, none⟩ (.int .u16 0)).setCell ⟨W1.heap.size, 5, none⟩ (.int .u16 0)).setCell ⟨W1.heap.size, 6, none⟩ (.int .u16 x)).setCell ⟨W1.heap.size, 7, none⟩ (.int .u16 0)).setCell ⟨W1.heap.size, 8, none⟩ (.int .u16 x)) W1.heap.size #[.int .u16 8, .int .u16 0, .int .u16 0, .int .u16 0, .int .u16 0, .int .u16 0, .int .u16 x, .int .u16 0, .int .u16 x] 28 := hC8.set9 (.int .u16 8) (.int .u16 0) (.int .u16 0) (.int .u16 0) (.int .u16 0) (.int .u16 0) (.int .u16 x) (.int .u16 0) (.int .u16 x)
  have hDF : Cel (((((((((W8.setCell ⟨W1.heap.size, 0, none⟩ (.int .u16 8)).setCell ⟨W1.heap.size, 1, none⟩ (.int .u16 0)).setCell ⟨W1.heap.size, 2, none⟩ (.int .u16 0)).setCell ⟨W1.heap.size, 3, none⟩ (.int .u16 0)).setCell ⟨W1.heap.size, 4, none⟩ (.int .u16 0)).setCell ⟨W1.heap.size, 5, none⟩ (.int .u16 0)).setCell ⟨W1.heap.size, 6, none⟩ (.int .u16 x)).setCell ⟨W1.heap.size, 7, none⟩ (.int .u16 0)).setCell ⟨W1.heap.size, 8, none⟩ (.int .u16 x)) W2.heap.size #[.int .u8 2, .int .u16 q, .int .u16 x, .int .u8 0, .int .i64 0] 32 := hD8.set9o (by omega) (.int .u16 8) (.int .u16 0) (.int .u16 0) (.int .u16 0) (.int .u16 0) (.int .u16 0) (.int .u16 x) (.int .u16 0) (.int .u16 x)
  have hEF : Cel (((((((((W8.setCell ⟨W1.heap.size, 0, none⟩ (.int .u16 8)).setCell ⟨W1.heap.size, 1, none⟩ (.int .u16 0)).setCell ⟨W1.heap.size, 2, none⟩ (.int .u16 0)).setCell ⟨W1.heap.size, 3, none⟩ (.int .u16 0)).setCell ⟨W1.heap.size, 4, none⟩ (.int .u16 0)).setCell ⟨W1.heap.size, 5, none⟩ (.int .u16 0)).setCell ⟨W1.heap.size, 6, none⟩ (.int .u16 x)).setCell ⟨W1.heap.size, 7, none⟩ (.int .u16 0)).setCell ⟨W1.heap.size, 8, none⟩ (.int .u16 x)) W5.heap.size #[.int .u8 1, .int .u16 q, .int .u16 0, .int .u8 7, .int .i64 0] 32 := hE8.set9o (by omega) (.int .u16 8) (.int .u16 0) (.int .u16 0) (.int .u16 0) (.int .u16 0) (.int .u16 0) (.int .u16 x) (.int .u16 0) (.int .u16 x)
  have hWF : Below w.heap.size w (((((((((W8.setCell ⟨W1.heap.size, 0, none⟩ (.int .u16 8)).setCell ⟨W1.heap.size, 1, none⟩ (.int .u16 0)).setCell ⟨W1.heap.size, 2, none⟩ (.int .u16 0)).setCell ⟨W1.heap.size, 3, none⟩ (.int .u16 0)).setCell ⟨W1.heap.size, 4, none⟩ (.int .u16 0)).setCell ⟨W1.heap.size, 5, none⟩ (.int .u16 0)).setCell ⟨W1.heap.size, 6, none⟩ (.int .u16 x)).setCell ⟨W1.heap.size, 7, none⟩ (.int .u16 0)).setCell ⟨W1.heap.size, 8, none⟩ (.int .u16 x)) := (bel_cell (bel_cell (bel_cell (bel_cell (bel_cell (bel_cell (bel_cell (bel_cell (bel_cell hW8 (by omega) 0 _) (by omega) 1 _) (by omega) 2 _) (by omega) 3 _) (by omega) 4 _) (by omega) 5 _) (by omega) 6 _) (by omega) 7 _) (by omega) 8 _)
  clear yf y0 y1 y2 y3 y4 y5 y6 y7 y8 u0 u1 u2 u3 u4 t0 t1 t2 t3 t4 hC8 hD8 hE8 hW8
  generalize (((((((((W8.setCell ⟨W1.heap.size, 0, none⟩ (.int .u16 8)).setCell ⟨W1.heap.size, 1, none⟩ (.int .u16 0)).setCell ⟨W1.heap.size, 2, none⟩ (.int .u16 0)).setCell ⟨W1.heap.size, 3, none⟩ (.int .u16 0)).setCell ⟨W1.heap.size, 4, none⟩ (.int .u16 0)).setCell ⟨W1.heap.size, 5, none⟩ (.int .u16 0)).setCell ⟨W1.heap.size, 6, none⟩ (.int .u16 x)).setCell ⟨W1.heap.size, 7, none⟩ (.int .u16 0)).setCell ⟨W1.heap.size, 8, none⟩ (.int .u16 x)) = WF at *
  have y0 := hCF.c 0
  have y1 := hCF.c 1
  have y2 := hCF.c 2
  have y3 := hCF.c 3
  have y4 := hCF.c 4
  have y5 := hCF.c 5
  have y6 := hCF.c 6
  have y7 := hCF.c 7
  have y8 := hCF.c 8
  have u0 := hDF.c 0
  have u1 := hDF.c 1
  have u2 := hDF.c 2
  have u3 := hDF.c 3
  have u4 := hDF.c 4
  have t0 := hEF.c 0
  have t1 := hEF.c 1
  have t2 := hEF.c 2
  have t3 := hEF.c 3
  have t4 := hEF.c 4
  go_wp2
  go_ret
  exact ⟨rfl, hWF⟩
set_option maxHeartbeats 8000000 in
theorem stored_6_0 (x rg at_ q : Int) (f o : Nat) (w : World) (hx : 0 ≤ x ∧ x ≤ 65535) (hr : rg.tmod 7 = 6) (hm : at_.tmod 511 = q) (Hq : Hid3 (q = 32 * f + o)) (hf : f < 16) (ho : o + 2 ≤ 32) (hqf : q.tdiv 32 = f) (hqo : q.tmod 32 = o) :
    Calls Try.prog 3 #[.int .u16 x, .int .u8 rg, .int .u16 at_] w fun e w' => e = .returned (.bool true) ∧ Below w.heap.size w w' := by
  have c1 := new_good 16 w (by decide) (by decide)
  have hqa : 0 ≤ q ∧ q ≤ 510 := by have := Hq.out; omega
  go_enter Try.func3, Try.ntmps3
  go_wp2_with fail
  refine c1.mono ?_
  rintro e W1 ⟨rfl, hM1, hB1⟩
  clear c1
  have hs1 := hM1.lt
  go_wp2_with fail
  have c2 := exec_any 0 (upd (fun _ => 0) 6 x) 14 6 7 q (W1.alloc (.cells #[.int .u16 0, .int .u16 0, .int .u16 0, .int .u16 0, .int .u16 0, .int .u16 0, .int .u16 0, .int .u16 x, .int .u16 0] 28)) ⟨by decide, by decide⟩ (upd0_wd 6 x hx) ⟨by decide, by decide, by decide, by decide, by decide, by decide, by omega, by omega⟩
  have eX := st_exec 6 x q (by decide) hqa
  rw [show ((6 : Nat) : Int) = 6 from rfl] at eX
  rw [eX] at c2
  clear eX
  refine c2.mono ?_
  rintro e W2 ⟨rfl, hB2⟩
  clear c2
  have hC : Cel W2 W1.heap.size #[.int .u16 0, .int .u16 0, .int .u16 0, .int .u16 0, .int .u16 0, .int .u16 0, .int .u16 0, .int .u16 x, .int .u16 0] 28 := (Cel.new W1 _ _).below hB2 (by simp)
  have hM2 : Mem W2 w.heap.size 16 zeroL := (hM1.below ((Below.refl _ W1).alloc (Nat.le_refl _) _)).below hB2
  have hs2 : W1.heap.size < W2.heap.size := (Array.getElem?_eq_some_iff.1 hC).1
  have y0 := hC.c 0
  have y1 := hC.c 1
  have y2 := hC.c 2
  have y3 := hC.c 3
  have y4 := hC.c 4
  have y5 := hC.c 5
  have y6 := hC.c 6
  have y7 := hC.c 7
  have y8 := hC.c 8
  have yf := hC.f
  have hne : w.heap.size ≠ W1.heap.size := by omega
  have hM3 : Mem ((((((((((W2.setCell ⟨W1.heap.size, 0, none⟩ (.int .u16 4)).setCell ⟨W1.heap.size, 1, none⟩ (.int .u16 0)).setCell ⟨W1.heap.size, 2, none⟩ (.int .u16 0)).setCell ⟨W1.heap.size, 3, none⟩ (.int .u16 0)).setCell ⟨W1.heap.size, 4, none⟩ (.int .u16 0)).setCell ⟨W1.heap.size, 5, none⟩ (.int .u16 0)).setCell ⟨W1.heap.size, 6, none⟩ (.int .u16 0)).setCell ⟨W1.heap.size, 7, none⟩ (.int .u16 x)).setCell ⟨W1.heap.size, 8, none⟩ (.int .u16 0)).alloc (.cells #[.int .u8 2, .int .u16 q, .int .u16 x, .int .u8 0, .int .i64 0] 32)) w.heap.size 16 zeroL := (((((((((hM2.other hne 0 _).other hne 1 _).other hne 2 _).other hne 3 _).other hne 4 _).other hne 5 _).other hne 6 _).other hne 7 _).other hne 8 _).below ((Below.refl _ _).alloc (Nat.le_refl _) _)
  have c3 := setword_ok w.heap.size f o 16 x zeroL ((((((((((W2.setCell ⟨W1.heap.size, 0, none⟩ (.int .u16 4)).setCell ⟨W1.heap.size, 1, none⟩ (.int .u16 0)).setCell ⟨W1.heap.size, 2, none⟩ (.int .u16 0)).setCell ⟨W1.heap.size, 3, none⟩ (.int .u16 0)).setCell ⟨W1.heap.size, 4, none⟩ (.int .u16 0)).setCell ⟨W1.heap.size, 5, none⟩ (.int .u16 0)).setCell ⟨W1.heap.size, 6, none⟩ (.int .u16 0)).setCell ⟨W1.heap.size, 7, none⟩ (.int .u16 x)).setCell ⟨W1.heap.size, 8, none⟩ (.int .u16 0)).alloc (.cells #[.int .u8 2, .int .u16 q, .int .u16 x, .int .u8 0, .int .i64 0] 32)) hM3 (by omega) ho hx.1 (by omega)
  unfold execV rgV accV
  simp only [upd]
  go_wp2_with fail
  refine c3.mono ?_
  rintro e W4 ⟨rfl, hM4, hO4⟩
  clear c3 y0 y1 y2 y3 y4 y5 y6 y7 y8 yf
  have hz2 : (((((((((W2.setCell ⟨W1.heap.size, 0, none⟩ (.int .u16 4)).setCell ⟨W1.heap.size, 1, none⟩ (.int .u16 0)).setCell ⟨W1.heap.size, 2, none⟩ (.int .u16 0)).setCell ⟨W1.heap.size, 3, none⟩ (.int .u16 0)).setCell ⟨W1.heap.size, 4, none⟩ (.int .u16 0)).setCell ⟨W1.heap.size, 5, none⟩ (.int .u16 0)).setCell ⟨W1.heap.size, 6, none⟩ (.int .u16 0)).setCell ⟨W1.heap.size, 7, none⟩ (.int .u16 x)).setCell ⟨W1.heap.size, 8, none⟩ (.int .u16 0)).heap.size = W2.heap.size := by simp only [size_cell]
  have hC3 : Cel ((((((((((W2.setCell ⟨W1.heap.size, 0, none⟩ (.int .u16 4)).setCell ⟨W1.heap.size, 1, none⟩ (.int .u16 0)).setCell ⟨W1.heap.size, 2, none⟩ (.int .u16 0)).setCell ⟨W1.heap.size, 3, none⟩ (.int .u16 0)).setCell ⟨W1.heap.size, 4, none⟩ (.int .u16 0)).setCell ⟨W1.heap.size, 5, none⟩ (.int .u16 0)).setCell ⟨W1.heap.size, 6, none⟩ (.int .u16 0)).setCell ⟨W1.heap.size, 7, none⟩ (.int .u16 x)).setCell ⟨W1.heap.size, 8, none⟩ (.int .u16 0)).alloc (.cells #[.int .u8 2, .int .u16 q, .int .u16 x, .int .u8 0, .int .i64 0] 32)) W1.heap.size #[.int .u16 4, .int .u16 0, .int .u16 0, .int .u16 0, .int .u16 0, .int .u16 0, .int .u16 0, .int .u16 x, .int .u16 0] 28 := (hC.set9 (.int .u16 4) (.int .u16 0) (.int .u16 0) (.int .u16 0) (.int .u16 0) (.int .u16 0) (.int .u16 0) (.int .u16 x) (.int .u16 0)).alloc _
  have hD3 : Cel ((((((((((W2.setCell ⟨W1.heap.size, 0, none⟩ (.int .u16 4)).setCell ⟨W1.heap.size, 1, none⟩ (.int .u16 0)).setCell ⟨W1.heap.size, 2, none⟩ (.int .u16 0)).setCell ⟨W1.heap.size, 3, none⟩ (.int .u16 0)).setCell ⟨W1.heap.size, 4, none⟩ (.int .u16 0)).setCell ⟨W1.heap.size, 5, none⟩ (.int .u16 0)).setCell ⟨W1.heap.size, 6, none⟩ (.int .u16 0)).setCell ⟨W1.heap.size, 7, none⟩ (.int .u16 x)).setCell ⟨W1.heap.size, 8, none⟩ (.int .u16 0)).alloc (.cells #[.int .u8 2, .int .u16 q, .int .u16 x, .int .u8 0, .int .i64 0] 32)) W2.heap.size #[.int .u8 2, .int .u16 q, .int .u16 x, .int .u8 0, .int .i64 0] 32 := by
    have := Cel.new (((((((((W2.setCell ⟨W1.heap.size, 0, none⟩ (.int .u16 4)).setCell ⟨W1.heap.size, 1, none⟩ (.int .u16 0)).setCell ⟨W1.heap.size, 2, none⟩ (.int .u16 0)).setCell ⟨W1.heap.size, 3, none⟩ (.int .u16 0)).setCell ⟨W1.heap.size, 4, none⟩ (.int .u16 0)).setCell ⟨W1.heap.size, 5, none⟩ (.int .u16 0)).setCell ⟨W1.heap.size, 6, none⟩ (.int .u16 0)).setCell ⟨W1.heap.size, 7, none⟩ (.int .u16 x)).setCell ⟨W1.heap.size, 8, none⟩ (.int .u16 0)) #[.int .u8 2, .int .u16 q, .int .u16 x, .int .u8 0, .int .i64 0] 32
    rw [hz2] at this
    exact this
  have hC4 : Cel W4 W1.heap.size #[.int .u16 4, .int .u16 0, .int .u16 0, .int .u16 0, .int .u16 0, .int .u16 0, .int .u16 0, .int .u16 x, .int .u16 0] 28 := (hO4.block _ (Array.getElem?_eq_some_iff.1 hC3).1 (by omega)).trans hC3
  have hD4 : Cel W4 W2.heap.size #[.int .u8 2, .int .u16 q, .int .u16 x, .int .u8 0, .int .i64 0] 32 := (hO4.block _ (Array.getElem?_eq_some_iff.1 hD3).1 (by omega)).trans hD3
  have hB4 : Below w.heap.size w W4 := by
    have h2 := (hB1.alloc hB1.size (.cells #[.int .u16 0, .int .u16 0, .int .u16 0, .int .u16 0, .int .u16 0, .int .u16 0, .int .u16 0, .int .u16 x, .int .u16 0] 28)).trans (hB2.mono (by simp; omega))
    have h3 : Below w.heap.size w ((((((((((W2.setCell ⟨W1.heap.size, 0, none⟩ (.int .u16 4)).setCell ⟨W1.heap.size, 1, none⟩ (.int .u16 0)).setCell ⟨W1.heap.size, 2, none⟩ (.int .u16 0)).setCell ⟨W1.heap.size, 3, none⟩ (.int .u16 0)).setCell ⟨W1.heap.size, 4, none⟩ (.int .u16 0)).setCell ⟨W1.heap.size, 5, none⟩ (.int .u16 0)).setCell ⟨W1.heap.size, 6, none⟩ (.int .u16 0)).setCell ⟨W1.heap.size, 7, none⟩ (.int .u16 x)).setCell ⟨W1.heap.size, 8, none⟩ (.int .u16 0)).alloc (.cells #[.int .u8 2, .int .u16 q, .int .u16 x, .int .u8 0, .int .i64 0] 32)) := ((bel_cell (bel_cell (bel_cell (bel_cell (bel_cell (bel_cell (bel_cell (bel_cell (bel_cell h2 (by omega) 0 _) (by omega) 1 _) (by omega) 2 _) (by omega) 3 _) (by omega) 4 _) (by omega) 5 _) (by omega) 6 _) (by omega) 7 _) (by omega) 8 _)).alloc (by rw [hz2]; omega) (.cells #[.int .u8 2, .int .u16 q, .int .u16 x, .int .u8 0, .int .i64 0] 32)
    exact h3.trans (hO4.below _ (Nat.le_refl _) h3.size)
  clear hO4 hC3 hD3 hM3 hM2 hM1 hC hB2 hB1 hz2
  have y0 := hC4.c 0
  have y1 := hC4.c 1
  have y2 := hC4.c 2
  have y3 := hC4.c 3
  have y4 := hC4.c 4
  have y5 := hC4.c 5
  have y6 := hC4.c 6
  have y7 := hC4.c 7
  have y8 := hC4.c 8
  have u0 := hD4.c 0
  have u1 := hD4.c 1
  have u2 := hD4.c 2
  have u3 := hD4.c 3
  have u4 := hD4.c 4
  have yf := hC4.f
  go_wp2_with fail
  have c4 := exec_any 4 (upd (fun _ => 0) 6 x) 13 7 6 q W4 ⟨by decide, by decide⟩ (upd0_wd 6 x hx) ⟨by decide, by decide, by decide, by decide, by decide, by decide, by omega, by omega⟩
  have eX := ld_exec6 x q
  rw [eX] at c4
  clear eX
  refine c4.mono ?_
  rintro e W5 ⟨rfl, hB5⟩
  clear c4 yf y0 y1 y2 y3 y4 y5 y6 y7 y8 u0 u1 u2 u3 u4
  have hC5 := hC4.below hB5 (Array.getElem?_eq_some_iff.1 hC4).1
  have hD5 := hD4.below hB5 (Array.getElem?_eq_some_iff.1 hD4).1
  have hM5 := hM4.below hB5
  have hW5 := hB4.trans (hB5.mono hB4.size)
  clear hC4 hD4 hM4 hB4 hB5
  have hs5 : W1.heap.size < W5.heap.size := (Array.getElem?_eq_some_iff.1 hC5).1
  have ht5 : W2.heap.size < W5.heap.size := (Array.getElem?_eq_some_iff.1 hD5).1
  have hz5 : (((((((((W5.setCell ⟨W1.heap.size, 0, none⟩ (.int .u16 8)).setCell ⟨W1.heap.size, 1, none⟩ (.int .u16 0)).setCell ⟨W1.heap.size, 2, none⟩ (.int .u16 0)).setCell ⟨W1.heap.size, 3, none⟩ (.int .u16 0)).setCell ⟨W1.heap.size, 4, none⟩ (.int .u16 0)).setCell ⟨W1.heap.size, 5, none⟩ (.int .u16 0)).setCell ⟨W1.heap.size, 6, none⟩ (.int .u16 0)).setCell ⟨W1.heap.size, 7, none⟩ (.int .u16 x)).setCell ⟨W1.heap.size, 8, none⟩ (.int .u16 0)).heap.size = W5.heap.size := by simp only [size_cell]
  have hC6 : Cel ((((((((((W5.setCell ⟨W1.heap.size, 0, none⟩ (.int .u16 8)).setCell ⟨W1.heap.size, 1, none⟩ (.int .u16 0)).setCell ⟨W1.heap.size, 2, none⟩ (.int .u16 0)).setCell ⟨W1.heap.size, 3, none⟩ (.int .u16 0)).setCell ⟨W1.heap.size, 4, none⟩ (.int .u16 0)).setCell ⟨W1.heap.size, 5, none⟩ (.int .u16 0)).setCell ⟨W1.heap.size, 6, none⟩ (.int .u16 0)).setCell ⟨W1.heap.size, 7, none⟩ (.int .u16 x)).setCell ⟨W1.heap.size, 8, none⟩ (.int .u16 0)).alloc (.cells #[.int .u8 1, .int .u16 (addV x q), .int .u16 0, .int .u8 7, .int .i64 0] 32)) W1.heap.size #[.int .u16 8, .int .u16 0, .int .u16 0, .int .u16 0, .int .u16 0, .int .u16 0, .int .u16 0, .int .u16 x, .int .u16 0] 28 := (hC5.set9 (.int .u16 8) (.int .u16 0) (.int .u16 0) (.int .u16 0) (.int .u16 0) (.int .u16 0) (.int .u16 0) (.int .u16 x) (.int .u16 0)).alloc _
  have hD6 : Cel ((((((((((W5.setCell ⟨W1.heap.size, 0, none⟩ (.int .u16 8)).setCell ⟨W1.heap.size, 1, none⟩ (.int .u16 0)).setCell ⟨W1.heap.size, 2, none⟩ (.int .u16 0)).setCell ⟨W1.heap.size, 3, none⟩ (.int .u16 0)).setCell ⟨W1.heap.size, 4, none⟩ (.int .u16 0)).setCell ⟨W1.heap.size, 5, none⟩ (.int .u16 0)).setCell ⟨W1.heap.size, 6, none⟩ (.int .u16 0)).setCell ⟨W1.heap.size, 7, none⟩ (.int .u16 x)).setCell ⟨W1.heap.size, 8, none⟩ (.int .u16 0)).alloc (.cells #[.int .u8 1, .int .u16 (addV x q), .int .u16 0, .int .u8 7, .int .i64 0] 32)) W2.heap.size #[.int .u8 2, .int .u16 q, .int .u16 x, .int .u8 0, .int .i64 0] 32 := (hD5.set9o (by omega) (.int .u16 8) (.int .u16 0) (.int .u16 0) (.int .u16 0) (.int .u16 0) (.int .u16 0) (.int .u16 0) (.int .u16 x) (.int .u16 0)).alloc _
  have hE6 : Cel ((((((((((W5.setCell ⟨W1.heap.size, 0, none⟩ (.int .u16 8)).setCell ⟨W1.heap.size, 1, none⟩ (.int .u16 0)).setCell ⟨W1.heap.size, 2, none⟩ (.int .u16 0)).setCell ⟨W1.heap.size, 3, none⟩ (.int .u16 0)).setCell ⟨W1.heap.size, 4, none⟩ (.int .u16 0)).setCell ⟨W1.heap.size, 5, none⟩ (.int .u16 0)).setCell ⟨W1.heap.size, 6, none⟩ (.int .u16 0)).setCell ⟨W1.heap.size, 7, none⟩ (.int .u16 x)).setCell ⟨W1.heap.size, 8, none⟩ (.int .u16 0)).alloc (.cells #[.int .u8 1, .int .u16 (addV x q), .int .u16 0, .int .u8 7, .int .i64 0] 32)) W5.heap.size #[.int .u8 1, .int .u16 (addV x q), .int .u16 0, .int .u8 7, .int .i64 0] 32 := by
    have := Cel.new (((((((((W5.setCell ⟨W1.heap.size, 0, none⟩ (.int .u16 8)).setCell ⟨W1.heap.size, 1, none⟩ (.int .u16 0)).setCell ⟨W1.heap.size, 2, none⟩ (.int .u16 0)).setCell ⟨W1.heap.size, 3, none⟩ (.int .u16 0)).setCell ⟨W1.heap.size, 4, none⟩ (.int .u16 0)).setCell ⟨W1.heap.size, 5, none⟩ (.int .u16 0)).setCell ⟨W1.heap.size, 6, none⟩ (.int .u16 0)).setCell ⟨W1.heap.size, 7, none⟩ (.int .u16 x)).setCell ⟨W1.heap.size, 8, none⟩ (.int .u16 0)) #[.int .u8 1, .int .u16 (addV x q), .int .u16 0, .int .u8 7, .int .i64 0] 32
    rw [hz5] at this
    exact this
  have hM6 : Mem ((((((((((W5.setCell ⟨W1.heap.size, 0, none⟩ (.int .u16 8)).setCell ⟨W1.heap.size, 1, none⟩ (.int .u16 0)).setCell ⟨W1.heap.size, 2, none⟩ (.int .u16 0)).setCell ⟨W1.heap.size, 3, none⟩ (.int .u16 0)).setCell ⟨W1.heap.size, 4, none⟩ (.int .u16 0)).setCell ⟨W1.heap.size, 5, none⟩ (.int .u16 0)).setCell ⟨W1.heap.size, 6, none⟩ (.int .u16 0)).setCell ⟨W1.heap.size, 7, none⟩ (.int .u16 x)).setCell ⟨W1.heap.size, 8, none⟩ (.int .u16 0)).alloc (.cells #[.int .u8 1, .int .u16 (addV x q), .int .u16 0, .int .u8 7, .int .i64 0] 32)) w.heap.size 16 (putL zeroL (f * 32 + o) [x / 256, x % 256]) := (((((((((hM5.other hne 0 _).other hne 1 _).other hne 2 _).other hne 3 _).other hne 4 _).other hne 5 _).other hne 6 _).other hne 7 _).other hne 8 _).below ((Below.refl _ _).alloc (Nat.le_refl _) _)
  have hW6 : Below w.heap.size w ((((((((((W5.setCell ⟨W1.heap.size, 0, none⟩ (.int .u16 8)).setCell ⟨W1.heap.size, 1, none⟩ (.int .u16 0)).setCell ⟨W1.heap.size, 2, none⟩ (.int .u16 0)).setCell ⟨W1.heap.size, 3, none⟩ (.int .u16 0)).setCell ⟨W1.heap.size, 4, none⟩ (.int .u16 0)).setCell ⟨W1.heap.size, 5, none⟩ (.int .u16 0)).setCell ⟨W1.heap.size, 6, none⟩ (.int .u16 0)).setCell ⟨W1.heap.size, 7, none⟩ (.int .u16 x)).setCell ⟨W1.heap.size, 8, none⟩ (.int .u16 0)).alloc (.cells #[.int .u8 1, .int .u16 (addV x q), .int .u16 0, .int .u8 7, .int .i64 0] 32)) := ((bel_cell (bel_cell (bel_cell (bel_cell (bel_cell (bel_cell (bel_cell (bel_cell (bel_cell hW5 (by omega) 0 _) (by omega) 1 _) (by omega) 2 _) (by omega) 3 _) (by omega) 4 _) (by omega) 5 _) (by omega) 6 _) (by omega) 7 _) (by omega) 8 _)).alloc (by rw [hz5]; omega) (.cells #[.int .u8 1, .int .u16 (addV x q), .int .u16 0, .int .u8 7, .int .i64 0] 32)
  have y0 := hC5.c 0
  have y1 := hC5.c 1
  have y2 := hC5.c 2
  have y3 := hC5.c 3
  have y4 := hC5.c 4
  have y5 := hC5.c 5
  have y6 := hC5.c 6
  have y7 := hC5.c 7
  have y8 := hC5.c 8
  have u0 := hD5.c 0
  have u1 := hD5.c 1
  have u2 := hD5.c 2
  have u3 := hD5.c 3
  have u4 := hD5.c 4
  have yf := hC5.f
  unfold execV rgV accV
  simp only [upd]
  go_wp2
  go_ret
  exact ⟨rfl, hW6⟩
set_option maxHeartbeats 8000000 in
theorem stored_6_1 (x rg at_ q : Int) (f o : Nat) (w : World) (hx : 0 ≤ x ∧ x ≤ 65535) (hr : rg.tmod 7 = 6) (m : Int) (hm : at_.tmod 511 = m) (hq2 : m.tmod 32 = 31) (hw : IntKind.u16.wrap (m - 1) = q) (Hq : Hid3 (q = 32 * f + o)) (hf : f < 16) (ho : o + 2 ≤ 32) (hqf : q.tdiv 32 = f) (hqo : q.tmod 32 = o) :
    Calls Try.prog 3 #[.int .u16 x, .int .u8 rg, .int .u16 at_] w fun e w' => e = .returned (.bool true) ∧ Below w.heap.size w w' := by
  have c1 := new_good 16 w (by decide) (by decide)
  have hqa : 0 ≤ q ∧ q ≤ 510 := by have := Hq.out; omega
  go_enter Try.func3, Try.ntmps3
  go_wp2_with fail
  refine c1.mono ?_
  rintro e W1 ⟨rfl, hM1, hB1⟩
  clear c1
  have hs1 := hM1.lt
  go_wp2_with fail
  have c2 := exec_any 0 (upd (fun _ => 0) 6 x) 14 6 7 q (W1.alloc (.cells #[.int .u16 0, .int .u16 0, .int .u16 0, .int .u16 0, .int .u16 0, .int .u16 0, .int .u16 0, .int .u16 x, .int .u16 0] 28)) ⟨by decide, by decide⟩ (upd0_wd 6 x hx) ⟨by decide, by decide, by decide, by decide, by decide, by decide, by omega, by omega⟩
  have eX := st_exec 6 x q (by decide) hqa
  rw [show ((6 : Nat) : Int) = 6 from rfl] at eX
  rw [eX] at c2
  clear eX
  refine c2.mono ?_
  rintro e W2 ⟨rfl, hB2⟩
  clear c2
  have hC : Cel W2 W1.heap.size #[.int .u16 0, .int .u16 0, .int .u16 0, .int .u16 0, .int .u16 0, .int .u16 0, .int .u16 0, .int .u16 x, .int .u16 0] 28 := (Cel.new W1 _ _).below hB2 (by simp)
  have hM2 : Mem W2 w.heap.size 16 zeroL := (hM1.below ((Below.refl _ W1).alloc (Nat.le_refl _) _)).below hB2
  have hs2 : W1.heap.size < W2.heap.size := (Array.getElem?_eq_some_iff.1 hC).1
  have y0 := hC.c 0
  have y1 := hC.c 1
  have y2 := hC.c 2
  have y3 := hC.c 3
  have y4 := hC.c 4
  have y5 := hC.c 5
  have y6 := hC.c 6
  have y7 := hC.c 7
  have y8 := hC.c 8
  have yf := hC.f
  have hne : w.heap.size ≠ W1.heap.size := by omega
  have hM3 : Mem ((((((((((W2.setCell ⟨W1.heap.size, 0, none⟩ (.int .u16 4)).setCell ⟨W1.heap.size, 1, none⟩ (.int .u16 0)).setCell ⟨W1.heap.size, 2, none⟩ (.int .u16 0)).setCell ⟨W1.heap.size, 3, none⟩ (.int .u16 0)).setCell ⟨W1.heap.size, 4, none⟩ (.int .u16 0)).setCell ⟨W1.heap.size, 5, none⟩ (.int .u16 0)).setCell ⟨W1.heap.size, 6, none⟩ (.int .u16 0)).setCell ⟨W1.heap.size, 7, none⟩ (.int .u16 x)).setCell ⟨W1.heap.size, 8, none⟩ (.int .u16 0)).alloc (.cells #[.int .u8 2, .int .u16 q, .int .u16 x, .int .u8 0, .int .i64 0] 32)) w.heap.size 16 zeroL := (((((((((hM2.other hne 0 _).other hne 1 _).other hne 2 _).other hne 3 _).other hne 4 _).other hne 5 _).other hne 6 _).other hne 7 _).other hne 8 _).below ((Below.refl _ _).alloc (Nat.le_refl _) _)
  have c3 := setword_ok w.heap.size f o 16 x zeroL ((((((((((W2.setCell ⟨W1.heap.size, 0, none⟩ (.int .u16 4)).setCell ⟨W1.heap.size, 1, none⟩ (.int .u16 0)).setCell ⟨W1.heap.size, 2, none⟩ (.int .u16 0)).setCell ⟨W1.heap.size, 3, none⟩ (.int .u16 0)).setCell ⟨W1.heap.size, 4, none⟩ (.int .u16 0)).setCell ⟨W1.heap.size, 5, none⟩ (.int .u16 0)).setCell ⟨W1.heap.size, 6, none⟩ (.int .u16 0)).setCell ⟨W1.heap.size, 7, none⟩ (.int .u16 x)).setCell ⟨W1.heap.size, 8, none⟩ (.int .u16 0)).alloc (.cells #[.int .u8 2, .int .u16 q, .int .u16 x, .int .u8 0, .int .i64 0] 32)) hM3 (by omega) ho hx.1 (by omega)
  unfold execV rgV accV
  simp only [upd]
  go_wp2_with fail
  refine c3.mono ?_
  rintro e W4 ⟨rfl, hM4, hO4⟩
  clear c3 y0 y1 y2 y3 y4 y5 y6 y7 y8 yf
  have hz2 : (((((((((W2.setCell ⟨W1.heap.size, 0, none⟩ (.int .u16 4)).setCell ⟨W1.heap.size, 1, none⟩ (.int .u16 0)).setCell ⟨W1.heap.size, 2, none⟩ (.int .u16 0)).setCell ⟨W1.heap.size, 3, none⟩ (.int .u16 0)).setCell ⟨W1.heap.size, 4, none⟩ (.int .u16 0)).setCell ⟨W1.heap.size, 5, none⟩ (.int .u16 0)).setCell ⟨W1.heap.size, 6, none⟩ (.int .u16 0)).setCell ⟨W1.heap.size, 7, none⟩ (.int .u16 x)).setCell ⟨W1.heap.size, 8, none⟩ (.int .u16 0)).heap.size = W2.heap.size := by simp only [size_cell]
  have hC3 : Cel ((((((((((W2.setCell ⟨W1.heap.size, 0, none⟩ (.int .u16 4)).setCell ⟨W1.heap.size, 1, none⟩ (.int .u16 0)).setCell ⟨W1.heap.size, 2, none⟩ (.int .u16 0)).setCell ⟨W1.heap.size, 3, none⟩ (.int .u16 0)).setCell ⟨W1.heap.size, 4, none⟩ (.int .u16 0)).setCell ⟨W1.heap.size, 5, none⟩ (.int .u16 0)).setCell ⟨W1.heap.size, 6, none⟩ (.int .u16 0)).setCell ⟨W1.heap.size, 7, none⟩ (.int .u16 x)).setCell ⟨W1.heap.size, 8, none⟩ (.int .u16 0)).alloc (.cells #[.int .u8 2, .int .u16 q, .int .u16 x, .int .u8 0, .int .i64 0] 32)) W1.heap.size #[.int .u16 4, .int .u16 0, .int .u16 0, .int .u16 0, .int .u16 0, .int .u16 0, .int .u16 0, .int .u16 x, .int .u16 0] 28 := (hC.set9 (.int .u16 4) (.int .u16 0) (.int .u16 0) (.int .u16 0) (.int .u16 0) (.int .u16 0) (.int .u16 0) (.int .u16 x) (.int .u16 0)).alloc _
  have hD3 : Cel ((((((((((W2.setCell ⟨W1.heap.size, 0, none⟩ (.int .u16 4)).setCell ⟨W1.heap.size, 1, none⟩ (.int .u16 0)).setCell ⟨W1.heap.size, 2, none⟩ (.int .u16 0)).setCell ⟨W1.heap.size, 3, none⟩ (.int .u16 0)).setCell ⟨W1.heap.size, 4, none⟩ (.int .u16 0)).setCell ⟨W1.heap.size, 5, none⟩ (.int .u16 0)).setCell ⟨W1.heap.size, 6, none⟩ (.int .u16 0)).setCell ⟨W1.heap.size, 7, none⟩ (.int .u16 x)).setCell ⟨W1.heap.size, 8, none⟩ (.int .u16 0)).alloc (.cells #[.int .u8 2, .int .u16 q, .int .u16 x, .int .u8 0, .int .i64 0] 32)) W2.heap.size #[.int .u8 2, .int .u16 q, .int .u16 x, .int .u8 0, .int .i64 0] 32 := by
    have := Cel.new (((((((((W2.setCell ⟨W1.heap.size, 0, none⟩ (.int .u16 4)).setCell ⟨W1.heap.size, 1, none⟩ (.int .u16 0)).setCell ⟨W1.heap.size, 2, none⟩ (.int .u16 0)).setCell ⟨W1.heap.size, 3, none⟩ (.int .u16 0)).setCell ⟨W1.heap.size, 4, none⟩ (.int .u16 0)).setCell ⟨W1.heap.size, 5, none⟩ (.int .u16 0)).setCell ⟨W1.heap.size, 6, none⟩ (.int .u16 0)).setCell ⟨W1.heap.size, 7, none⟩ (.int .u16 x)).setCell ⟨W1.heap.size, 8, none⟩ (.int .u16 0)) #[.int .u8 2, .int .u16 q, .int .u16 x, .int .u8 0, .int .i64 0] 32
    rw [hz2] at this
    exact this
  have hC4 : Cel W4 W1.heap.size #[.int .u16 4, .int .u16 0, .int .u16 0, .int .u16 0, .int .u16 0, .int .u16 0, .int .u16 0, .int .u16 x, .int .u16 0] 28 := (hO4.block _ (Array.getElem?_eq_some_iff.1 hC3).1 (by omega)).trans hC3
  have hD4 : Cel W4 W2.heap.size #[.int .u8 2, .int .u16 q, .int .u16 x, .int .u8 0, .int .i64 0] 32 := (hO4.block _ (Array.getElem?_eq_some_iff.1 hD3).1 (by omega)).trans hD3
  have hB4 : Below w.heap.size w W4 := by
    have h2 := (hB1.alloc hB1.size (.cells #[.int .u16 0, .int .u16 0, .int .u16 0, .int .u16 0, .int .u16 0, .int .u16 0, .int .u16 0, .int .u16 x, .int .u16 0] 28)).trans (hB2.mono (by simp; omega))
    have h3 : Below w.heap.size w ((((((((((W2.setCell ⟨W1.heap.size, 0, none⟩ (.int .u16 4)).setCell ⟨W1.heap.size, 1, none⟩ (.int .u16 0)).setCell ⟨W1.heap.size, 2, none⟩ (.int .u16 0)).setCell ⟨W1.heap.size, 3, none⟩ (.int .u16 0)).setCell ⟨W1.heap.size, 4, none⟩ (.int .u16 0)).setCell ⟨W1.heap.size, 5, none⟩ (.int .u16 0)).setCell ⟨W1.heap.size, 6, none⟩ (.int .u16 0)).setCell ⟨W1.heap.size, 7, none⟩ (.int .u16 x)).setCell ⟨W1.heap.size, 8, none⟩ (.int .u16 0)).alloc (.cells #[.int .u8 2, .int .u16 q, .int .u16 x, .int .u8 0, .int .i64 0] 32)) := ((bel_cell (bel_cell (bel_cell (bel_cell (bel_cell (bel_cell (bel_cell (bel_cell (bel_cell h2 (by omega) 0 _) (by omega) 1 _) (by omega) 2 _) (by omega) 3 _) (by omega) 4 _) (by omega) 5 _) (by omega) 6 _) (by omega) 7 _) (by omega) 8 _)).alloc (by rw [hz2]; omega) (.cells #[.int .u8 2, .int .u16 q, .int .u16 x, .int .u8 0, .int .i64 0] 32)
    exact h3.trans (hO4.below _ (Nat.le_refl _) h3.size)
  clear hO4 hC3 hD3 hM3 hM2 hM1 hC hB2 hB1 hz2
  have y0 := hC4.c 0
  have y1 := hC4.c 1
  have y2 := hC4.c 2
  have y3 := hC4.c 3
  have y4 := hC4.c 4
  have y5 := hC4.c 5
  have y6 := hC4.c 6
  have y7 := hC4.c 7
  have y8 := hC4.c 8
  have u0 := hD4.c 0
  have u1 := hD4.c 1
  have u2 := hD4.c 2
  have u3 := hD4.c 3
  have u4 := hD4.c 4
  have yf := hC4.f
  go_wp2_with fail
  have c4 := exec_any 4 (upd (fun _ => 0) 6 x) 13 7 6 q W4 ⟨by decide, by decide⟩ (upd0_wd 6 x hx) ⟨by decide, by decide, by decide, by decide, by decide, by decide, by omega, by omega⟩
  have eX := ld_exec6 x q
  rw [eX] at c4
  clear eX
  refine c4.mono ?_
  rintro e W5 ⟨rfl, hB5⟩
  clear c4 yf y0 y1 y2 y3 y4 y5 y6 y7 y8 u0 u1 u2 u3 u4
  have hC5 := hC4.below hB5 (Array.getElem?_eq_some_iff.1 hC4).1
  have hD5 := hD4.below hB5 (Array.getElem?_eq_some_iff.1 hD4).1
  have hM5 := hM4.below hB5
  have hW5 := hB4.trans (hB5.mono hB4.size)
  clear hC4 hD4 hM4 hB4 hB5
  have hs5 : W1.heap.size < W5.heap.size := (Array.getElem?_eq_some_iff.1 hC5).1
  have ht5 : W2.heap.size < W5.heap.size := (Array.getElem?_eq_some_iff.1 hD5).1
  have hz5 : (((((((((W5.setCell ⟨W1.heap.size, 0, none⟩ (.int .u16 8)).setCell ⟨W1.heap.size, 1, none⟩ (.int .u16 0)).setCell ⟨W1.heap.size, 2, none⟩ (.int .u16 0)).setCell ⟨W1.heap.size, 3, none⟩ (.int .u16 0)).setCell ⟨W1.heap.size, 4, none⟩ (.int .u16 0)).setCell ⟨W1.heap.size, 5, none⟩ (.int .u16 0)).setCell ⟨W1.heap.size, 6, none⟩ (.int .u16 0)).setCell ⟨W1.heap.size, 7, none⟩ (.int .u16 x)).setCell ⟨W1.heap.size, 8, none⟩ (.int .u16 0)).heap.size = W5.heap.size := by simp only [size_cell]
  have hC6 : Cel ((((((((((W5.setCell ⟨W1.heap.size, 0, none⟩ (.int .u16 8)).setCell ⟨W1.heap.size, 1, none⟩ (.int .u16 0)).setCell ⟨W1.heap.size, 2, none⟩ (.int .u16 0)).setCell ⟨W1.heap.size, 3, none⟩ (.int .u16 0)).setCell ⟨W1.heap.size, 4, none⟩ (.int .u16 0)).setCell ⟨W1.heap.size, 5, none⟩ (.int .u16 0)).setCell ⟨W1.heap.size, 6, none⟩ (.int .u16 0)).setCell ⟨W1.heap.size, 7, none⟩ (.int .u16 x)).setCell ⟨W1.heap.size, 8, none⟩ (.int .u16 0)).alloc (.cells #[.int .u8 1, .int .u16 (addV x q), .int .u16 0, .int .u8 7, .int .i64 0] 32)) W1.heap.size #[.int .u16 8, .int .u16 0, .int .u16 0, .int .u16 0, .int .u16 0, .int .u16 0, .int .u16 0, .int .u16 x, .int .u16 0] 28 := (hC5.set9 (.int .u16 8) (.int .u16 0) (.int .u16 0) (.int .u16 0) (.int .u16 0) (.int .u16 0) (.int .u16 0) (.int .u16 x) (.int .u16 0)).alloc _
  have hD6 : Cel ((((((((((W5.setCell ⟨W1.heap.size, 0, none⟩ (.int .u16 8)).setCell ⟨W1.heap.size, 1, none⟩ (.int .u16 0)).setCell ⟨W1.heap.size, 2, none⟩ (.int .u16 0)).setCell ⟨W1.heap.size, 3, none⟩ (.int .u16 0)).setCell ⟨W1.heap.size, 4, none⟩ (.int .u16 0)).setCell ⟨W1.heap.size, 5, none⟩ (.int .u16 0)).setCell ⟨W1.heap.size, 6, none⟩ (.int .u16 0)).setCell ⟨W1.heap.size, 7, none⟩ (.int .u16 x)).setCell ⟨W1.heap.size, 8, none⟩ (.int .u16 0)).alloc (.cells #[.int .u8 1, .int .u16 (addV x q), .int .u16 0, .int .u8 7, .int .i64 0] 32)) W2.heap.size #[.int .u8 2, .int .u16 q, .int .u16 x, .int .u8 0, .int .i64 0] 32 := (hD5.set9o (by omega) (.int .u16 8) (.int .u16 0) (.int .u16 0) (.int .u16 0) (.int .u16 0) (.int .u16 0) (.int .u16 0) (.int .u16 x) (.int .u16 0)).alloc _
  have hE6 : Cel ((((((((((W5.setCell ⟨W1.heap.size, 0, none⟩ (.int .u16 8)).setCell ⟨W1.heap.size, 1, none⟩ (.int .u16 0)).setCell ⟨W1.heap.size, 2, none⟩ (.int .u16 0)).setCell ⟨W1.heap.size, 3, none⟩ (.int .u16 0)).setCell ⟨W1.heap.size, 4, none⟩ (.int .u16 0)).setCell ⟨W1.heap.size, 5, none⟩ (.int .u16 0)).setCell ⟨W1.heap.size, 6, none⟩ (.int .u16 0)).setCell ⟨W1.heap.size, 7, none⟩ (.int .u16 x)).setCell ⟨W1.heap.size, 8, none⟩ (.int .u16 0)).alloc (.cells #[.int .u8 1, .int .u16 (addV x q), .int .u16 0, .int .u8 7, .int .i64 0] 32)) W5.heap.size #[.int .u8 1, .int .u16 (addV x q), .int .u16 0, .int .u8 7, .int .i64 0] 32 := by
    have := Cel.new (((((((((W5.setCell ⟨W1.heap.size, 0, none⟩ (.int .u16 8)).setCell ⟨W1.heap.size, 1, none⟩ (.int .u16 0)).setCell ⟨W1.heap.size, 2, none⟩ (.int .u16 0)).setCell ⟨W1.heap.size, 3, none⟩ (.int .u16 0)).setCell ⟨W1.heap.size, 4, none⟩ (.int .u16 0)).setCell ⟨W1.heap.size, 5, none⟩ (.int .u16 0)).setCell ⟨W1.heap.size, 6, none⟩ (.int .u16 0)).setCell ⟨W1.heap.size, 7, none⟩ (.int .u16 x)).setCell ⟨W1.heap.size, 8, none⟩ (.int .u16 0)) #[.int .u8 1, .int .u16 (addV x q), .int .u16 0, .int .u8 7, .int .i64 0] 32
    rw [hz5] at this
    exact this
  have hM6 : Mem ((((((((((W5.setCell ⟨W1.heap.size, 0, none⟩ (.int .u16 8)).setCell ⟨W1.heap.size, 1, none⟩ (.int .u16 0)).setCell ⟨W1.heap.size, 2, none⟩ (.int .u16 0)).setCell ⟨W1.heap.size, 3, none⟩ (.int .u16 0)).setCell ⟨W1.heap.size, 4, none⟩ (.int .u16 0)).setCell ⟨W1.heap.size, 5, none⟩ (.int .u16 0)).setCell ⟨W1.heap.size, 6, none⟩ (.int .u16 0)).setCell ⟨W1.heap.size, 7, none⟩ (.int .u16 x)).setCell ⟨W1.heap.size, 8, none⟩ (.int .u16 0)).alloc (.cells #[.int .u8 1, .int .u16 (addV x q), .int .u16 0, .int .u8 7, .int .i64 0] 32)) w.heap.size 16 (putL zeroL (f * 32 + o) [x / 256, x % 256]) := (((((((((hM5.other hne 0 _).other hne 1 _).other hne 2 _).other hne 3 _).other hne 4 _).other hne 5 _).other hne 6 _).other hne 7 _).other hne 8 _).below ((Below.refl _ _).alloc (Nat.le_refl _) _)
  have hW6 : Below w.heap.size w ((((((((((W5.setCell ⟨W1.heap.size, 0, none⟩ (.int .u16 8)).setCell ⟨W1.heap.size, 1, none⟩ (.int .u16 0)).setCell ⟨W1.heap.size, 2, none⟩ (.int .u16 0)).setCell ⟨W1.heap.size, 3, none⟩ (.int .u16 0)).setCell ⟨W1.heap.size, 4, none⟩ (.int .u16 0)).setCell ⟨W1.heap.size, 5, none⟩ (.int .u16 0)).setCell ⟨W1.heap.size, 6, none⟩ (.int .u16 0)).setCell ⟨W1.heap.size, 7, none⟩ (.int .u16 x)).setCell ⟨W1.heap.size, 8, none⟩ (.int .u16 0)).alloc (.cells #[.int .u8 1, .int .u16 (addV x q), .int .u16 0, .int .u8 7, .int .i64 0] 32)) := ((bel_cell (bel_cell (bel_cell (bel_cell (bel_cell (bel_cell (bel_cell (bel_cell (bel_cell hW5 (by omega) 0 _) (by omega) 1 _) (by omega) 2 _) (by omega) 3 _) (by omega) 4 _) (by omega) 5 _) (by omega) 6 _) (by omega) 7 _) (by omega) 8 _)).alloc (by rw [hz5]; omega) (.cells #[.int .u8 1, .int .u16 (addV x q), .int .u16 0, .int .u8 7, .int .i64 0] 32)
  have y0 := hC5.c 0
  have y1 := hC5.c 1
  have y2 := hC5.c 2
  have y3 := hC5.c 3
  have y4 := hC5.c 4
  have y5 := hC5.c 5
  have y6 := hC5.c 6
  have y7 := hC5.c 7
  have y8 := hC5.c 8
  have u0 := hD5.c 0
  have u1 := hD5.c 1
  have u2 := hD5.c 2
  have u3 := hD5.c 3
  have u4 := hD5.c 4
  have yf := hC5.f
  unfold execV rgV accV
  simp only [upd]
  go_wp2
  go_ret
  exact ⟨rfl, hW6⟩
end Go.Proofs.Ytnknhkkhabnnkaa
