/- DevNone: one way of the number. -/
import Derived.Test.YtcffjlokmdddcaaLawDevN0
namespace Go.Proofs.Ytcffjlokmdddcaa
open Go.RowKit Go.Maps
set_option linter.unusedVariables false
set_option maxRecDepth 100000
set_option maxHeartbeats 8000000 in
theorem dnone_lo (k i r0 : Int) (r1 : Bool) (r2 r3 r4 : Int) (bv : Value) (n : Int) (w : World) (hn : n < 1) : Calls Try.prog 8 #[.agg #[.int .i64 k, .int .i64 i, .int .u32 r0, .bool r1, .int .i64 r2, .int .i64 r3, .int .u8 r4, bv], .int .i64 n] w fun e w' => e = .returned (.bool true) ∧ Below w.heap.size w w' := by
  have hw0 : Below w.heap.size w (w.alloc (.cells #[.int .i64 k, .int .i64 i, .int .u32 r0, .bool r1, .int .i64 r2, .int .i64 r3, .int .u8 r4, bv] 60)) := (Below.refl _ w).alloc (Nat.le_refl _) _
  have c1 := ask_nil r0 r1 r2 r3 r4 (w.alloc (.cells #[.int .i64 k, .int .i64 i, .int .u32 r0, .bool r1, .int .i64 r2, .int .i64 r3, .int .u8 r4, bv] 60))
  have hx0 : (w.alloc (.cells #[.int .i64 k, .int .i64 i, .int .u32 r0, .bool r1, .int .i64 r2, .int .i64 r3, .int .u8 r4, bv] 60)).heap[w.heap.size]? = some (.cells #[.int .i64 k, .int .i64 i, .int .u32 r0, .bool r1, .int .i64 r2, .int .i64 r3, .int .u8 r4, bv] 60) := heap_alloc_last w _
  go_enter Try.func8, Try.ntmps8
  go_wp2_with fail
  refine c1.mono ?_
  rintro e W1 ⟨rfl, hB1⟩
  clear c1
  have hx1 := (hB1.block w.heap.size (by simp)).trans hx0
  have hz1 : w.heap.size < W1.heap.size := (Array.getElem?_eq_some_iff.1 hx1).1
  have HX1 : Hid3 (W1.heap[w.heap.size]? = some (.cells #[.int .i64 k, .int .i64 i, .int .u32 r0, .bool r1, .int .i64 r2, .int .i64 r3, .int .u8 r4, bv] 60)) := ⟨hx1⟩
  have HB1 : Hid3 (Below w.heap.size w W1) := ⟨hw0.trans (hB1.mono hw0.size)⟩
  have hS : Hid3 (∀ W', Below W1.heap.size W1 W' → W'.cell? ⟨w.heap.size, 1, none⟩ = some (.int .i64 i)) := ⟨fun W' hB => (b8m ((hB.block _ hz1).trans hx1)).1⟩
  have hSa : Hid3 (W1.drew.cell? ⟨w.heap.size, 1, none⟩ = some (.int .i64 i)) := ⟨hS.out _ (Below.refl _ W1).drew⟩
  have hSb : Hid3 ((W1.alloc (.cells #[.int .u32 0, .bool false, .int .i64 0, .int .i64 0, .int .u8 0] 45)).drew.cell? ⟨w.heap.size, 1, none⟩ = some (.int .i64 i)) := ⟨hS.out _ ((Below.refl _ W1).alloc (Nat.le_refl _) _).drew⟩
  have cN := fun W => new_good 1 W (by decide) (by decide)
  have cD := fun (m : Addr) W => deliver_nil none (some m) i W (.inl rfl)
  clear hx0 hx1 hw0 hB1
  go_wp2_with fail
  go_region_held3 (fun w' => w'.cell? ⟨w.heap.size, 1, none⟩ = some (.int .i64 i)) (with_reducible (first | exact hSa.out | exact hSb.out | exact hS2.out | exact hS2a.out | exact hS3.out | exact hS3a.out | exact hS3s.out)) ((first
    | (go_at_call 25; refine (cN _).mono ?_; rintro e W2 ⟨rfl, _, hB2⟩; first
        | (have HB2 : Hid3 (Below W1.heap.size W1 W2) := (by with_reducible exact ⟨bel_a hB2⟩); have hS2 : Hid3 (W2.cell? ⟨w.heap.size, 1, none⟩ = some (.int .i64 i)) := ⟨hS.out _ HB2.out⟩; have hS2a : Hid3 ((W2.alloc (.cells #[.int .u32 0, .bool false, .int .i64 0, .int .i64 0, .int .u8 0] 45)).cell? ⟨w.heap.size, 1, none⟩ = some (.int .i64 i)) := ⟨hS.out _ (HB2.out.alloc HB2.out.size _)⟩)
        | (have HB2 : Hid3 (Below W1.heap.size W1 W2) := (by with_reducible exact ⟨bel_b hB2⟩); have hS2 : Hid3 (W2.cell? ⟨w.heap.size, 1, none⟩ = some (.int .i64 i)) := ⟨hS.out _ HB2.out⟩; have hq2 := cel_b hB2))
    | (go_at_call 17; refine (cD _ _).mono ?_; rintro e W3 ⟨rfl, hB3⟩; first
        | (have HB3 : Hid3 (Below W1.heap.size W1 W3) := (by with_reducible exact ⟨bel_c HB2.out hB3⟩); have hq3 := (hB3.block W1.heap.size (Array.getElem?_eq_some_iff.1 hq2).1).trans hq2; have hS3 : Hid3 (W3.cell? ⟨w.heap.size, 1, none⟩ = some (.int .i64 i)) := ⟨hS.out _ HB3.out⟩; obtain ⟨q0, q1, q2, q3, q4⟩ := b5m hq3; have qf : ∀ j, W3.frozen? ⟨W1.heap.size, j, none⟩ = false := (fun j => Lib.frozen_of_heap hq3 j); have hS3s : Hid3 ((((((W3.setCell ⟨W1.heap.size, 0, none⟩ (.int .u32 0)).setCell ⟨W1.heap.size, 1, none⟩ (.bool false)).setCell ⟨W1.heap.size, 2, none⟩ (.int .i64 0)).setCell ⟨W1.heap.size, 3, none⟩ (.int .i64 0)).setCell ⟨W1.heap.size, 4, none⟩ (.int .u8 0)).cell? ⟨w.heap.size, 1, none⟩ = some (.int .i64 i)) := ⟨hS.out _ (bel_s5 HB3.out W1.heap.size (Nat.le_refl _) _ _ _ _ _)⟩; have HW3 : Hid3 (Below W1.heap.size W1 (((((W3.setCell ⟨W1.heap.size, 0, none⟩ (.int .u32 0)).setCell ⟨W1.heap.size, 1, none⟩ (.bool false)).setCell ⟨W1.heap.size, 2, none⟩ (.int .i64 0)).setCell ⟨W1.heap.size, 3, none⟩ (.int .i64 0)).setCell ⟨W1.heap.size, 4, none⟩ (.int .u8 0)) ∧ (((((W3.setCell ⟨W1.heap.size, 0, none⟩ (.int .u32 0)).setCell ⟨W1.heap.size, 1, none⟩ (.bool false)).setCell ⟨W1.heap.size, 2, none⟩ (.int .i64 0)).setCell ⟨W1.heap.size, 3, none⟩ (.int .i64 0)).setCell ⟨W1.heap.size, 4, none⟩ (.int .u8 0)).heap[W1.heap.size]? = some (.cells #[.int .u32 0, .bool false, .int .i64 0, .int .i64 0, .int .u8 0] 45)) := ⟨bel_s5 HB3.out W1.heap.size (Nat.le_refl _) _ _ _ _ _, heap_s5 hq3 _ _ _ _ _⟩)
        | (have HB3 : Hid3 (Below W1.heap.size W1 W3) := (by with_reducible exact ⟨bel_c HB2.out hB3⟩); have hS3 : Hid3 (W3.cell? ⟨w.heap.size, 1, none⟩ = some (.int .i64 i)) := ⟨hS.out _ HB3.out⟩; have HW3a : Hid3 (Below W1.heap.size W1 (W3.alloc (.cells #[.int .u32 0, .bool false, .int .i64 0, .int .i64 0, .int .u8 0] 45)) ∧ (W3.alloc (.cells #[.int .u32 0, .bool false, .int .i64 0, .int .i64 0, .int .u8 0] 45)).heap[W3.heap.size]? = some (.cells #[.int .u32 0, .bool false, .int .i64 0, .int .i64 0, .int .u8 0] 45)) := ⟨HB3.out.alloc HB3.out.size _, heap_alloc_last W3 _⟩; have hS3a : Hid3 ((W3.alloc (.cells #[.int .u32 0, .bool false, .int .i64 0, .int .i64 0, .int .u8 0] 45)).cell? ⟨w.heap.size, 1, none⟩ = some (.int .i64 i)) := ⟨hS.out _ (HB3.out.alloc HB3.out.size _)⟩)
        | (have HB3 : Hid3 (Below W1.heap.size W1 W3) := (by with_reducible exact ⟨bel_d HB2.out hB3⟩); have hS3 : Hid3 (W3.cell? ⟨w.heap.size, 1, none⟩ = some (.int .i64 i)) := ⟨hS.out _ HB3.out⟩; have hq3 := cel_d hB3; obtain ⟨q0, q1, q2, q3, q4⟩ := b5m hq3; have qf : ∀ j, W3.frozen? ⟨W2.heap.size, j, none⟩ = false := (fun j => Lib.frozen_of_heap hq3 j); have hS3s : Hid3 ((((((W3.setCell ⟨W2.heap.size, 0, none⟩ (.int .u32 0)).setCell ⟨W2.heap.size, 1, none⟩ (.bool false)).setCell ⟨W2.heap.size, 2, none⟩ (.int .i64 0)).setCell ⟨W2.heap.size, 3, none⟩ (.int .i64 0)).setCell ⟨W2.heap.size, 4, none⟩ (.int .u8 0)).cell? ⟨w.heap.size, 1, none⟩ = some (.int .i64 i)) := ⟨hS.out _ (bel_s5 HB3.out W2.heap.size HB2.out.size _ _ _ _ _)⟩; have HW3 : Hid3 (Below W1.heap.size W1 (((((W3.setCell ⟨W2.heap.size, 0, none⟩ (.int .u32 0)).setCell ⟨W2.heap.size, 1, none⟩ (.bool false)).setCell ⟨W2.heap.size, 2, none⟩ (.int .i64 0)).setCell ⟨W2.heap.size, 3, none⟩ (.int .i64 0)).setCell ⟨W2.heap.size, 4, none⟩ (.int .u8 0)) ∧ (((((W3.setCell ⟨W2.heap.size, 0, none⟩ (.int .u32 0)).setCell ⟨W2.heap.size, 1, none⟩ (.bool false)).setCell ⟨W2.heap.size, 2, none⟩ (.int .i64 0)).setCell ⟨W2.heap.size, 3, none⟩ (.int .i64 0)).setCell ⟨W2.heap.size, 4, none⟩ (.int .u8 0)).heap[W2.heap.size]? = some (.cells #[.int .u32 0, .bool false, .int .i64 0, .int .i64 0, .int .u8 0] 45)) := ⟨bel_s5 HB3.out W2.heap.size HB2.out.size _ _ _ _ _, heap_s5 hq3 _ _ _ _ _⟩))))
  · have HT : Hid3 (Below W1.heap.size W1 (W3.alloc (.cells #[.int .u32 0, .bool false, .int .i64 0, .int .i64 0, .int .u8 0] 45)) ∧ (W3.alloc (.cells #[.int .u32 0, .bool false, .int .i64 0, .int .i64 0, .int .u8 0] 45)).heap[W3.heap.size]? = some (.cells #[.int .u32 0, .bool false, .int .i64 0, .int .i64 0, .int .u8 0] 45)) := HW3a
    have HBT : Hid3 (Below w.heap.size w (W3.alloc (.cells #[.int .u32 0, .bool false, .int .i64 0, .int .i64 0, .int .u8 0] 45))) := ⟨HB1.out.trans (HT.out.1.mono HB1.out.size)⟩
    have HXT : Hid3 ((W3.alloc (.cells #[.int .u32 0, .bool false, .int .i64 0, .int .i64 0, .int .u8 0] 45)).heap[w.heap.size]? = some (.cells #[.int .i64 k, .int .i64 i, .int .u32 r0, .bool r1, .int .i64 r2, .int .i64 r3, .int .u8 r4, bv] 60)) := ⟨(HT.out.1.block w.heap.size hz1).trans HX1.out⟩
    have HQT : Hid3 ((W3.alloc (.cells #[.int .u32 0, .bool false, .int .i64 0, .int .i64 0, .int .u8 0] 45)).heap[W3.heap.size]? = some (.cells #[.int .u32 0, .bool false, .int .i64 0, .int .i64 0, .int .u8 0] 45)) := ⟨HT.out.2⟩
    clear hS hSa hSb cN cD HT HW3a HB1 HX1 hz1 hB2 hB3 HB2 HB3 hS2 hS3 hS2a hS3a
    generalize (W3.alloc (.cells #[.int .u32 0, .bool false, .int .i64 0, .int .i64 0, .int .u8 0] 45)) = WT at HBT HXT HQT ⊢
    generalize W3.heap.size = bz at HQT ⊢
    obtain ⟨y1, y2, y3, y4, y5, y6, y7⟩ := b8m HXT.out
    have c4 := sector_nil i WT
    go_wp2_with fail
    refine c4.mono ?_
    rintro e W4 ⟨rfl, rfl⟩
    clear c4
    have c5 := dnew_good 1 W4 (by decide) (by decide)
    go_wp2_with fail
    refine c5.mono ?_
    rintro e W5 ⟨rfl, _, hB5⟩
    clear c5
    have c6 := deliver_nil (some ⟨W4.heap.size + 1, 0, none⟩) none 0 W5 (.inr rfl)
    go_wp2_with fail
    refine c6.mono ?_
    rintro e W6 ⟨rfl, hB6⟩
    clear c6
    have hb6 : Below W4.heap.size W4 (W6.alloc (.cells #[.int .u32 0, .bool false, .int .i64 0, .int .i64 0, .int .u8 0] 45)) := (hB5.trans (hB6.mono hB5.size)).alloc (Nat.le_trans hB5.size hB6.size) _
    have c7 := dlive_any (W6.alloc (.cells #[.int .u32 0, .bool false, .int .i64 0, .int .i64 0, .int .u8 0] 45))
    go_wp2_with fail
    refine c7.mono ?_
    rintro e W7 ⟨rfl, hB7⟩
    clear c7
    have hb7 : Below W4.heap.size W4 W7 := hb6.trans (hB7.mono hb6.size)
    have hx7 := (hb7.block w.heap.size (Array.getElem?_eq_some_iff.1 HXT.out).1).trans HXT.out
    have hq7 := (hb7.block bz (Array.getElem?_eq_some_iff.1 HQT.out).1).trans HQT.out
    have HW7 : Hid3 (Below w.heap.size w W7) := ⟨HBT.out.trans (hb7.mono HBT.out.size)⟩
    have HX7 : Hid3 (W7.heap[w.heap.size]? = some (.cells #[.int .i64 k, .int .i64 i, .int .u32 r0, .bool r1, .int .i64 r2, .int .i64 r3, .int .u8 r4, bv] 60)) := ⟨hx7⟩
    clear y1 y2 y3 y4 y5 y6 y7
    obtain ⟨y1, y2, y3, y4, y5, y6, y7⟩ := b8m hx7
    obtain ⟨p0, p1, p2, p3, p4⟩ := b5m hq7
    have eG := eqGuardR
    have eM := eqR0
    have c8 := cancel_nil i W7
    clear hx7 hq7 hb7 hB7 hb6 hB5 hB6
    go_wp2_with fail
    refine c8.mono ?_
    rintro e W8 ⟨rfl, hB8⟩
    clear c8 eM eG p0 p1 p2 p3 p4 y1 y2 y3 y4 y5 y6 y7
    have hx8 := (hB8.block w.heap.size (Array.getElem?_eq_some_iff.1 HX7.out).1).trans HX7.out
    have HW8 : Hid3 (Below w.heap.size w W8) := ⟨HW7.out.trans (hB8.mono HW7.out.size)⟩
    have HX8 : Hid3 (W8.heap[w.heap.size]? = some (.cells #[.int .i64 k, .int .i64 i, .int .u32 r0, .bool r1, .int .i64 r2, .int .i64 r3, .int .u8 r4, bv] 60)) := ⟨hx8⟩
    obtain ⟨y1, y2, y3, y4, y5, y6, y7⟩ := b8m hx8
    have c9 := ddrop_nil r4 W8
    clear hx8 hB8
    go_wp2_with fail
    refine c9.mono ?_
    rintro e W9 ⟨rfl, hB9⟩
    clear c9 y1 y2 y3 y4 y5 y6 y7
    have hx9 := (hB9.block w.heap.size (Array.getElem?_eq_some_iff.1 HX8.out).1).trans HX8.out
    have HW9 : Hid3 (Below w.heap.size w W9) := ⟨HW8.out.trans (hB9.mono HW8.out.size)⟩
    obtain ⟨y1, y2, y3, y4, y5, y6, y7⟩ := b8m hx9
    have d1 := dset_nil i bv W9
    clear hx9 hB9
    go_wp2_with fail
    refine d1.mono ?_
    rintro e Wa ⟨rfl, rfl⟩
    clear d1
    have d2 := waiting_nil Wa
    go_wp2_with fail
    refine d2.mono ?_
    rintro e Wb ⟨rfl, rfl⟩
    clear d2
    have d3 := dsize_nil Wb
    go_wp2_with fail
    refine d3.mono ?_
    rintro e Wc ⟨rfl, rfl⟩
    clear d3
    have d4 := dfork_nil Wc
    go_wp2_with fail
    refine d4.mono ?_
    rintro e Wd ⟨rfl, rfl⟩
    clear d4
    have d5 := dnew_bad n Wd (.inl hn)
    go_wp2_with fail
    refine d5.mono ?_
    rintro e We ⟨rfl, rfl⟩
    clear d5
    go_wp2
    go_ret
    exact ⟨rfl, HW9.out⟩
  · have HT : Hid3 (Below W1.heap.size W1 (((((W3.setCell ⟨W2.heap.size, 0, none⟩ (.int .u32 0)).setCell ⟨W2.heap.size, 1, none⟩ (.bool false)).setCell ⟨W2.heap.size, 2, none⟩ (.int .i64 0)).setCell ⟨W2.heap.size, 3, none⟩ (.int .i64 0)).setCell ⟨W2.heap.size, 4, none⟩ (.int .u8 0)) ∧ (((((W3.setCell ⟨W2.heap.size, 0, none⟩ (.int .u32 0)).setCell ⟨W2.heap.size, 1, none⟩ (.bool false)).setCell ⟨W2.heap.size, 2, none⟩ (.int .i64 0)).setCell ⟨W2.heap.size, 3, none⟩ (.int .i64 0)).setCell ⟨W2.heap.size, 4, none⟩ (.int .u8 0)).heap[W2.heap.size]? = some (.cells #[.int .u32 0, .bool false, .int .i64 0, .int .i64 0, .int .u8 0] 45)) := HW3
    have HBT : Hid3 (Below w.heap.size w (((((W3.setCell ⟨W2.heap.size, 0, none⟩ (.int .u32 0)).setCell ⟨W2.heap.size, 1, none⟩ (.bool false)).setCell ⟨W2.heap.size, 2, none⟩ (.int .i64 0)).setCell ⟨W2.heap.size, 3, none⟩ (.int .i64 0)).setCell ⟨W2.heap.size, 4, none⟩ (.int .u8 0))) := ⟨HB1.out.trans (HT.out.1.mono HB1.out.size)⟩
    have HXT : Hid3 ((((((W3.setCell ⟨W2.heap.size, 0, none⟩ (.int .u32 0)).setCell ⟨W2.heap.size, 1, none⟩ (.bool false)).setCell ⟨W2.heap.size, 2, none⟩ (.int .i64 0)).setCell ⟨W2.heap.size, 3, none⟩ (.int .i64 0)).setCell ⟨W2.heap.size, 4, none⟩ (.int .u8 0)).heap[w.heap.size]? = some (.cells #[.int .i64 k, .int .i64 i, .int .u32 r0, .bool r1, .int .i64 r2, .int .i64 r3, .int .u8 r4, bv] 60)) := ⟨(HT.out.1.block w.heap.size hz1).trans HX1.out⟩
    have HQT : Hid3 ((((((W3.setCell ⟨W2.heap.size, 0, none⟩ (.int .u32 0)).setCell ⟨W2.heap.size, 1, none⟩ (.bool false)).setCell ⟨W2.heap.size, 2, none⟩ (.int .i64 0)).setCell ⟨W2.heap.size, 3, none⟩ (.int .i64 0)).setCell ⟨W2.heap.size, 4, none⟩ (.int .u8 0)).heap[W2.heap.size]? = some (.cells #[.int .u32 0, .bool false, .int .i64 0, .int .i64 0, .int .u8 0] 45)) := ⟨HT.out.2⟩
    clear hS hSa hSb cN cD HT HW3 HB1 HX1 hz1 hB2 hB3 HB2 HB3 hS2 hS3 hS2a hq3 q0 q1 q2 q3 q4 qf hS3s
    generalize (((((W3.setCell ⟨W2.heap.size, 0, none⟩ (.int .u32 0)).setCell ⟨W2.heap.size, 1, none⟩ (.bool false)).setCell ⟨W2.heap.size, 2, none⟩ (.int .i64 0)).setCell ⟨W2.heap.size, 3, none⟩ (.int .i64 0)).setCell ⟨W2.heap.size, 4, none⟩ (.int .u8 0)) = WT at HBT HXT HQT ⊢
    generalize W2.heap.size = bz at HQT ⊢
    obtain ⟨y1, y2, y3, y4, y5, y6, y7⟩ := b8m HXT.out
    have c4 := sector_nil i WT
    go_wp2_with fail
    refine c4.mono ?_
    rintro e W4 ⟨rfl, rfl⟩
    clear c4
    have c5 := dnew_good 1 W4 (by decide) (by decide)
    go_wp2_with fail
    refine c5.mono ?_
    rintro e W5 ⟨rfl, _, hB5⟩
    clear c5
    have c6 := deliver_nil (some ⟨W4.heap.size + 1, 0, none⟩) none 0 W5 (.inr rfl)
    go_wp2_with fail
    refine c6.mono ?_
    rintro e W6 ⟨rfl, hB6⟩
    clear c6
    have hb6 : Below W4.heap.size W4 (W6.alloc (.cells #[.int .u32 0, .bool false, .int .i64 0, .int .i64 0, .int .u8 0] 45)) := (hB5.trans (hB6.mono hB5.size)).alloc (Nat.le_trans hB5.size hB6.size) _
    have c7 := dlive_any (W6.alloc (.cells #[.int .u32 0, .bool false, .int .i64 0, .int .i64 0, .int .u8 0] 45))
    go_wp2_with fail
    refine c7.mono ?_
    rintro e W7 ⟨rfl, hB7⟩
    clear c7
    have hb7 : Below W4.heap.size W4 W7 := hb6.trans (hB7.mono hb6.size)
    have hx7 := (hb7.block w.heap.size (Array.getElem?_eq_some_iff.1 HXT.out).1).trans HXT.out
    have hq7 := (hb7.block bz (Array.getElem?_eq_some_iff.1 HQT.out).1).trans HQT.out
    have HW7 : Hid3 (Below w.heap.size w W7) := ⟨HBT.out.trans (hb7.mono HBT.out.size)⟩
    have HX7 : Hid3 (W7.heap[w.heap.size]? = some (.cells #[.int .i64 k, .int .i64 i, .int .u32 r0, .bool r1, .int .i64 r2, .int .i64 r3, .int .u8 r4, bv] 60)) := ⟨hx7⟩
    clear y1 y2 y3 y4 y5 y6 y7
    obtain ⟨y1, y2, y3, y4, y5, y6, y7⟩ := b8m hx7
    obtain ⟨p0, p1, p2, p3, p4⟩ := b5m hq7
    have eG := eqGuardR
    have eM := eqR0
    have c8 := cancel_nil i W7
    clear hx7 hq7 hb7 hB7 hb6 hB5 hB6
    go_wp2_with fail
    refine c8.mono ?_
    rintro e W8 ⟨rfl, hB8⟩
    clear c8 eM eG p0 p1 p2 p3 p4 y1 y2 y3 y4 y5 y6 y7
    have hx8 := (hB8.block w.heap.size (Array.getElem?_eq_some_iff.1 HX7.out).1).trans HX7.out
    have HW8 : Hid3 (Below w.heap.size w W8) := ⟨HW7.out.trans (hB8.mono HW7.out.size)⟩
    have HX8 : Hid3 (W8.heap[w.heap.size]? = some (.cells #[.int .i64 k, .int .i64 i, .int .u32 r0, .bool r1, .int .i64 r2, .int .i64 r3, .int .u8 r4, bv] 60)) := ⟨hx8⟩
    obtain ⟨y1, y2, y3, y4, y5, y6, y7⟩ := b8m hx8
    have c9 := ddrop_nil r4 W8
    clear hx8 hB8
    go_wp2_with fail
    refine c9.mono ?_
    rintro e W9 ⟨rfl, hB9⟩
    clear c9 y1 y2 y3 y4 y5 y6 y7
    have hx9 := (hB9.block w.heap.size (Array.getElem?_eq_some_iff.1 HX8.out).1).trans HX8.out
    have HW9 : Hid3 (Below w.heap.size w W9) := ⟨HW8.out.trans (hB9.mono HW8.out.size)⟩
    obtain ⟨y1, y2, y3, y4, y5, y6, y7⟩ := b8m hx9
    have d1 := dset_nil i bv W9
    clear hx9 hB9
    go_wp2_with fail
    refine d1.mono ?_
    rintro e Wa ⟨rfl, rfl⟩
    clear d1
    have d2 := waiting_nil Wa
    go_wp2_with fail
    refine d2.mono ?_
    rintro e Wb ⟨rfl, rfl⟩
    clear d2
    have d3 := dsize_nil Wb
    go_wp2_with fail
    refine d3.mono ?_
    rintro e Wc ⟨rfl, rfl⟩
    clear d3
    have d4 := dfork_nil Wc
    go_wp2_with fail
    refine d4.mono ?_
    rintro e Wd ⟨rfl, rfl⟩
    clear d4
    have d5 := dnew_bad n Wd (.inl hn)
    go_wp2_with fail
    refine d5.mono ?_
    rintro e We ⟨rfl, rfl⟩
    clear d5
    go_wp2
    go_ret
    exact ⟨rfl, HW9.out⟩
  · have HT : Hid3 (Below W1.heap.size W1 (((((W3.setCell ⟨W1.heap.size, 0, none⟩ (.int .u32 0)).setCell ⟨W1.heap.size, 1, none⟩ (.bool false)).setCell ⟨W1.heap.size, 2, none⟩ (.int .i64 0)).setCell ⟨W1.heap.size, 3, none⟩ (.int .i64 0)).setCell ⟨W1.heap.size, 4, none⟩ (.int .u8 0)) ∧ (((((W3.setCell ⟨W1.heap.size, 0, none⟩ (.int .u32 0)).setCell ⟨W1.heap.size, 1, none⟩ (.bool false)).setCell ⟨W1.heap.size, 2, none⟩ (.int .i64 0)).setCell ⟨W1.heap.size, 3, none⟩ (.int .i64 0)).setCell ⟨W1.heap.size, 4, none⟩ (.int .u8 0)).heap[W1.heap.size]? = some (.cells #[.int .u32 0, .bool false, .int .i64 0, .int .i64 0, .int .u8 0] 45)) := HW3
    have HBT : Hid3 (Below w.heap.size w (((((W3.setCell ⟨W1.heap.size, 0, none⟩ (.int .u32 0)).setCell ⟨W1.heap.size, 1, none⟩ (.bool false)).setCell ⟨W1.heap.size, 2, none⟩ (.int .i64 0)).setCell ⟨W1.heap.size, 3, none⟩ (.int .i64 0)).setCell ⟨W1.heap.size, 4, none⟩ (.int .u8 0))) := ⟨HB1.out.trans (HT.out.1.mono HB1.out.size)⟩
    have HXT : Hid3 ((((((W3.setCell ⟨W1.heap.size, 0, none⟩ (.int .u32 0)).setCell ⟨W1.heap.size, 1, none⟩ (.bool false)).setCell ⟨W1.heap.size, 2, none⟩ (.int .i64 0)).setCell ⟨W1.heap.size, 3, none⟩ (.int .i64 0)).setCell ⟨W1.heap.size, 4, none⟩ (.int .u8 0)).heap[w.heap.size]? = some (.cells #[.int .i64 k, .int .i64 i, .int .u32 r0, .bool r1, .int .i64 r2, .int .i64 r3, .int .u8 r4, bv] 60)) := ⟨(HT.out.1.block w.heap.size hz1).trans HX1.out⟩
    have HQT : Hid3 ((((((W3.setCell ⟨W1.heap.size, 0, none⟩ (.int .u32 0)).setCell ⟨W1.heap.size, 1, none⟩ (.bool false)).setCell ⟨W1.heap.size, 2, none⟩ (.int .i64 0)).setCell ⟨W1.heap.size, 3, none⟩ (.int .i64 0)).setCell ⟨W1.heap.size, 4, none⟩ (.int .u8 0)).heap[W1.heap.size]? = some (.cells #[.int .u32 0, .bool false, .int .i64 0, .int .i64 0, .int .u8 0] 45)) := ⟨HT.out.2⟩
    clear hS hSa hSb cN cD HT HW3 HB1 HX1 hz1 hB2 hB3 HB2 HB3 hS2 hS3 hq2 hq3 q0 q1 q2 q3 q4 qf hS3s
    generalize (((((W3.setCell ⟨W1.heap.size, 0, none⟩ (.int .u32 0)).setCell ⟨W1.heap.size, 1, none⟩ (.bool false)).setCell ⟨W1.heap.size, 2, none⟩ (.int .i64 0)).setCell ⟨W1.heap.size, 3, none⟩ (.int .i64 0)).setCell ⟨W1.heap.size, 4, none⟩ (.int .u8 0)) = WT at HBT HXT HQT ⊢
    generalize W1.heap.size = bz at HQT ⊢
    obtain ⟨y1, y2, y3, y4, y5, y6, y7⟩ := b8m HXT.out
    have c4 := sector_nil i WT
    go_wp2_with fail
    refine c4.mono ?_
    rintro e W4 ⟨rfl, rfl⟩
    clear c4
    have c5 := dnew_good 1 W4 (by decide) (by decide)
    go_wp2_with fail
    refine c5.mono ?_
    rintro e W5 ⟨rfl, _, hB5⟩
    clear c5
    have c6 := deliver_nil (some ⟨W4.heap.size + 1, 0, none⟩) none 0 W5 (.inr rfl)
    go_wp2_with fail
    refine c6.mono ?_
    rintro e W6 ⟨rfl, hB6⟩
    clear c6
    have hb6 : Below W4.heap.size W4 (W6.alloc (.cells #[.int .u32 0, .bool false, .int .i64 0, .int .i64 0, .int .u8 0] 45)) := (hB5.trans (hB6.mono hB5.size)).alloc (Nat.le_trans hB5.size hB6.size) _
    have c7 := dlive_any (W6.alloc (.cells #[.int .u32 0, .bool false, .int .i64 0, .int .i64 0, .int .u8 0] 45))
    go_wp2_with fail
    refine c7.mono ?_
    rintro e W7 ⟨rfl, hB7⟩
    clear c7
    have hb7 : Below W4.heap.size W4 W7 := hb6.trans (hB7.mono hb6.size)
    have hx7 := (hb7.block w.heap.size (Array.getElem?_eq_some_iff.1 HXT.out).1).trans HXT.out
    have hq7 := (hb7.block bz (Array.getElem?_eq_some_iff.1 HQT.out).1).trans HQT.out
    have HW7 : Hid3 (Below w.heap.size w W7) := ⟨HBT.out.trans (hb7.mono HBT.out.size)⟩
    have HX7 : Hid3 (W7.heap[w.heap.size]? = some (.cells #[.int .i64 k, .int .i64 i, .int .u32 r0, .bool r1, .int .i64 r2, .int .i64 r3, .int .u8 r4, bv] 60)) := ⟨hx7⟩
    clear y1 y2 y3 y4 y5 y6 y7
    obtain ⟨y1, y2, y3, y4, y5, y6, y7⟩ := b8m hx7
    obtain ⟨p0, p1, p2, p3, p4⟩ := b5m hq7
    have eG := eqGuardR
    have eM := eqR0
    have c8 := cancel_nil i W7
    clear hx7 hq7 hb7 hB7 hb6 hB5 hB6
    go_wp2_with fail
    refine c8.mono ?_
    rintro e W8 ⟨rfl, hB8⟩
    clear c8 eM eG p0 p1 p2 p3 p4 y1 y2 y3 y4 y5 y6 y7
    have hx8 := (hB8.block w.heap.size (Array.getElem?_eq_some_iff.1 HX7.out).1).trans HX7.out
    have HW8 : Hid3 (Below w.heap.size w W8) := ⟨HW7.out.trans (hB8.mono HW7.out.size)⟩
    have HX8 : Hid3 (W8.heap[w.heap.size]? = some (.cells #[.int .i64 k, .int .i64 i, .int .u32 r0, .bool r1, .int .i64 r2, .int .i64 r3, .int .u8 r4, bv] 60)) := ⟨hx8⟩
    obtain ⟨y1, y2, y3, y4, y5, y6, y7⟩ := b8m hx8
    have c9 := ddrop_nil r4 W8
    clear hx8 hB8
    go_wp2_with fail
    refine c9.mono ?_
    rintro e W9 ⟨rfl, hB9⟩
    clear c9 y1 y2 y3 y4 y5 y6 y7
    have hx9 := (hB9.block w.heap.size (Array.getElem?_eq_some_iff.1 HX8.out).1).trans HX8.out
    have HW9 : Hid3 (Below w.heap.size w W9) := ⟨HW8.out.trans (hB9.mono HW8.out.size)⟩
    obtain ⟨y1, y2, y3, y4, y5, y6, y7⟩ := b8m hx9
    have d1 := dset_nil i bv W9
    clear hx9 hB9
    go_wp2_with fail
    refine d1.mono ?_
    rintro e Wa ⟨rfl, rfl⟩
    clear d1
    have d2 := waiting_nil Wa
    go_wp2_with fail
    refine d2.mono ?_
    rintro e Wb ⟨rfl, rfl⟩
    clear d2
    have d3 := dsize_nil Wb
    go_wp2_with fail
    refine d3.mono ?_
    rintro e Wc ⟨rfl, rfl⟩
    clear d3
    have d4 := dfork_nil Wc
    go_wp2_with fail
    refine d4.mono ?_
    rintro e Wd ⟨rfl, rfl⟩
    clear d4
    have d5 := dnew_bad n Wd (.inl hn)
    go_wp2_with fail
    refine d5.mono ?_
    rintro e We ⟨rfl, rfl⟩
    clear d5
    go_wp2
    go_ret
    exact ⟨rfl, HW9.out⟩
end Go.Proofs.Ytcffjlokmdddcaa
