/- CpuJoins: where the first Run asks for something. -/
import Derived.Test.YtfdkkkjelalbjaaDoorLawCpuRuns
namespace Go.Proofs.YtfdkkkjelalbjaaDoor
open Go.RowKit
set_option linter.unusedVariables false
set_option maxRecDepth 100000
set_option maxHeartbeats 8000000 in
theorem cjoins_a (pc : Int) (r : Nat → Int) (v : Value) (bs : List UInt8) (x y : Int) (n m : Nat) (w : World) (hp : Wd pc) (hr : ∀ k, Wd (r k)) (hb : Bts w v bs) (hx : (IntKind.i64.wrap x).tmod 40 = n) (hy : (IntKind.i64.wrap y).tmod 40 = m) (hn : n < 40) (hm : m < 40) (q : Int) (s : Nat → Int) (x0 x1 x2 x3 x4 c : Int)
    (cA : ∀ v' W, Bts W v' (bs.take 400) → Calls Tryd.prog 5 #[rgV pc r, v', .int .i64 (n : Int)] W fun e w' => e = .returned (runV ((q, s), (x0, x1, x2, x3, x4), c)) ∧ Below W.heap.size W w')
    (cB : ∀ v' W, Bts W v' (bs.take 400) → Calls Tryd.prog 5 #[rgV pc r, v', .int .i64 ((n : Int) + (m : Int))] W fun e w' => e = .returned (runV ((q, s), (x0, x1, x2, x3, x4), c)) ∧ Below W.heap.size W w')
    (hz : (x0 != 0) = true) :
    Calls Tryd.prog 4 #[rgV pc r, v, .agg #[.int .u8 x, .int .u8 y]] w fun e w' => e = .returned (.bool true) ∧ Below w.heap.size w w' := by
  have cS := fun W (h : Bts W v bs) => short_any v bs W h
  have cV := clive_any
  have eR := fun w => eqRgs w q s
  have eG := eqGuardR
  have eA := fun w => eqAcc w (x0, x1, x2, x3, x4)
  have eH := eqGuardA
  have wnm : IntKind.i64.wrap ((n : Int) + (m : Int)) = (n : Int) + (m : Int) := by rw [IntKind.wrap_i64]; omega
  unfold runV at *
  unfold rgV accV at *
  simp only at cA cB eA
  have k0 := (Cel.new w #[.int .u16 pc, .int .u16 (r 0), .int .u16 (r 1), .int .u16 (r 2), .int .u16 (r 3), .int .u16 (r 4), .int .u16 (r 5), .int .u16 (r 6), .int .u16 (r 7)] 26).alloc (.cells #[.int .u8 x, .int .u8 y] 37)
  have km := Cel.new (w.alloc (.cells #[.int .u16 pc, .int .u16 (r 0), .int .u16 (r 1), .int .u16 (r 2), .int .u16 (r 3), .int .u16 (r 4), .int .u16 (r 5), .int .u16 (r 6), .int .u16 (r 7)] 26)) #[.int .u8 x, .int .u8 y] 37
  rw [World.size_alloc] at km
  have hb0 := nx (nx (Below.refl _ w) (.cells #[.int .u16 pc, .int .u16 (r 0), .int .u16 (r 1), .int .u16 (r 2), .int .u16 (r 3), .int .u16 (r 4), .int .u16 (r 5), .int .u16 (r 6), .int .u16 (r 7)] 26)) (.cells #[.int .u8 x, .int .u8 y] 37)
  have hs0e : ((w.alloc (.cells #[.int .u16 pc, .int .u16 (r 0), .int .u16 (r 1), .int .u16 (r 2), .int .u16 (r 3), .int .u16 (r 4), .int .u16 (r 5), .int .u16 (r 6), .int .u16 (r 7)] 26)).alloc (.cells #[.int .u8 x, .int .u8 y] 37)).heap.size = w.heap.size + 1 + 1 := by simp
  have hs0 := Nat.le_of_eq hs0e
  have hs0b := Nat.le_of_eq hs0e.symm
  clear hs0e
  have HB : Hid (Bts w v bs) := hb
  clear hb
  go_enter Tryd.func4, Tryd.ntmps4
  go_wp2_with fail
  generalize ((w.alloc (.cells #[.int .u16 pc, .int .u16 (r 0), .int .u16 (r 1), .int .u16 (r 2), .int .u16 (r 3), .int .u16 (r 4), .int .u16 (r 5), .int .u16 (r 6), .int .u16 (r 7)] 26)).alloc (.cells #[.int .u8 x, .int .u8 y] 37)) = W00 at *
  have y0 : W00.cell? ⟨w.heap.size + 1, 0, none⟩ = some (.int .u8 x) := km.c 0
  have y1 : W00.cell? ⟨w.heap.size + 1, 1, none⟩ = some (.int .u8 y) := km.c 1
  refine still_all (by kernel_rfl) (by kernel_rfl) ?_
  still_step
  still_step
  still_step
  still_step
  still_step
  still_step
  still_step
  still_step
  still_step
  still_step
  refine wpStill_nil ?_
  replace k0 := k0.drew
  replace hb0 := hb0.drew
  replace hs0 : W00.drew.heap.size ≤ w.heap.size + 1 + 1 := hs0
  replace hs0b : w.heap.size + 1 + 1 ≤ W00.drew.heap.size := hs0b
  clear y0 y1 km
  generalize W00.drew = W0 at *
  clear W00
  go_wp2_with fail
  go_cut [9, 10, 11] (fun sa sx sn wx => ∃ ba bx, sa = .pointer (some ⟨ba, 0, none⟩) ∧ sx = .pointer (some ⟨bx, 0, none⟩) ∧ sn = .int .i64 c ∧ Below W0.heap.size W0 wx ∧ W0.heap.size ≤ ba ∧ W0.heap.size ≤ bx ∧ Cel wx ba #[.int .u16 q, .int .u16 (s 0), .int .u16 (s 1), .int .u16 (s 2), .int .u16 (s 3), .int .u16 (s 4), .int .u16 (s 5), .int .u16 (s 6), .int .u16 (s 7)] 26 ∧ Cel wx bx #[.int .u8 x0, .int .u16 x1, .int .u16 x2, .int .u8 x3, .int .i64 x4] 31)
  case first =>
    have hS : Hid4 (∀ W', Below W0.heap.size W0 W' → W'.cell? ⟨w.heap.size, 0, none⟩ = some (.int .u16 pc) ∧ W'.cell? ⟨w.heap.size, 1, none⟩ = some (.int .u16 (r 0)) ∧ W'.cell? ⟨w.heap.size, 2, none⟩ = some (.int .u16 (r 1)) ∧ W'.cell? ⟨w.heap.size, 3, none⟩ = some (.int .u16 (r 2)) ∧ W'.cell? ⟨w.heap.size, 4, none⟩ = some (.int .u16 (r 3)) ∧ W'.cell? ⟨w.heap.size, 5, none⟩ = some (.int .u16 (r 4)) ∧ W'.cell? ⟨w.heap.size, 6, none⟩ = some (.int .u16 (r 5)) ∧ W'.cell? ⟨w.heap.size, 7, none⟩ = some (.int .u16 (r 6)) ∧ W'.cell? ⟨w.heap.size, 8, none⟩ = some (.int .u16 (r 7))) := ⟨fun W' hB => by
      have k := k0.below hB (by omega)
      exact ⟨k.c 0, k.c 1, k.c 2, k.c 3, k.c 4, k.c 5, k.c 6, k.c 7, k.c 8⟩⟩
    have HBd : Hid4 (∀ W', Below W0.heap.size W0 W' → Bts W' v bs) := ⟨fun W' hB => (HB.out.below hb0 (Nat.le_refl _)).below hB (Nat.le_refl _)⟩
    have z1 : w.heap.size ≠ W0.heap.size := by omega
    have z2 : w.heap.size ≠ W0.heap.size + 1 := by omega
    have F0 : Hid4 (Below W0.heap.size W0 W0.drew) := ⟨(Below.refl _ W0).drew⟩
    have G0 := Hid4.mk (cS W0.drew (HBd.out _ F0.out))
    have FA : Hid4 (Below W0.heap.size W0 (W0.alloc (.cells #[.int .u16 0, .int .u16 0, .int .u16 0, .int .u16 0, .int .u16 0, .int .u16 0, .int .u16 0, .int .u16 0, .int .u16 0] 26)).drew) := ⟨(bel_al (Below.refl _ W0) _).drew⟩
    have GA := Hid4.mk (cS (W0.alloc (.cells #[.int .u16 0, .int .u16 0, .int .u16 0, .int .u16 0, .int .u16 0, .int .u16 0, .int .u16 0, .int .u16 0, .int .u16 0] 26)).drew (HBd.out _ FA.out))
    have FX : Hid4 (Below W0.heap.size W0 (W0.alloc (.cells #[.int .u8 0, .int .u16 0, .int .u16 0, .int .u8 0, .int .i64 0] 31)).drew) := ⟨(bel_al (Below.refl _ W0) _).drew⟩
    have GX := Hid4.mk (cS (W0.alloc (.cells #[.int .u8 0, .int .u16 0, .int .u16 0, .int .u8 0, .int .i64 0] 31)).drew (HBd.out _ FX.out))
    have FAX : Hid4 (Below W0.heap.size W0 ((W0.alloc (.cells #[.int .u16 0, .int .u16 0, .int .u16 0, .int .u16 0, .int .u16 0, .int .u16 0, .int .u16 0, .int .u16 0, .int .u16 0] 26)).alloc (.cells #[.int .u8 0, .int .u16 0, .int .u16 0, .int .u8 0, .int .i64 0] 31)).drew) := ⟨(bel_al (bel_al (Below.refl _ W0) _) _).drew⟩
    have GAX := Hid4.mk (cS ((W0.alloc (.cells #[.int .u16 0, .int .u16 0, .int .u16 0, .int .u16 0, .int .u16 0, .int .u16 0, .int .u16 0, .int .u16 0, .int .u16 0] 26)).alloc (.cells #[.int .u8 0, .int .u16 0, .int .u16 0, .int .u8 0, .int .i64 0] 31)).drew (HBd.out _ FAX.out))
    have FXA : Hid4 (Below W0.heap.size W0 ((W0.alloc (.cells #[.int .u8 0, .int .u16 0, .int .u16 0, .int .u8 0, .int .i64 0] 31)).alloc (.cells #[.int .u16 0, .int .u16 0, .int .u16 0, .int .u16 0, .int .u16 0, .int .u16 0, .int .u16 0, .int .u16 0, .int .u16 0] 26)).drew) := ⟨(bel_al (bel_al (Below.refl _ W0) _) _).drew⟩
    have GXA := Hid4.mk (cS ((W0.alloc (.cells #[.int .u8 0, .int .u16 0, .int .u16 0, .int .u8 0, .int .i64 0] 31)).alloc (.cells #[.int .u16 0, .int .u16 0, .int .u16 0, .int .u16 0, .int .u16 0, .int .u16 0, .int .u16 0, .int .u16 0, .int .u16 0] 26)).drew (HBd.out _ FXA.out))
    clear cS
    go_region_held3 (fun w' => (w'.cell? ⟨w.heap.size, 0, none⟩ = some (.int .u16 pc) ∧ w'.cell? ⟨w.heap.size, 1, none⟩ = some (.int .u16 (r 0)) ∧ w'.cell? ⟨w.heap.size, 2, none⟩ = some (.int .u16 (r 1)) ∧ w'.cell? ⟨w.heap.size, 3, none⟩ = some (.int .u16 (r 2)) ∧ w'.cell? ⟨w.heap.size, 4, none⟩ = some (.int .u16 (r 3)) ∧ w'.cell? ⟨w.heap.size, 5, none⟩ = some (.int .u16 (r 4)) ∧ w'.cell? ⟨w.heap.size, 6, none⟩ = some (.int .u16 (r 5)) ∧ w'.cell? ⟨w.heap.size, 7, none⟩ = some (.int .u16 (r 6)) ∧ w'.cell? ⟨w.heap.size, 8, none⟩ = some (.int .u16 (r 7)))) (with_reducible (first | exact HS1.out | (refine hS.out _ ?_; repeat (first | exact F0.out | exact FA.out | exact FX.out | exact FAX.out | exact FXA.out | exact HB1.out | (refine bel_c9 ?_ _ (by first | omega | (simp; omega)) _ _ _ _ _ _ _ _ _) | (refine bel_c5 ?_ _ (by first | omega | (simp; omega)) _ _ _ _ _) | (refine bel_al ?_ _))))) ((first
      | (go_at_call 6; first | (with_reducible (refine G0.out.mono ?_); rintro e w' ⟨⟨v', rfl, hv'⟩, rfl⟩; have HV : Hid4 (∀ W, Bts W v bs → Bts W v' (bs.take 400)) := ⟨hv'⟩; clear hv') | (with_reducible (refine GA.out.mono ?_); rintro e w' ⟨⟨v', rfl, hv'⟩, rfl⟩; have HV : Hid4 (∀ W, Bts W v bs → Bts W v' (bs.take 400)) := ⟨hv'⟩; clear hv') | (with_reducible (refine GX.out.mono ?_); rintro e w' ⟨⟨v', rfl, hv'⟩, rfl⟩; have HV : Hid4 (∀ W, Bts W v bs → Bts W v' (bs.take 400)) := ⟨hv'⟩; clear hv') | (with_reducible (refine GAX.out.mono ?_); rintro e w' ⟨⟨v', rfl, hv'⟩, rfl⟩; have HV : Hid4 (∀ W, Bts W v bs → Bts W v' (bs.take 400)) := ⟨hv'⟩; clear hv') | (with_reducible (refine GXA.out.mono ?_); rintro e w' ⟨⟨v', rfl, hv'⟩, rfl⟩; have HV : Hid4 (∀ W, Bts W v bs → Bts W v' (bs.take 400)) := ⟨hv'⟩; clear hv'))
      | (go_at_call 5; first
        | (with_reducible (refine (cA _ W0.drew (HV.out _ (HBd.out _ F0.out))).mono ?_); rintro e W1 ⟨rfl, hB1⟩; have HB1 : Hid4 (Below W0.heap.size W0 W1) := ⟨bel_zero hB1⟩; have HS1 := Hid4.mk (hS.out _ HB1.out); have hz1 := HB1.out.size; obtain ⟨⟨ya0, ya1, ya2, ya3, ya4, ya5, ya6, ya7, ya8⟩, yaf⟩ := b9 ((Cel.new W1 #[.int .u16 0, .int .u16 0, .int .u16 0, .int .u16 0, .int .u16 0, .int .u16 0, .int .u16 0, .int .u16 0, .int .u16 0] 26).alloc (.cells #[.int .u8 0, .int .u16 0, .int .u16 0, .int .u8 0, .int .i64 0] 31)); obtain ⟨⟨yx0, yx1, yx2, yx3, yx4⟩, yxf⟩ := b5c ((Cel.new W1 #[.int .u8 0, .int .u16 0, .int .u16 0, .int .u8 0, .int .i64 0] 31).alloc (.cells #[.int .u16 0, .int .u16 0, .int .u16 0, .int .u16 0, .int .u16 0, .int .u16 0, .int .u16 0, .int .u16 0, .int .u16 0] 26)); clear hB1)
        | (with_reducible (refine (cA _ (W0.alloc (.cells #[.int .u16 0, .int .u16 0, .int .u16 0, .int .u16 0, .int .u16 0, .int .u16 0, .int .u16 0, .int .u16 0, .int .u16 0] 26)).drew (HV.out _ (HBd.out _ FA.out))).mono ?_); rintro e W1 ⟨rfl, hB1⟩; have HB1 : Hid4 (Below W0.heap.size W0 W1) := ⟨bel_one hB1⟩; have HS1 := Hid4.mk (hS.out _ HB1.out); have hz1 := HB1.out.size; have hq := cel_one hB1; have zz := cel_lt hq; obtain ⟨⟨ya0, ya1, ya2, ya3, ya4, ya5, ya6, ya7, ya8⟩, yaf⟩ := b9 hq; obtain ⟨⟨yb0, yb1, yb2, yb3, yb4, yb5, yb6, yb7, yb8⟩, ybf⟩ := b9 (hq.alloc (.cells #[.int .u8 0, .int .u16 0, .int .u16 0, .int .u8 0, .int .i64 0] 31)); clear hB1)
        | (with_reducible (refine (cA _ (W0.alloc (.cells #[.int .u8 0, .int .u16 0, .int .u16 0, .int .u8 0, .int .i64 0] 31)).drew (HV.out _ (HBd.out _ FX.out))).mono ?_); rintro e W1 ⟨rfl, hB1⟩; have HB1 : Hid4 (Below W0.heap.size W0 W1) := ⟨bel_one hB1⟩; have HS1 := Hid4.mk (hS.out _ HB1.out); have hz1 := HB1.out.size; have hq := cel_one hB1; have zz := cel_lt hq; obtain ⟨⟨yx0, yx1, yx2, yx3, yx4⟩, yxf⟩ := b5c hq; obtain ⟨⟨yz0, yz1, yz2, yz3, yz4⟩, yzf⟩ := b5c (hq.alloc (.cells #[.int .u16 0, .int .u16 0, .int .u16 0, .int .u16 0, .int .u16 0, .int .u16 0, .int .u16 0, .int .u16 0, .int .u16 0] 26)); clear hB1)
        | (with_reducible (refine (cA _ ((W0.alloc (.cells #[.int .u16 0, .int .u16 0, .int .u16 0, .int .u16 0, .int .u16 0, .int .u16 0, .int .u16 0, .int .u16 0, .int .u16 0] 26)).alloc (.cells #[.int .u8 0, .int .u16 0, .int .u16 0, .int .u8 0, .int .i64 0] 31)).drew (HV.out _ (HBd.out _ FAX.out))).mono ?_); rintro e W1 ⟨rfl, hB1⟩; have HB1 : Hid4 (Below W0.heap.size W0 W1) := ⟨bel_two hB1⟩; have HS1 := Hid4.mk (hS.out _ HB1.out); have hz1 := HB1.out.size; obtain ⟨hqa, hqx⟩ := cel_two hB1; have zz := cel_lt hqa; have zy := cel_lt hqx; obtain ⟨⟨ya0, ya1, ya2, ya3, ya4, ya5, ya6, ya7, ya8⟩, yaf⟩ := b9 hqa; obtain ⟨⟨yx0, yx1, yx2, yx3, yx4⟩, yxf⟩ := b5c hqx; clear hB1)
        | (with_reducible (refine (cA _ ((W0.alloc (.cells #[.int .u8 0, .int .u16 0, .int .u16 0, .int .u8 0, .int .i64 0] 31)).alloc (.cells #[.int .u16 0, .int .u16 0, .int .u16 0, .int .u16 0, .int .u16 0, .int .u16 0, .int .u16 0, .int .u16 0, .int .u16 0] 26)).drew (HV.out _ (HBd.out _ FXA.out))).mono ?_); rintro e W1 ⟨rfl, hB1⟩; have HB1 : Hid4 (Below W0.heap.size W0 W1) := ⟨bel_two hB1⟩; have HS1 := Hid4.mk (hS.out _ HB1.out); have hz1 := HB1.out.size; obtain ⟨hqx, hqa⟩ := cel_two hB1; have zz := cel_lt hqx; have zy := cel_lt hqa; obtain ⟨⟨ya0, ya1, ya2, ya3, ya4, ya5, ya6, ya7, ya8⟩, yaf⟩ := b9 hqa; obtain ⟨⟨yx0, yx1, yx2, yx3, yx4⟩, yxf⟩ := b5c hqx; clear hB1))))
    all_goals (go_wp2_with fail)
    all_goals go_meet
    all_goals (refine ⟨_, _, rfl, rfl, rfl, ?_, ?_, ?_, ?_, ?_⟩)
    all_goals first | omega | (with_reducible (repeat (first | exact HB1.out | (refine bel_c9 ?_ _ (by first | omega | (simp; omega)) _ _ _ _ _ _ _ _ _) | (refine bel_c5 ?_ _ (by first | omega | (simp; omega)) _ _ _ _ _) | (refine bel_al ?_ _))); done) | (first | (with_reducible exact cel_nb (by first | rfl | (simp; done))) | (with_reducible exact Cel.alloc (cel_nb (by first | rfl | (simp; done))) _) | (with_reducible exact Cel.alloc (Cel.set9 hq _ _ _ _ _ _ _ _ _) _) | (with_reducible exact Cel.alloc (Cel.set5 hq _ _ _ _ _) _) | (with_reducible exact Cel.set5o (Cel.set9 hqa _ _ _ _ _ _ _ _ _) (by omega) _ _ _ _ _) | (with_reducible exact Cel.set5 (Cel.set9o hqx (by omega) _ _ _ _ _ _ _ _ _) _ _ _ _ _) | (with_reducible exact Cel.set9 (Cel.set5o hqa (by omega) _ _ _ _ _) _ _ _ _ _ _ _ _ _) | (with_reducible exact Cel.set9o (Cel.set5 hqx _ _ _ _ _) (by omega) _ _ _ _ _ _ _ _ _))
  case rest =>
  obtain ⟨ca, cx, rfl, rfl, rfl, hB1, la, lx, ka, kx⟩ := hcut
  obtain ⟨W2, hW⟩ : ∃ W, W = wc := ⟨_, rfl⟩
  subst hW
  have hs1 := hB1.size
  have hb2 := hb0.trans (hB1.mono hb0.size)
  have ma := cel_lt ka
  have mx := cel_lt kx
  replace k0 := k0.below hB1 (by omega)
  clear hb0 hB1 cA
  go_wp2_with fail
  go_cut [12, 13, 14] (fun sa sx sn wx => ∃ ba bx, sa = .pointer (some ⟨ba, 0, none⟩) ∧ sx = .pointer (some ⟨bx, 0, none⟩) ∧ sn = .int .i64 c ∧ Below W2.heap.size W2 wx ∧ W2.heap.size ≤ ba ∧ W2.heap.size ≤ bx ∧ Cel wx ba #[.int .u16 q, .int .u16 (s 0), .int .u16 (s 1), .int .u16 (s 2), .int .u16 (s 3), .int .u16 (s 4), .int .u16 (s 5), .int .u16 (s 6), .int .u16 (s 7)] 26 ∧ Cel wx bx #[.int .u8 x0, .int .u16 x1, .int .u16 x2, .int .u8 x3, .int .i64 x4] 31)
  case first =>
    have hS : Hid4 (∀ W', Below W2.heap.size W2 W' → W'.cell? ⟨w.heap.size, 0, none⟩ = some (.int .u16 pc) ∧ W'.cell? ⟨w.heap.size, 1, none⟩ = some (.int .u16 (r 0)) ∧ W'.cell? ⟨w.heap.size, 2, none⟩ = some (.int .u16 (r 1)) ∧ W'.cell? ⟨w.heap.size, 3, none⟩ = some (.int .u16 (r 2)) ∧ W'.cell? ⟨w.heap.size, 4, none⟩ = some (.int .u16 (r 3)) ∧ W'.cell? ⟨w.heap.size, 5, none⟩ = some (.int .u16 (r 4)) ∧ W'.cell? ⟨w.heap.size, 6, none⟩ = some (.int .u16 (r 5)) ∧ W'.cell? ⟨w.heap.size, 7, none⟩ = some (.int .u16 (r 6)) ∧ W'.cell? ⟨w.heap.size, 8, none⟩ = some (.int .u16 (r 7))) := ⟨fun W' hB => by
      have k := k0.below hB (by omega)
      exact ⟨k.c 0, k.c 1, k.c 2, k.c 3, k.c 4, k.c 5, k.c 6, k.c 7, k.c 8⟩⟩
    have HBd : Hid4 (∀ W', Below W2.heap.size W2 W' → Bts W' v bs) := ⟨fun W' hB => (HB.out.below hb2 (Nat.le_refl _)).below hB (Nat.le_refl _)⟩
    have z1 : w.heap.size ≠ W2.heap.size := by omega
    have z2 : w.heap.size ≠ W2.heap.size + 1 := by omega
    have F0 : Hid4 (Below W2.heap.size W2 W2.drew) := ⟨(Below.refl _ W2).drew⟩
    have G0 := Hid4.mk (cS W2.drew (HBd.out _ F0.out))
    have FA : Hid4 (Below W2.heap.size W2 (W2.alloc (.cells #[.int .u16 0, .int .u16 0, .int .u16 0, .int .u16 0, .int .u16 0, .int .u16 0, .int .u16 0, .int .u16 0, .int .u16 0] 26)).drew) := ⟨(bel_al (Below.refl _ W2) _).drew⟩
    have GA := Hid4.mk (cS (W2.alloc (.cells #[.int .u16 0, .int .u16 0, .int .u16 0, .int .u16 0, .int .u16 0, .int .u16 0, .int .u16 0, .int .u16 0, .int .u16 0] 26)).drew (HBd.out _ FA.out))
    have FX : Hid4 (Below W2.heap.size W2 (W2.alloc (.cells #[.int .u8 0, .int .u16 0, .int .u16 0, .int .u8 0, .int .i64 0] 31)).drew) := ⟨(bel_al (Below.refl _ W2) _).drew⟩
    have GX := Hid4.mk (cS (W2.alloc (.cells #[.int .u8 0, .int .u16 0, .int .u16 0, .int .u8 0, .int .i64 0] 31)).drew (HBd.out _ FX.out))
    have FAX : Hid4 (Below W2.heap.size W2 ((W2.alloc (.cells #[.int .u16 0, .int .u16 0, .int .u16 0, .int .u16 0, .int .u16 0, .int .u16 0, .int .u16 0, .int .u16 0, .int .u16 0] 26)).alloc (.cells #[.int .u8 0, .int .u16 0, .int .u16 0, .int .u8 0, .int .i64 0] 31)).drew) := ⟨(bel_al (bel_al (Below.refl _ W2) _) _).drew⟩
    have GAX := Hid4.mk (cS ((W2.alloc (.cells #[.int .u16 0, .int .u16 0, .int .u16 0, .int .u16 0, .int .u16 0, .int .u16 0, .int .u16 0, .int .u16 0, .int .u16 0] 26)).alloc (.cells #[.int .u8 0, .int .u16 0, .int .u16 0, .int .u8 0, .int .i64 0] 31)).drew (HBd.out _ FAX.out))
    have FXA : Hid4 (Below W2.heap.size W2 ((W2.alloc (.cells #[.int .u8 0, .int .u16 0, .int .u16 0, .int .u8 0, .int .i64 0] 31)).alloc (.cells #[.int .u16 0, .int .u16 0, .int .u16 0, .int .u16 0, .int .u16 0, .int .u16 0, .int .u16 0, .int .u16 0, .int .u16 0] 26)).drew) := ⟨(bel_al (bel_al (Below.refl _ W2) _) _).drew⟩
    have GXA := Hid4.mk (cS ((W2.alloc (.cells #[.int .u8 0, .int .u16 0, .int .u16 0, .int .u8 0, .int .i64 0] 31)).alloc (.cells #[.int .u16 0, .int .u16 0, .int .u16 0, .int .u16 0, .int .u16 0, .int .u16 0, .int .u16 0, .int .u16 0, .int .u16 0] 26)).drew (HBd.out _ FXA.out))
    clear cS
    go_region_held3 (fun w' => (w'.cell? ⟨w.heap.size, 0, none⟩ = some (.int .u16 pc) ∧ w'.cell? ⟨w.heap.size, 1, none⟩ = some (.int .u16 (r 0)) ∧ w'.cell? ⟨w.heap.size, 2, none⟩ = some (.int .u16 (r 1)) ∧ w'.cell? ⟨w.heap.size, 3, none⟩ = some (.int .u16 (r 2)) ∧ w'.cell? ⟨w.heap.size, 4, none⟩ = some (.int .u16 (r 3)) ∧ w'.cell? ⟨w.heap.size, 5, none⟩ = some (.int .u16 (r 4)) ∧ w'.cell? ⟨w.heap.size, 6, none⟩ = some (.int .u16 (r 5)) ∧ w'.cell? ⟨w.heap.size, 7, none⟩ = some (.int .u16 (r 6)) ∧ w'.cell? ⟨w.heap.size, 8, none⟩ = some (.int .u16 (r 7)))) (with_reducible (first | exact HS1.out | (refine hS.out _ ?_; repeat (first | exact F0.out | exact FA.out | exact FX.out | exact FAX.out | exact FXA.out | exact HB1.out | (refine bel_c9 ?_ _ (by first | omega | (simp; omega)) _ _ _ _ _ _ _ _ _) | (refine bel_c5 ?_ _ (by first | omega | (simp; omega)) _ _ _ _ _) | (refine bel_al ?_ _))))) ((first
      | (go_at_call 6; first | (with_reducible (refine G0.out.mono ?_); rintro e w' ⟨⟨v', rfl, hv'⟩, rfl⟩; have HV : Hid4 (∀ W, Bts W v bs → Bts W v' (bs.take 400)) := ⟨hv'⟩; clear hv') | (with_reducible (refine GA.out.mono ?_); rintro e w' ⟨⟨v', rfl, hv'⟩, rfl⟩; have HV : Hid4 (∀ W, Bts W v bs → Bts W v' (bs.take 400)) := ⟨hv'⟩; clear hv') | (with_reducible (refine GX.out.mono ?_); rintro e w' ⟨⟨v', rfl, hv'⟩, rfl⟩; have HV : Hid4 (∀ W, Bts W v bs → Bts W v' (bs.take 400)) := ⟨hv'⟩; clear hv') | (with_reducible (refine GAX.out.mono ?_); rintro e w' ⟨⟨v', rfl, hv'⟩, rfl⟩; have HV : Hid4 (∀ W, Bts W v bs → Bts W v' (bs.take 400)) := ⟨hv'⟩; clear hv') | (with_reducible (refine GXA.out.mono ?_); rintro e w' ⟨⟨v', rfl, hv'⟩, rfl⟩; have HV : Hid4 (∀ W, Bts W v bs → Bts W v' (bs.take 400)) := ⟨hv'⟩; clear hv'))
      | (go_at_call 5; first
        | (with_reducible (refine (cB _ W2.drew (HV.out _ (HBd.out _ F0.out))).mono ?_); rintro e W3 ⟨rfl, hB1⟩; have HB1 : Hid4 (Below W2.heap.size W2 W3) := ⟨bel_zero hB1⟩; have HS1 := Hid4.mk (hS.out _ HB1.out); have hz1 := HB1.out.size; obtain ⟨⟨ya0, ya1, ya2, ya3, ya4, ya5, ya6, ya7, ya8⟩, yaf⟩ := b9 ((Cel.new W3 #[.int .u16 0, .int .u16 0, .int .u16 0, .int .u16 0, .int .u16 0, .int .u16 0, .int .u16 0, .int .u16 0, .int .u16 0] 26).alloc (.cells #[.int .u8 0, .int .u16 0, .int .u16 0, .int .u8 0, .int .i64 0] 31)); obtain ⟨⟨yx0, yx1, yx2, yx3, yx4⟩, yxf⟩ := b5c ((Cel.new W3 #[.int .u8 0, .int .u16 0, .int .u16 0, .int .u8 0, .int .i64 0] 31).alloc (.cells #[.int .u16 0, .int .u16 0, .int .u16 0, .int .u16 0, .int .u16 0, .int .u16 0, .int .u16 0, .int .u16 0, .int .u16 0] 26)); clear hB1)
        | (with_reducible (refine (cB _ (W2.alloc (.cells #[.int .u16 0, .int .u16 0, .int .u16 0, .int .u16 0, .int .u16 0, .int .u16 0, .int .u16 0, .int .u16 0, .int .u16 0] 26)).drew (HV.out _ (HBd.out _ FA.out))).mono ?_); rintro e W3 ⟨rfl, hB1⟩; have HB1 : Hid4 (Below W2.heap.size W2 W3) := ⟨bel_one hB1⟩; have HS1 := Hid4.mk (hS.out _ HB1.out); have hz1 := HB1.out.size; have hq := cel_one hB1; have zz := cel_lt hq; obtain ⟨⟨ya0, ya1, ya2, ya3, ya4, ya5, ya6, ya7, ya8⟩, yaf⟩ := b9 hq; obtain ⟨⟨yb0, yb1, yb2, yb3, yb4, yb5, yb6, yb7, yb8⟩, ybf⟩ := b9 (hq.alloc (.cells #[.int .u8 0, .int .u16 0, .int .u16 0, .int .u8 0, .int .i64 0] 31)); clear hB1)
        | (with_reducible (refine (cB _ (W2.alloc (.cells #[.int .u8 0, .int .u16 0, .int .u16 0, .int .u8 0, .int .i64 0] 31)).drew (HV.out _ (HBd.out _ FX.out))).mono ?_); rintro e W3 ⟨rfl, hB1⟩; have HB1 : Hid4 (Below W2.heap.size W2 W3) := ⟨bel_one hB1⟩; have HS1 := Hid4.mk (hS.out _ HB1.out); have hz1 := HB1.out.size; have hq := cel_one hB1; have zz := cel_lt hq; obtain ⟨⟨yx0, yx1, yx2, yx3, yx4⟩, yxf⟩ := b5c hq; obtain ⟨⟨yz0, yz1, yz2, yz3, yz4⟩, yzf⟩ := b5c (hq.alloc (.cells #[.int .u16 0, .int .u16 0, .int .u16 0, .int .u16 0, .int .u16 0, .int .u16 0, .int .u16 0, .int .u16 0, .int .u16 0] 26)); clear hB1)
        | (with_reducible (refine (cB _ ((W2.alloc (.cells #[.int .u16 0, .int .u16 0, .int .u16 0, .int .u16 0, .int .u16 0, .int .u16 0, .int .u16 0, .int .u16 0, .int .u16 0] 26)).alloc (.cells #[.int .u8 0, .int .u16 0, .int .u16 0, .int .u8 0, .int .i64 0] 31)).drew (HV.out _ (HBd.out _ FAX.out))).mono ?_); rintro e W3 ⟨rfl, hB1⟩; have HB1 : Hid4 (Below W2.heap.size W2 W3) := ⟨bel_two hB1⟩; have HS1 := Hid4.mk (hS.out _ HB1.out); have hz1 := HB1.out.size; obtain ⟨hqa, hqx⟩ := cel_two hB1; have zz := cel_lt hqa; have zy := cel_lt hqx; obtain ⟨⟨ya0, ya1, ya2, ya3, ya4, ya5, ya6, ya7, ya8⟩, yaf⟩ := b9 hqa; obtain ⟨⟨yx0, yx1, yx2, yx3, yx4⟩, yxf⟩ := b5c hqx; clear hB1)
        | (with_reducible (refine (cB _ ((W2.alloc (.cells #[.int .u8 0, .int .u16 0, .int .u16 0, .int .u8 0, .int .i64 0] 31)).alloc (.cells #[.int .u16 0, .int .u16 0, .int .u16 0, .int .u16 0, .int .u16 0, .int .u16 0, .int .u16 0, .int .u16 0, .int .u16 0] 26)).drew (HV.out _ (HBd.out _ FXA.out))).mono ?_); rintro e W3 ⟨rfl, hB1⟩; have HB1 : Hid4 (Below W2.heap.size W2 W3) := ⟨bel_two hB1⟩; have HS1 := Hid4.mk (hS.out _ HB1.out); have hz1 := HB1.out.size; obtain ⟨hqx, hqa⟩ := cel_two hB1; have zz := cel_lt hqx; have zy := cel_lt hqa; obtain ⟨⟨ya0, ya1, ya2, ya3, ya4, ya5, ya6, ya7, ya8⟩, yaf⟩ := b9 hqa; obtain ⟨⟨yx0, yx1, yx2, yx3, yx4⟩, yxf⟩ := b5c hqx; clear hB1))))
    all_goals (go_wp2_with fail)
    all_goals go_meet
    all_goals (refine ⟨_, _, rfl, rfl, rfl, ?_, ?_, ?_, ?_, ?_⟩)
    all_goals first | omega | (with_reducible (repeat (first | exact HB1.out | (refine bel_c9 ?_ _ (by first | omega | (simp; omega)) _ _ _ _ _ _ _ _ _) | (refine bel_c5 ?_ _ (by first | omega | (simp; omega)) _ _ _ _ _) | (refine bel_al ?_ _))); done) | (first | (with_reducible exact cel_nb (by first | rfl | (simp; done))) | (with_reducible exact Cel.alloc (cel_nb (by first | rfl | (simp; done))) _) | (with_reducible exact Cel.alloc (Cel.set9 hq _ _ _ _ _ _ _ _ _) _) | (with_reducible exact Cel.alloc (Cel.set5 hq _ _ _ _ _) _) | (with_reducible exact Cel.set5o (Cel.set9 hqa _ _ _ _ _ _ _ _ _) (by omega) _ _ _ _ _) | (with_reducible exact Cel.set5 (Cel.set9o hqx (by omega) _ _ _ _ _ _ _ _ _) _ _ _ _ _) | (with_reducible exact Cel.set9 (Cel.set5o hqa (by omega) _ _ _ _ _) _ _ _ _ _ _ _ _ _) | (with_reducible exact Cel.set9o (Cel.set5 hqx _ _ _ _ _) (by omega) _ _ _ _ _ _ _ _ _))
  case rest =>
  obtain ⟨cb, cy, rfl, rfl, rfl, hB3, lb, ly, kb, ky⟩ := hcut
  obtain ⟨W4, hW⟩ : ∃ W, W = wc := ⟨_, rfl⟩
  subst hW
  have hs3 := hB3.size
  have hb4 := hb2.trans (hB3.mono hb2.size)
  have mb := cel_lt kb
  have my := cel_lt ky
  replace ka := ka.below hB3 (by omega)
  replace kx := kx.below hB3 (by omega)
  clear hb2 hB3 cB k0
  have l6 : W4.cell? ⟨cx, 0, none⟩ = some (.int .u8 x0) := kx.c 0
  go_wp2_with fail
  refine (cV _).mono ?_
  rintro e1 W5 ⟨rfl, hB5⟩
  have hs5 := hB5.size
  replace ka := ka.below hB5 (by omega)
  replace kx := kx.below hB5 (by omega)
  replace kb := kb.below hB5 (by omega)
  replace ky := ky.below hB5 (by omega)
  have hb5 := hb4.trans (hB5.mono hb4.size)
  have p0 : W5.cell? ⟨ca, 0, none⟩ = some (.int .u16 q) := ka.c 0
  have p1 : W5.cell? ⟨ca, 1, none⟩ = some (.int .u16 (s 0)) := ka.c 1
  have p2 : W5.cell? ⟨ca, 2, none⟩ = some (.int .u16 (s 1)) := ka.c 2
  have p3 : W5.cell? ⟨ca, 3, none⟩ = some (.int .u16 (s 2)) := ka.c 3
  have p4 : W5.cell? ⟨ca, 4, none⟩ = some (.int .u16 (s 3)) := ka.c 4
  have p5 : W5.cell? ⟨ca, 5, none⟩ = some (.int .u16 (s 4)) := ka.c 5
  have p6 : W5.cell? ⟨ca, 6, none⟩ = some (.int .u16 (s 5)) := ka.c 6
  have p7 : W5.cell? ⟨ca, 7, none⟩ = some (.int .u16 (s 6)) := ka.c 7
  have p8 : W5.cell? ⟨ca, 8, none⟩ = some (.int .u16 (s 7)) := ka.c 8
  have i0 : W5.cell? ⟨cx, 0, none⟩ = some (.int .u8 x0) := kx.c 0
  have i1 : W5.cell? ⟨cx, 1, none⟩ = some (.int .u16 x1) := kx.c 1
  have i2 : W5.cell? ⟨cx, 2, none⟩ = some (.int .u16 x2) := kx.c 2
  have i3 : W5.cell? ⟨cx, 3, none⟩ = some (.int .u8 x3) := kx.c 3
  have i4 : W5.cell? ⟨cx, 4, none⟩ = some (.int .i64 x4) := kx.c 4
  have f0 : W5.cell? ⟨cb, 0, none⟩ = some (.int .u16 q) := kb.c 0
  have f1 : W5.cell? ⟨cb, 1, none⟩ = some (.int .u16 (s 0)) := kb.c 1
  have f2 : W5.cell? ⟨cb, 2, none⟩ = some (.int .u16 (s 1)) := kb.c 2
  have f3 : W5.cell? ⟨cb, 3, none⟩ = some (.int .u16 (s 2)) := kb.c 3
  have f4 : W5.cell? ⟨cb, 4, none⟩ = some (.int .u16 (s 3)) := kb.c 4
  have f5 : W5.cell? ⟨cb, 5, none⟩ = some (.int .u16 (s 4)) := kb.c 5
  have f6 : W5.cell? ⟨cb, 6, none⟩ = some (.int .u16 (s 5)) := kb.c 6
  have f7 : W5.cell? ⟨cb, 7, none⟩ = some (.int .u16 (s 6)) := kb.c 7
  have f8 : W5.cell? ⟨cb, 8, none⟩ = some (.int .u16 (s 7)) := kb.c 8
  have t0 : W5.cell? ⟨cy, 0, none⟩ = some (.int .u8 x0) := ky.c 0
  have t1 : W5.cell? ⟨cy, 1, none⟩ = some (.int .u16 x1) := ky.c 1
  have t2 : W5.cell? ⟨cy, 2, none⟩ = some (.int .u16 x2) := ky.c 2
  have t3 : W5.cell? ⟨cy, 3, none⟩ = some (.int .u8 x3) := ky.c 3
  have t4 : W5.cell? ⟨cy, 4, none⟩ = some (.int .i64 x4) := ky.c 4
  clear ka kx kb ky
  go_wp2
  go_ret
  exact ⟨rfl, hb5⟩
end Go.Proofs.YtfdkkkjelalbjaaDoor
