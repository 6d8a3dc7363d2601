/- Clear of both. -/
import Derived.Test.YtboelnkeejmjnaaRgK
namespace Go.Proofs.Ytboelnkeejmjnaa
open Go.RowKit Go.Maps
set_option linter.unusedVariables false
set_option maxRecDepth 100000
set_option maxHeartbeats 4000000 in
theorem clear_any (B b rc rf x : Nat) (q : St) (f g : Int) (w : World) (h : RgS B w b rc rf q) (hx : ¬ XR rc rf x) (c0 : w.cell? ⟨x, 0, none⟩ = some (.int .u8 f)) (c1 : w.cell? ⟨x, 1, none⟩ = some (.int .u8 g)) : Calls Try.prog 38 #[.pointer (some ⟨b, 0, none⟩), .slice (some ⟨x, 0, none⟩) 2 2] w fun r w' => r = .returned (.int .i64 (cn f g q 2)) ∧ StpS B w w' b rc rf (cq f g q 2) := by
  have H0 := Hid3.mk h
  have HC0 := Hid3.mk c0
  have HC1 := Hid3.mk c1
  clear h c0 c1
  go_enter Try.func38, Try.ntmps38
  go_wp2_with fail
  go_loopw [5, 12] (fun s5 s12 wr => ∃ k : Nat, k ≤ 2 ∧ s12 = .int .i64 k ∧ s5 = .int .i64 (cn f g q k) ∧ Hid3 (StpS B w wr b rc rf (cq f g q k))) (fun _ s _ => 2 - (intOf s).toNat)
  case atStart => exact ⟨0, by omega, rfl, rfl, ⟨RStp.same H0.out (Below.refl _ _)⟩⟩
  case round =>
    obtain ⟨k, hk, rfl, rfl, HS⟩ := hrel
    by_cases e0 : k = 0
    · subst e0
      have hcr : wr.cell? ⟨x, 0, none⟩ = some (.int .u8 f) := by
        rw [World.cell?_of_block (w := w) (HS.out.ap.block x (World.block_lt_of_cell? w _ HC0.out) hx)]
        exact HC0.out
      have cC := content_any B b rc rf _ _ f wr HS.out.a
      have cL := fun W (hW : RgS B W b rc rf (cq f g q 0)) => leave_any B b rc rf _ _ f (ctC (cq f g q 0).C f) W hW
      have hn := cn_le f g q 0
      have EQ : cq f g q 1 = if ctE (cq f g q 0).C f = 0 then (cq f g q 0).leave f (ctC (cq f g q 0).C f) else cq f g q 0 := rfl
      have EN : cn f g q 1 = cn f g q 0 + (if ctE (cq f g q 0).C f = 0 then 1 else 0) := rfl
      generalize cq f g q 0 = p at *
      generalize cn f g q 0 = n at *
      generalize ctC p.C f = cc at *
      generalize ctE p.C f = ce at *
      obtain ⟨cs, cb⟩ := cc
      have hwn : IntKind.i64.wrap (n + 1) = n + 1 := by rw [IntKind.wrap_i64]; omega
      by_cases h0 : ce = 0
      · subst h0
        rw [if_pos rfl] at EQ EN
        have hEQ := Hid3.mk EQ
        have hEN := Hid3.mk EN
        unfold cV at cC cL
        simp only at cL
        clear EQ EN
        go_wp2_with fail
        refine cC.mono ?_
        rintro r W ⟨rfl, hB⟩
        have hX := hB.trans ((below_new W (.cells #[.int .i64 cs, .bool cb] 56)).mono hB.size)
        have hS2 := RStp.trans HS.out (RStp.same HS.out.a hX)
        have cL2 := cL _ hS2.a
        have HS2 := Hid3.mk hS2
        have HC := Cl.new W 56 [.int .i64 cs, .bool cb]
        have y0 := HC.cell 0
        have y1 := HC.cell 1
        have yl := HC.lt
        simp only [List.getElem?_cons_zero, List.getElem?_cons_succ] at y0 y1
        clear hB cC cL hX hS2 HC
        go_wp2_with fail
        refine cL2.mono ?_
        rintro r W2 ⟨rfl, hS3⟩
        have HS3 : Hid3 (StpS B w W2 b rc rf (cq f g q 1)) := ⟨by rw [hEQ.out]; exact RStp.trans HS2.out hS3⟩
        clear cL2 hS3 HS2 y0 y1 yl
        go_wp2
        go_roundw
        case rel => exact ⟨1, by omega, by go_num, by rw [hEN.out], HS3⟩
        case measure => simp [intOf]
      · rw [if_neg h0] at EQ EN
        have hEQ := Hid3.mk EQ
        have hEN := Hid3.mk EN
        have hce : (ce == 0) = false := by simpa using h0
        unfold cV at cC
        clear EQ EN cL
        go_wp2_with fail
        refine cC.mono ?_
        rintro r W ⟨rfl, hB⟩
        have hX := hB.trans ((below_new W (.cells #[.int .i64 cs, .bool cb] 56)).mono hB.size)
        have HS3 : Hid3 (StpS B w (W.alloc (.cells #[.int .i64 cs, .bool cb] 56)) b rc rf (cq f g q 1)) := ⟨by rw [hEQ.out]; exact RStp.trans HS.out (RStp.same HS.out.a hX)⟩
        clear hB cC hX
        go_wp2
        go_roundw
        case rel => exact ⟨1, by omega, by go_num, by rw [hEN.out, Int.add_zero], HS3⟩
        case measure => simp [intOf]
    by_cases e1 : k = 1
    · subst e1
      have hcr : wr.cell? ⟨x, 1, none⟩ = some (.int .u8 g) := by
        rw [World.cell?_of_block (w := w) (HS.out.ap.block x (World.block_lt_of_cell? w _ HC1.out) hx)]
        exact HC1.out
      have cC := content_any B b rc rf _ _ g wr HS.out.a
      have cL := fun W (hW : RgS B W b rc rf (cq f g q 1)) => leave_any B b rc rf _ _ g (ctC (cq f g q 1).C g) W hW
      have hn := cn_le f g q 1
      have EQ : cq f g q 2 = if ctE (cq f g q 1).C g = 0 then (cq f g q 1).leave g (ctC (cq f g q 1).C g) else cq f g q 1 := rfl
      have EN : cn f g q 2 = cn f g q 1 + (if ctE (cq f g q 1).C g = 0 then 1 else 0) := rfl
      generalize cq f g q 1 = p at *
      generalize cn f g q 1 = n at *
      generalize ctC p.C g = cc at *
      generalize ctE p.C g = ce at *
      obtain ⟨cs, cb⟩ := cc
      have hwn : IntKind.i64.wrap (n + 1) = n + 1 := by rw [IntKind.wrap_i64]; omega
      by_cases h0 : ce = 0
      · subst h0
        rw [if_pos rfl] at EQ EN
        have hEQ := Hid3.mk EQ
        have hEN := Hid3.mk EN
        unfold cV at cC cL
        simp only at cL
        clear EQ EN
        go_wp2_with fail
        refine cC.mono ?_
        rintro r W ⟨rfl, hB⟩
        have hX := hB.trans ((below_new W (.cells #[.int .i64 cs, .bool cb] 56)).mono hB.size)
        have hS2 := RStp.trans HS.out (RStp.same HS.out.a hX)
        have cL2 := cL _ hS2.a
        have HS2 := Hid3.mk hS2
        have HC := Cl.new W 56 [.int .i64 cs, .bool cb]
        have y0 := HC.cell 0
        have y1 := HC.cell 1
        have yl := HC.lt
        simp only [List.getElem?_cons_zero, List.getElem?_cons_succ] at y0 y1
        clear hB cC cL hX hS2 HC
        go_wp2_with fail
        refine cL2.mono ?_
        rintro r W2 ⟨rfl, hS3⟩
        have HS3 : Hid3 (StpS B w W2 b rc rf (cq f g q 2)) := ⟨by rw [hEQ.out]; exact RStp.trans HS2.out hS3⟩
        clear cL2 hS3 HS2 y0 y1 yl
        go_wp2
        go_roundw
        case rel => exact ⟨2, by omega, by go_num, by rw [hEN.out], HS3⟩
        case measure => simp [intOf]
      · rw [if_neg h0] at EQ EN
        have hEQ := Hid3.mk EQ
        have hEN := Hid3.mk EN
        have hce : (ce == 0) = false := by simpa using h0
        unfold cV at cC
        clear EQ EN cL
        go_wp2_with fail
        refine cC.mono ?_
        rintro r W ⟨rfl, hB⟩
        have hX := hB.trans ((below_new W (.cells #[.int .i64 cs, .bool cb] 56)).mono hB.size)
        have HS3 : Hid3 (StpS B w (W.alloc (.cells #[.int .i64 cs, .bool cb] 56)) b rc rf (cq f g q 2)) := ⟨by rw [hEQ.out]; exact RStp.trans HS.out (RStp.same HS.out.a hX)⟩
        clear hB cC hX
        go_wp2
        go_roundw
        case rel => exact ⟨2, by omega, by go_num, by rw [hEN.out, Int.add_zero], HS3⟩
        case measure => simp [intOf]
    obtain rfl : k = 2 := by omega
    go_wp2
    go_ret
    exact ⟨rfl, HS.out⟩
set_option maxHeartbeats 4000000 in
theorem rclear_any (B b x : Nat) (q : St) (f g : Int) (w : World) (h : Rf B w b q.C) (hq : q.Ok) (f0 : 0 ≤ f) (g0 : 0 ≤ g) (hx : ¬ XB b x) (c0 : w.cell? ⟨x, 0, none⟩ = some (.int .u8 f)) (c1 : w.cell? ⟨x, 1, none⟩ = some (.int .u8 g)) : Calls Try.prog 39 #[.pointer (some ⟨b, 0, none⟩), .slice (some ⟨x, 0, none⟩) 2 2] w fun r w' => r = .returned (.int .i64 (cn f g q 2)) ∧ FStp B w w' b (cq f g q 2).C := by
  have H0 := Hid3.mk h
  have HQ := Hid3.mk hq
  have HC0 := Hid3.mk c0
  have HC1 := Hid3.mk c1
  have hxb : x ≠ b := fun e => hx e
  have hbx : b ≠ x := fun e => hx e.symm
  clear h c0 c1 hq
  go_enter Try.func39, Try.ntmps39
  go_wp2_with fail
  go_loopw [5, 6] (fun s5 s6 wr => ∃ k : Nat, k ≤ 2 ∧ s6 = .int .i64 k ∧ s5 = .int .i64 (cn f g q k) ∧ Hid3 (FStp B w wr b (cq f g q k).C)) (fun _ s _ => 2 - (intOf s).toNat)
  case atStart => exact ⟨0, by omega, rfl, rfl, ⟨FStp.same H0.out (Below.refl _ _)⟩⟩
  case round =>
    obtain ⟨k, hk, rfl, rfl, HS⟩ := hrel
    by_cases e0 : k = 0
    · subst e0
      have hcr : wr.cell? ⟨x, 0, none⟩ = some (.int .u8 f) := by
        rw [World.cell?_of_block (w := w) (HS.out.ap.block x (World.block_lt_of_cell? w _ HC0.out) hx)]
        exact HC0.out
      have hqk := cq_ok HQ.out f g 0
      have cC := rholds_any B b _ f wr HS.out.a hqk f0
      have hn := cn_le f g q 0
      have EQ : cq f g q 1 = if ctE (cq f g q 0).C f = 0 then (cq f g q 0).leave f (ctC (cq f g q 0).C f) else cq f g q 0 := rfl
      have EN : cn f g q 1 = cn f g q 0 + (if ctE (cq f g q 0).C f = 0 then 1 else 0) := rfl
      generalize cq f g q 0 = p at *
      generalize cn f g q 0 = n at *
      have hwn : IntKind.i64.wrap (n + 1) = n + 1 := by rw [IntKind.wrap_i64]; omega
      by_cases h0 : ctE p.C f = 0
      · obtain ⟨h6, c, hcf, hcc, _⟩ := ct_some hqk h0
        rw [if_pos h0] at EQ EN
        obtain ⟨i, hi⟩ := natOf f0
        have hi6 : i < 64 := by omega
        have hS := HS.out.a.set i hi6 none
        have HS3 : Hid3 (FStp B w ((wr.setCell ⟨b, i, none⟩ (.int .i64 0)).setCell ⟨b, 64 + i, none⟩ (.bool false)).drew b (cq f g q 1).C) := ⟨by rw [EQ, hi]; exact (FStp.trans HS.out hS).drew⟩
        have hEN := Hid3.mk EN
        have d0 := (HS.out.a.cs i hi6).1
        have d1 := (HS.out.a.cs i hi6).2
        have t0 := HS.out.a.f i
        have t1 := HS.out.a.f (64 + i)
        have hb := HS.out.a.lt
        generalize sV (p.C i) = vs at *
        generalize wV (p.C i) = vw at *
        rw [h0] at cC
        rw [hi] at cC hcr
        clear EQ EN hS hcf hcc h0 hi
        go_wp2_with fail
        refine cC.mono ?_
        rintro r W ⟨rfl, hW⟩
        rw [hW]
        clear hW cC
        go_wp2_with fail
        go_region
        go_wp2
        go_roundw
        case rel => exact ⟨1, by omega, by go_num, by rw [hEN.out], HS3⟩
        case measure => simp [intOf]
      · rw [if_neg h0] at EQ EN
        have hEN := Hid3.mk EN
        have hce : (ctE p.C f == 0) = false := by simpa using h0
        have HS3 : Hid3 (FStp B w wr b (cq f g q 1).C) := ⟨by rw [EQ]; exact HS.out⟩
        generalize ctE p.C f = ce at *
        clear EQ EN
        go_wp2_with fail
        refine cC.mono ?_
        rintro r W ⟨rfl, hW⟩
        rw [hW]
        clear cC hW
        go_wp2
        go_roundw
        case rel => exact ⟨1, by omega, by go_num, by rw [hEN.out, Int.add_zero], HS3⟩
        case measure => simp [intOf]
    by_cases e1 : k = 1
    · subst e1
      have hcr : wr.cell? ⟨x, 1, none⟩ = some (.int .u8 g) := by
        rw [World.cell?_of_block (w := w) (HS.out.ap.block x (World.block_lt_of_cell? w _ HC1.out) hx)]
        exact HC1.out
      have hqk := cq_ok HQ.out f g 1
      have cC := rholds_any B b _ g wr HS.out.a hqk g0
      have hn := cn_le f g q 1
      have EQ : cq f g q 2 = if ctE (cq f g q 1).C g = 0 then (cq f g q 1).leave g (ctC (cq f g q 1).C g) else cq f g q 1 := rfl
      have EN : cn f g q 2 = cn f g q 1 + (if ctE (cq f g q 1).C g = 0 then 1 else 0) := rfl
      generalize cq f g q 1 = p at *
      generalize cn f g q 1 = n at *
      have hwn : IntKind.i64.wrap (n + 1) = n + 1 := by rw [IntKind.wrap_i64]; omega
      by_cases h0 : ctE p.C g = 0
      · obtain ⟨h6, c, hcf, hcc, _⟩ := ct_some hqk h0
        rw [if_pos h0] at EQ EN
        obtain ⟨i, hi⟩ := natOf g0
        have hi6 : i < 64 := by omega
        have hS := HS.out.a.set i hi6 none
        have HS3 : Hid3 (FStp B w ((wr.setCell ⟨b, i, none⟩ (.int .i64 0)).setCell ⟨b, 64 + i, none⟩ (.bool false)).drew b (cq f g q 2).C) := ⟨by rw [EQ, hi]; exact (FStp.trans HS.out hS).drew⟩
        have hEN := Hid3.mk EN
        have d0 := (HS.out.a.cs i hi6).1
        have d1 := (HS.out.a.cs i hi6).2
        have t0 := HS.out.a.f i
        have t1 := HS.out.a.f (64 + i)
        have hb := HS.out.a.lt
        generalize sV (p.C i) = vs at *
        generalize wV (p.C i) = vw at *
        rw [h0] at cC
        rw [hi] at cC hcr
        clear EQ EN hS hcf hcc h0 hi
        go_wp2_with fail
        refine cC.mono ?_
        rintro r W ⟨rfl, hW⟩
        rw [hW]
        clear hW cC
        go_wp2_with fail
        go_region
        go_wp2
        go_roundw
        case rel => exact ⟨2, by omega, by go_num, by rw [hEN.out], HS3⟩
        case measure => simp [intOf]
      · rw [if_neg h0] at EQ EN
        have hEN := Hid3.mk EN
        have hce : (ctE p.C g == 0) = false := by simpa using h0
        have HS3 : Hid3 (FStp B w wr b (cq f g q 2).C) := ⟨by rw [EQ]; exact HS.out⟩
        generalize ctE p.C g = ce at *
        clear EQ EN
        go_wp2_with fail
        refine cC.mono ?_
        rintro r W ⟨rfl, hW⟩
        rw [hW]
        clear cC hW
        go_wp2
        go_roundw
        case rel => exact ⟨2, by omega, by go_num, by rw [hEN.out, Int.add_zero], HS3⟩
        case measure => simp [intOf]
    obtain rfl : k = 2 := by omega
    go_wp2
    go_ret
    exact ⟨rfl, HS.out⟩
end Go.Proofs.Ytboelnkeejmjnaa
