/- Both: a deed: Cancel, Drop. -/
import Derived.Test.YtlnjpgcaciemnaaDevZ
namespace Go.Proofs.Ytlnjpgcaciemnaa
open Go.RowKit Go.Maps
set_option linter.unusedVariables false
set_option maxRecDepth 100000
set_option maxHeartbeats 8000000 in
theorem ddo_2 (B B0 : Nat) (db sb mb rb og rmb rg : Nat) (v u : Value) (z : Sd) (i r0 : Int) (r1 : Bool) (r2 r3 r4 : Int) (dv : Value) (bs : List Int) (w : World) (h : Two B w db sb mb rb og rmb rg v u z) (hB : B ≤ w.heap.size) (hd : Byts B0 w dv bs) (hB0 : B0 ≤ B) (hla : z.last < 1000000) : Calls Try.prog 23 #[.agg #[.pointer (some ⟨db, 0, none⟩), .pointer (some ⟨mb, 0, none⟩), .pointer (some ⟨rb, 0, none⟩), .pointer (some ⟨rmb, 0, none⟩)], .agg #[.int .i64 2, .int .i64 i, .int .u32 r0, .bool r1, .int .i64 r2, .int .i64 r3, .int .u8 r4, dv]] w fun e w' => e = .returned (.bool true) ∧ (∃ v' u', Two B w' db sb mb rb og rmb rg v' u' (ddS z ⟨2, i, r0, r1, r2, r3, r4, dv, bs⟩)) ∧ Bw B w w' := by
  have hq1 := ddS_q h.q h.p.d.la.1 ⟨2, i, r0, r1, r2, r3, r4, dv, bs⟩
  rw [show ddS z ⟨2, i, r0, r1, r2, r3, r4, dv, bs⟩ = { z with Q := outQ (fun r => decide (r.2.2.2.1 = i)) z.Q } from rfl] at hq1 ⊢
  have hb0 : Below w.heap.size w ((w.alloc (.cells #[.pointer (some ⟨db, 0, none⟩), .pointer (some ⟨mb, 0, none⟩), .pointer (some ⟨rb, 0, none⟩), .pointer (some ⟨rmb, 0, none⟩)] 28)).alloc (.cells #[.int .i64 2, .int .i64 i, .int .u32 r0, .bool r1, .int .i64 r2, .int .i64 r3, .int .u8 r4, dv] 60)).drew := (((Below.refl _ w).alloc (Nat.le_refl _) _).alloc (by simp) _).drew
  have hX0 : ((w.alloc (.cells #[.pointer (some ⟨db, 0, none⟩), .pointer (some ⟨mb, 0, none⟩), .pointer (some ⟨rb, 0, none⟩), .pointer (some ⟨rmb, 0, none⟩)] 28)).alloc (.cells #[.int .i64 2, .int .i64 i, .int .u32 r0, .bool r1, .int .i64 r2, .int .i64 r3, .int .u8 r4, dv] 60)).drew.heap[w.heap.size]? = some (.cells #[.pointer (some ⟨db, 0, none⟩), .pointer (some ⟨mb, 0, none⟩), .pointer (some ⟨rb, 0, none⟩), .pointer (some ⟨rmb, 0, none⟩)] 28) := (Lib.alloc_old _ _ _ (by simp)).trans (heap_alloc_last w _)
  have hY0 : ((w.alloc (.cells #[.pointer (some ⟨db, 0, none⟩), .pointer (some ⟨mb, 0, none⟩), .pointer (some ⟨rb, 0, none⟩), .pointer (some ⟨rmb, 0, none⟩)] 28)).alloc (.cells #[.int .i64 2, .int .i64 i, .int .u32 r0, .bool r1, .int .i64 r2, .int .i64 r3, .int .u8 r4, dv] 60)).drew.heap[w.heap.size + 1]? = some (.cells #[.int .i64 2, .int .i64 i, .int .u32 r0, .bool r1, .int .i64 r2, .int .i64 r3, .int .u8 r4, dv] 60) := by
    have := heap_alloc_last (w.alloc (.cells #[.pointer (some ⟨db, 0, none⟩), .pointer (some ⟨mb, 0, none⟩), .pointer (some ⟨rb, 0, none⟩), .pointer (some ⟨rmb, 0, none⟩)] 28)) (.cells #[.int .i64 2, .int .i64 i, .int .u32 r0, .bool r1, .int .i64 r2, .int .i64 r3, .int .u8 r4, dv] 60)
    rw [World.size_alloc] at this
    exact this
  have hs0 : ((w.alloc (.cells #[.pointer (some ⟨db, 0, none⟩), .pointer (some ⟨mb, 0, none⟩), .pointer (some ⟨rb, 0, none⟩), .pointer (some ⟨rmb, 0, none⟩)] 28)).alloc (.cells #[.int .i64 2, .int .i64 i, .int .u32 r0, .bool r1, .int .i64 r2, .int .i64 r3, .int .u8 r4, dv] 60)).drew.heap.size = w.heap.size + 2 := by show ((w.alloc _).alloc _).heap.size = _; simp
  have hB00 : B ≤ ((w.alloc (.cells #[.pointer (some ⟨db, 0, none⟩), .pointer (some ⟨mb, 0, none⟩), .pointer (some ⟨rb, 0, none⟩), .pointer (some ⟨rmb, 0, none⟩)] 28)).alloc (.cells #[.int .i64 2, .int .i64 i, .int .u32 r0, .bool r1, .int .i64 r2, .int .i64 r3, .int .u8 r4, dv] 60)).drew.heap.size := by omega
  have h0 := h.below hb0
  have hW := h.q
  have cP := cancelp_any B db sb 5 mb 4 v z i _ h0.p hB00
  have cR : Hid3 (∀ W1 v1, RSt B (PR db sb mb rg v1) W1 rb og 5 rmb rg 4 u z → (∀ g, PR db sb mb rg v1 g → g < W1.heap.size) → Calls Try.prog 51 #[.pointer (some ⟨rb, 0, none⟩), .int .i64 i] W1 fun e w' => (∃ v, e = .returned v ∧ w'.ownsRow W1.heap.size 43 1 v (outI (fun r : Rq => decide (r.2.2.2.1 = i)) z.Q).length (idCs (outI (fun r : Rq => decide (r.2.2.2.1 = i)) z.Q))) ∧ RStp B (PR db sb mb rg v1) W1 w' rb og 5 rmb rg 4 { z with Q := outQ (fun r => decide (r.2.2.2.1 = i)) z.Q }) := ⟨fun W1 v1 h1 hx => cancelr_any B _ rb og 5 rmb rg 4 u z i W1 h1 hx hW⟩
  have HP : Hid3 (∀ W1, PStp B ((w.alloc (.cells #[.pointer (some ⟨db, 0, none⟩), .pointer (some ⟨mb, 0, none⟩), .pointer (some ⟨rb, 0, none⟩), .pointer (some ⟨rmb, 0, none⟩)] 28)).alloc (.cells #[.int .i64 2, .int .i64 i, .int .u32 r0, .bool r1, .int .i64 r2, .int .i64 r3, .int .u8 r4, dv] 60)).drew W1 db sb 5 mb 4 v { z with Q := outQ (fun r => decide (r.2.2.2.1 = i)) z.Q } → _) := ⟨fun W1 => h.goP hb0 hB⟩
  have HT := Hid3.mk h
  have HX := Hid3.mk (And.intro hX0 hY0)
  have HQ := Hid3.mk hq1
  have HS := Hid3.mk hs0
  have HB := Hid3.mk hB
  have hl8 : Hid3 ((outI (fun r : Rq => decide (r.2.2.2.1 = i)) z.Q).length ≤ 1000) := ⟨Nat.le_trans (outI_len _ _) (Nat.le_trans h.p.d.few (by decide))⟩
  have hS0 : Hid3 (((w.alloc (.cells #[.pointer (some ⟨db, 0, none⟩), .pointer (some ⟨mb, 0, none⟩), .pointer (some ⟨rb, 0, none⟩), .pointer (some ⟨rmb, 0, none⟩)] 28)).alloc (.cells #[.int .i64 2, .int .i64 i, .int .u32 r0, .bool r1, .int .i64 r2, .int .i64 r3, .int .u8 r4, dv] 60)).drew.cell? ⟨w.heap.size, 0, none⟩ = some (.pointer (some ⟨db, 0, none⟩)) ∧ ((w.alloc (.cells #[.pointer (some ⟨db, 0, none⟩), .pointer (some ⟨mb, 0, none⟩), .pointer (some ⟨rb, 0, none⟩), .pointer (some ⟨rmb, 0, none⟩)] 28)).alloc (.cells #[.int .i64 2, .int .i64 i, .int .u32 r0, .bool r1, .int .i64 r2, .int .i64 r3, .int .u8 r4, dv] 60)).drew.cell? ⟨w.heap.size + 1, 1, none⟩ = some (.int .i64 i) ∧ ((w.alloc (.cells #[.pointer (some ⟨db, 0, none⟩), .pointer (some ⟨mb, 0, none⟩), .pointer (some ⟨rb, 0, none⟩), .pointer (some ⟨rmb, 0, none⟩)] 28)).alloc (.cells #[.int .i64 2, .int .i64 i, .int .u32 r0, .bool r1, .int .i64 r2, .int .i64 r3, .int .u8 r4, dv] 60)).drew.cell? ⟨w.heap.size, 2, none⟩ = some (.pointer (some ⟨rb, 0, none⟩))) := ⟨by
    obtain ⟨x0, x1, x2, x3⟩ := b4c hX0
    obtain ⟨y0, y1, y2, y3, y4, y5, y6, y7⟩ := b8c hY0
    exact ⟨x0, y1, x2⟩⟩
  have HSb : Hid3 (∀ W : World, W.heap[w.heap.size]? = some (.cells #[.pointer (some ⟨db, 0, none⟩), .pointer (some ⟨mb, 0, none⟩), .pointer (some ⟨rb, 0, none⟩), .pointer (some ⟨rmb, 0, none⟩)] 28) → W.heap[w.heap.size + 1]? = some (.cells #[.int .i64 2, .int .i64 i, .int .u32 r0, .bool r1, .int .i64 r2, .int .i64 r3, .int .u8 r4, dv] 60) → W.cell? ⟨w.heap.size, 0, none⟩ = some (.pointer (some ⟨db, 0, none⟩)) ∧ W.cell? ⟨w.heap.size + 1, 1, none⟩ = some (.int .i64 i) ∧ W.cell? ⟨w.heap.size, 2, none⟩ = some (.pointer (some ⟨rb, 0, none⟩))) := ⟨fun W e1 e2 => by
    obtain ⟨x0, x1, x2, x3⟩ := b4c e1
    obtain ⟨y0, y1, y2, y3, y4, y5, y6, y7⟩ := b8c e2
    exact ⟨x0, y1, x2⟩⟩
  clear h h0 hb0 hX0 hY0 hq1 hs0 hd hla hW hB00
  generalize (fun r : Rq => decide (r.2.2.2.1 = i)) = pp at *
  generalize ({ z with Q := outQ pp z.Q } : Sd) = z1 at *
  generalize outI pp z.Q = ids at *
  go_enter Try.func23, Try.ntmps23
  go_wp2_with fail
  go_region_held3 (fun w' => w'.cell? ⟨w.heap.size, 0, none⟩ = some (.pointer (some ⟨db, 0, none⟩)) ∧ w'.cell? ⟨w.heap.size + 1, 1, none⟩ = some (.int .i64 i) ∧ w'.cell? ⟨w.heap.size, 2, none⟩ = some (.pointer (some ⟨rb, 0, none⟩))) (with_reducible (first | exact hS0.out | exact hSI.out | exact hSR.out | exact hSP.out)) ((first
    | (go_at_call 18; refine cP.mono ?_; rintro e W1 ⟨⟨va, rfl, hva⟩, hS1⟩; obtain ⟨v1, hpr, hx1, hk1, hB1, hs1⟩ := HP.out W1 hS1; have hX1 := (hk1 w.heap.size (Nat.le_refl _) (by have := HS.out; omega)).trans HX.out.1; have hY1 := (hk1 (w.heap.size + 1) (by omega) (by have := HS.out; omega)).trans HX.out.2; have hSP := Hid3.mk (HSb.out W1 hX1 hY1); have cR1 := cR.out W1 v1 hpr.2 hx1; have HR := Hid3.mk (fun W2 (h2 : RStp B (PR db sb mb rg v1) W1 W2 rb og 5 rmb rg 4 z1) => HT.out.goR hpr hB1 HB.out h2 HQ.out); have HX1 := Hid3.mk (And.intro hX1 hY1); have HVA := Hid3.mk hva; have hw1 : w.heap.size + 2 ≤ W1.heap.size := (by have := HS.out; omega); clear hS1 hpr hx1 hk1 hB1 hX1 hY1 hva hs1)
    | (go_at_call 51; refine cR1.mono ?_; rintro e W2 ⟨⟨vb, rfl, hvb⟩, hS2⟩; obtain ⟨u2, hT2, hB2, hk2, hs3⟩ := HR.out W2 hS2; have hX2 := (hk2 w.heap.size (Nat.le_refl _) (by omega)).trans HX1.out.1; have hY2 := (hk2 (w.heap.size + 1) (by omega) (by omega)).trans HX1.out.2; have hSR := Hid3.mk (HSb.out W2 hX2 hY2); have hva2 := own_keep (w := w) HVA.out (by have := HS.out; omega) hk2; have cI := sameids_any _ _ _ W2 (IdS.of_own hva2) (IdS.of_own hvb) hl8.out; have HX2 := Hid3.mk (And.intro hX2 hY2); have HF2 := Hid3.mk (And.intro hT2 hB2); clear hS2 hT2 hB2 hk2 hX2 hY2 hva2 hvb)
    | (go_at_call 50; refine cI.mono ?_; rintro e W3 ⟨rfl, hb3⟩; have hSI := Hid3.mk (HSb.out W3 ((hb3.block _ (by omega)).trans HX2.out.1) ((hb3.block _ (by omega)).trans HX2.out.2)); have HF := Hid3.mk (And.intro (HF2.out.1.below hb3) (HF2.out.2.thenB hb3 HB.out)); clear hb3)))
  all_goals
    clear hS0 HSb cP cR HP HT HX HQ
    go_wp2
    go_ret
    exact ⟨rfl, ⟨_, _, HF.out.1⟩, HF.out.2⟩
set_option maxHeartbeats 8000000 in
theorem ddo_3 (B B0 : Nat) (db sb mb rb og rmb rg : Nat) (v u : Value) (z : Sd) (i r0 : Int) (r1 : Bool) (r2 r3 r4 : Int) (dv : Value) (bs : List Int) (w : World) (h : Two B w db sb mb rb og rmb rg v u z) (hB : B ≤ w.heap.size) (hd : Byts B0 w dv bs) (hB0 : B0 ≤ B) (hla : z.last < 1000000) : Calls Try.prog 23 #[.agg #[.pointer (some ⟨db, 0, none⟩), .pointer (some ⟨mb, 0, none⟩), .pointer (some ⟨rb, 0, none⟩), .pointer (some ⟨rmb, 0, none⟩)], .agg #[.int .i64 3, .int .i64 i, .int .u32 r0, .bool r1, .int .i64 r2, .int .i64 r3, .int .u8 r4, dv]] w fun e w' => e = .returned (.bool true) ∧ (∃ v' u', Two B w' db sb mb rb og rmb rg v' u' (ddS z ⟨3, i, r0, r1, r2, r3, r4, dv, bs⟩)) ∧ Bw B w w' := by
  have hq1 := ddS_q h.q h.p.d.la.1 ⟨3, i, r0, r1, r2, r3, r4, dv, bs⟩
  rw [show ddS z ⟨3, i, r0, r1, r2, r3, r4, dv, bs⟩ = { z with Q := outQ (fun r => decide (r.2.2.2.2 = r4)) z.Q } from rfl] at hq1 ⊢
  have hb0 : Below w.heap.size w ((w.alloc (.cells #[.pointer (some ⟨db, 0, none⟩), .pointer (some ⟨mb, 0, none⟩), .pointer (some ⟨rb, 0, none⟩), .pointer (some ⟨rmb, 0, none⟩)] 28)).alloc (.cells #[.int .i64 3, .int .i64 i, .int .u32 r0, .bool r1, .int .i64 r2, .int .i64 r3, .int .u8 r4, dv] 60)).drew := (((Below.refl _ w).alloc (Nat.le_refl _) _).alloc (by simp) _).drew
  have hX0 : ((w.alloc (.cells #[.pointer (some ⟨db, 0, none⟩), .pointer (some ⟨mb, 0, none⟩), .pointer (some ⟨rb, 0, none⟩), .pointer (some ⟨rmb, 0, none⟩)] 28)).alloc (.cells #[.int .i64 3, .int .i64 i, .int .u32 r0, .bool r1, .int .i64 r2, .int .i64 r3, .int .u8 r4, dv] 60)).drew.heap[w.heap.size]? = some (.cells #[.pointer (some ⟨db, 0, none⟩), .pointer (some ⟨mb, 0, none⟩), .pointer (some ⟨rb, 0, none⟩), .pointer (some ⟨rmb, 0, none⟩)] 28) := (Lib.alloc_old _ _ _ (by simp)).trans (heap_alloc_last w _)
  have hY0 : ((w.alloc (.cells #[.pointer (some ⟨db, 0, none⟩), .pointer (some ⟨mb, 0, none⟩), .pointer (some ⟨rb, 0, none⟩), .pointer (some ⟨rmb, 0, none⟩)] 28)).alloc (.cells #[.int .i64 3, .int .i64 i, .int .u32 r0, .bool r1, .int .i64 r2, .int .i64 r3, .int .u8 r4, dv] 60)).drew.heap[w.heap.size + 1]? = some (.cells #[.int .i64 3, .int .i64 i, .int .u32 r0, .bool r1, .int .i64 r2, .int .i64 r3, .int .u8 r4, dv] 60) := by
    have := heap_alloc_last (w.alloc (.cells #[.pointer (some ⟨db, 0, none⟩), .pointer (some ⟨mb, 0, none⟩), .pointer (some ⟨rb, 0, none⟩), .pointer (some ⟨rmb, 0, none⟩)] 28)) (.cells #[.int .i64 3, .int .i64 i, .int .u32 r0, .bool r1, .int .i64 r2, .int .i64 r3, .int .u8 r4, dv] 60)
    rw [World.size_alloc] at this
    exact this
  have hs0 : ((w.alloc (.cells #[.pointer (some ⟨db, 0, none⟩), .pointer (some ⟨mb, 0, none⟩), .pointer (some ⟨rb, 0, none⟩), .pointer (some ⟨rmb, 0, none⟩)] 28)).alloc (.cells #[.int .i64 3, .int .i64 i, .int .u32 r0, .bool r1, .int .i64 r2, .int .i64 r3, .int .u8 r4, dv] 60)).drew.heap.size = w.heap.size + 2 := by show ((w.alloc _).alloc _).heap.size = _; simp
  have hB00 : B ≤ ((w.alloc (.cells #[.pointer (some ⟨db, 0, none⟩), .pointer (some ⟨mb, 0, none⟩), .pointer (some ⟨rb, 0, none⟩), .pointer (some ⟨rmb, 0, none⟩)] 28)).alloc (.cells #[.int .i64 3, .int .i64 i, .int .u32 r0, .bool r1, .int .i64 r2, .int .i64 r3, .int .u8 r4, dv] 60)).drew.heap.size := by omega
  have h0 := h.below hb0
  have hW := h.q
  have cP := dropp_any B db sb 5 mb 4 v z r4 _ h0.p hB00
  have cR : Hid3 (∀ W1 v1, RSt B (PR db sb mb rg v1) W1 rb og 5 rmb rg 4 u z → (∀ g, PR db sb mb rg v1 g → g < W1.heap.size) → Calls Try.prog 52 #[.pointer (some ⟨rb, 0, none⟩), .int .u8 r4] W1 fun e w' => (∃ v, e = .returned v ∧ w'.ownsRow W1.heap.size 43 1 v (outI (fun r : Rq => decide (r.2.2.2.2 = r4)) z.Q).length (idCs (outI (fun r : Rq => decide (r.2.2.2.2 = r4)) z.Q))) ∧ RStp B (PR db sb mb rg v1) W1 w' rb og 5 rmb rg 4 { z with Q := outQ (fun r => decide (r.2.2.2.2 = r4)) z.Q }) := ⟨fun W1 v1 h1 hx => dropr_any B _ rb og 5 rmb rg 4 u z r4 W1 h1 hx⟩
  have HP : Hid3 (∀ W1, PStp B ((w.alloc (.cells #[.pointer (some ⟨db, 0, none⟩), .pointer (some ⟨mb, 0, none⟩), .pointer (some ⟨rb, 0, none⟩), .pointer (some ⟨rmb, 0, none⟩)] 28)).alloc (.cells #[.int .i64 3, .int .i64 i, .int .u32 r0, .bool r1, .int .i64 r2, .int .i64 r3, .int .u8 r4, dv] 60)).drew W1 db sb 5 mb 4 v { z with Q := outQ (fun r => decide (r.2.2.2.2 = r4)) z.Q } → _) := ⟨fun W1 => h.goP hb0 hB⟩
  have HT := Hid3.mk h
  have HX := Hid3.mk (And.intro hX0 hY0)
  have HQ := Hid3.mk hq1
  have HS := Hid3.mk hs0
  have HB := Hid3.mk hB
  have hl8 : Hid3 ((outI (fun r : Rq => decide (r.2.2.2.2 = r4)) z.Q).length ≤ 1000) := ⟨Nat.le_trans (outI_len _ _) (Nat.le_trans h.p.d.few (by decide))⟩
  have hS0 : Hid3 (((w.alloc (.cells #[.pointer (some ⟨db, 0, none⟩), .pointer (some ⟨mb, 0, none⟩), .pointer (some ⟨rb, 0, none⟩), .pointer (some ⟨rmb, 0, none⟩)] 28)).alloc (.cells #[.int .i64 3, .int .i64 i, .int .u32 r0, .bool r1, .int .i64 r2, .int .i64 r3, .int .u8 r4, dv] 60)).drew.cell? ⟨w.heap.size, 0, none⟩ = some (.pointer (some ⟨db, 0, none⟩)) ∧ ((w.alloc (.cells #[.pointer (some ⟨db, 0, none⟩), .pointer (some ⟨mb, 0, none⟩), .pointer (some ⟨rb, 0, none⟩), .pointer (some ⟨rmb, 0, none⟩)] 28)).alloc (.cells #[.int .i64 3, .int .i64 i, .int .u32 r0, .bool r1, .int .i64 r2, .int .i64 r3, .int .u8 r4, dv] 60)).drew.cell? ⟨w.heap.size + 1, 6, none⟩ = some (.int .u8 r4) ∧ ((w.alloc (.cells #[.pointer (some ⟨db, 0, none⟩), .pointer (some ⟨mb, 0, none⟩), .pointer (some ⟨rb, 0, none⟩), .pointer (some ⟨rmb, 0, none⟩)] 28)).alloc (.cells #[.int .i64 3, .int .i64 i, .int .u32 r0, .bool r1, .int .i64 r2, .int .i64 r3, .int .u8 r4, dv] 60)).drew.cell? ⟨w.heap.size, 2, none⟩ = some (.pointer (some ⟨rb, 0, none⟩))) := ⟨by
    obtain ⟨x0, x1, x2, x3⟩ := b4c hX0
    obtain ⟨y0, y1, y2, y3, y4, y5, y6, y7⟩ := b8c hY0
    exact ⟨x0, y6, x2⟩⟩
  have HSb : Hid3 (∀ W : World, W.heap[w.heap.size]? = some (.cells #[.pointer (some ⟨db, 0, none⟩), .pointer (some ⟨mb, 0, none⟩), .pointer (some ⟨rb, 0, none⟩), .pointer (some ⟨rmb, 0, none⟩)] 28) → W.heap[w.heap.size + 1]? = some (.cells #[.int .i64 3, .int .i64 i, .int .u32 r0, .bool r1, .int .i64 r2, .int .i64 r3, .int .u8 r4, dv] 60) → W.cell? ⟨w.heap.size, 0, none⟩ = some (.pointer (some ⟨db, 0, none⟩)) ∧ W.cell? ⟨w.heap.size + 1, 6, none⟩ = some (.int .u8 r4) ∧ W.cell? ⟨w.heap.size, 2, none⟩ = some (.pointer (some ⟨rb, 0, none⟩))) := ⟨fun W e1 e2 => by
    obtain ⟨x0, x1, x2, x3⟩ := b4c e1
    obtain ⟨y0, y1, y2, y3, y4, y5, y6, y7⟩ := b8c e2
    exact ⟨x0, y6, x2⟩⟩
  clear h h0 hb0 hX0 hY0 hq1 hs0 hd hla hW hB00
  generalize (fun r : Rq => decide (r.2.2.2.2 = r4)) = pp at *
  generalize ({ z with Q := outQ pp z.Q } : Sd) = z1 at *
  generalize outI pp z.Q = ids at *
  go_enter Try.func23, Try.ntmps23
  go_wp2_with fail
  go_region_held3 (fun w' => w'.cell? ⟨w.heap.size, 0, none⟩ = some (.pointer (some ⟨db, 0, none⟩)) ∧ w'.cell? ⟨w.heap.size + 1, 6, none⟩ = some (.int .u8 r4) ∧ w'.cell? ⟨w.heap.size, 2, none⟩ = some (.pointer (some ⟨rb, 0, none⟩))) (with_reducible (first | exact hS0.out | exact hSI.out | exact hSR.out | exact hSP.out)) ((first
    | (go_at_call 14; refine cP.mono ?_; rintro e W1 ⟨⟨va, rfl, hva⟩, hS1⟩; obtain ⟨v1, hpr, hx1, hk1, hB1, hs1⟩ := HP.out W1 hS1; have hX1 := (hk1 w.heap.size (Nat.le_refl _) (by have := HS.out; omega)).trans HX.out.1; have hY1 := (hk1 (w.heap.size + 1) (by omega) (by have := HS.out; omega)).trans HX.out.2; have hSP := Hid3.mk (HSb.out W1 hX1 hY1); have cR1 := cR.out W1 v1 hpr.2 hx1; have HR := Hid3.mk (fun W2 (h2 : RStp B (PR db sb mb rg v1) W1 W2 rb og 5 rmb rg 4 z1) => HT.out.goR hpr hB1 HB.out h2 HQ.out); have HX1 := Hid3.mk (And.intro hX1 hY1); have HVA := Hid3.mk hva; have hw1 : w.heap.size + 2 ≤ W1.heap.size := (by have := HS.out; omega); clear hS1 hpr hx1 hk1 hB1 hX1 hY1 hva hs1)
    | (go_at_call 52; refine cR1.mono ?_; rintro e W2 ⟨⟨vb, rfl, hvb⟩, hS2⟩; obtain ⟨u2, hT2, hB2, hk2, hs3⟩ := HR.out W2 hS2; have hX2 := (hk2 w.heap.size (Nat.le_refl _) (by omega)).trans HX1.out.1; have hY2 := (hk2 (w.heap.size + 1) (by omega) (by omega)).trans HX1.out.2; have hSR := Hid3.mk (HSb.out W2 hX2 hY2); have hva2 := own_keep (w := w) HVA.out (by have := HS.out; omega) hk2; have cI := sameids_any _ _ _ W2 (IdS.of_own hva2) (IdS.of_own hvb) hl8.out; have HX2 := Hid3.mk (And.intro hX2 hY2); have HF2 := Hid3.mk (And.intro hT2 hB2); clear hS2 hT2 hB2 hk2 hX2 hY2 hva2 hvb)
    | (go_at_call 50; refine cI.mono ?_; rintro e W3 ⟨rfl, hb3⟩; have hSI := Hid3.mk (HSb.out W3 ((hb3.block _ (by omega)).trans HX2.out.1) ((hb3.block _ (by omega)).trans HX2.out.2)); have HF := Hid3.mk (And.intro (HF2.out.1.below hb3) (HF2.out.2.thenB hb3 HB.out)); clear hb3)))
  all_goals
    clear hS0 HSb cP cR HP HT HX HQ
    go_wp2
    go_ret
    exact ⟨rfl, ⟨_, _, HF.out.1⟩, HF.out.2⟩
end Go.Proofs.Ytlnjpgcaciemnaa
