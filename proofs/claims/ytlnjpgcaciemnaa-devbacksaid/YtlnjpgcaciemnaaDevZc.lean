/- Both: a deed: Set, SetByte, whichever. -/
import Derived.Test.YtlnjpgcaciemnaaDevZ
namespace Go.Proofs.Ytlnjpgcaciemnaa
open Go.RowKit Go.Maps
set_option linter.unusedVariables false
set_option maxRecDepth 100000
set_option maxHeartbeats 8000000 in
theorem ddo_4 (B B0 : Nat) (db sb mb rb og rmb rg : Nat) (v u : Value) (z : Sd) (i r0 : Int) (r1 : Bool) (r2 r3 r4 : Int) (dv : Value) (bs : List Int) (w : World) (h : Two B w db sb mb rb og rmb rg v u z) (hB : B ≤ w.heap.size) (hd : Byts B0 w dv bs) (hB0 : B0 ≤ B) (hla : z.last < 1000000) : Calls Try.prog 23 #[.agg #[.pointer (some ⟨db, 0, none⟩), .pointer (some ⟨mb, 0, none⟩), .pointer (some ⟨rb, 0, none⟩), .pointer (some ⟨rmb, 0, none⟩)], .agg #[.int .i64 4, .int .i64 i, .int .u32 r0, .bool r1, .int .i64 r2, .int .i64 r3, .int .u8 r4, dv]] w fun e w' => e = .returned (.bool true) ∧ (∃ v' u', Two B w' db sb mb rb og rmb rg v' u' (ddS z ⟨4, i, r0, r1, r2, r3, r4, dv, bs⟩)) ∧ Bw B w w' := by
  obtain ⟨da, dc, dl, rfl⟩ : ∃ a c l, dv = .slice a l c := by
    obtain ⟨a, c, e, _⟩ := hd
    exact ⟨a, c, _, e⟩
  have hq1 := ddS_q h.q h.p.d.la.1 ⟨4, i, r0, r1, r2, r3, r4, (.slice da dl dc), bs⟩
  rw [show ddS z ⟨4, i, r0, r1, r2, r3, r4, (.slice da dl dc), bs⟩ = (stS 5 z i bs) from rfl] at hq1 ⊢
  have hb0 : Below w.heap.size w ((w.alloc (.cells #[.pointer (some ⟨db, 0, none⟩), .pointer (some ⟨mb, 0, none⟩), .pointer (some ⟨rb, 0, none⟩), .pointer (some ⟨rmb, 0, none⟩)] 28)).alloc (.cells #[.int .i64 4, .int .i64 i, .int .u32 r0, .bool r1, .int .i64 r2, .int .i64 r3, .int .u8 r4, (.slice da dl dc)] 60)).drew := (((Below.refl _ w).alloc (Nat.le_refl _) _).alloc (by simp) _).drew
  have hX0 : ((w.alloc (.cells #[.pointer (some ⟨db, 0, none⟩), .pointer (some ⟨mb, 0, none⟩), .pointer (some ⟨rb, 0, none⟩), .pointer (some ⟨rmb, 0, none⟩)] 28)).alloc (.cells #[.int .i64 4, .int .i64 i, .int .u32 r0, .bool r1, .int .i64 r2, .int .i64 r3, .int .u8 r4, (.slice da dl dc)] 60)).drew.heap[w.heap.size]? = some (.cells #[.pointer (some ⟨db, 0, none⟩), .pointer (some ⟨mb, 0, none⟩), .pointer (some ⟨rb, 0, none⟩), .pointer (some ⟨rmb, 0, none⟩)] 28) := (Lib.alloc_old _ _ _ (by simp)).trans (heap_alloc_last w _)
  have hY0 : ((w.alloc (.cells #[.pointer (some ⟨db, 0, none⟩), .pointer (some ⟨mb, 0, none⟩), .pointer (some ⟨rb, 0, none⟩), .pointer (some ⟨rmb, 0, none⟩)] 28)).alloc (.cells #[.int .i64 4, .int .i64 i, .int .u32 r0, .bool r1, .int .i64 r2, .int .i64 r3, .int .u8 r4, (.slice da dl dc)] 60)).drew.heap[w.heap.size + 1]? = some (.cells #[.int .i64 4, .int .i64 i, .int .u32 r0, .bool r1, .int .i64 r2, .int .i64 r3, .int .u8 r4, (.slice da dl dc)] 60) := by
    have := heap_alloc_last (w.alloc (.cells #[.pointer (some ⟨db, 0, none⟩), .pointer (some ⟨mb, 0, none⟩), .pointer (some ⟨rb, 0, none⟩), .pointer (some ⟨rmb, 0, none⟩)] 28)) (.cells #[.int .i64 4, .int .i64 i, .int .u32 r0, .bool r1, .int .i64 r2, .int .i64 r3, .int .u8 r4, (.slice da dl dc)] 60)
    rw [World.size_alloc] at this
    exact this
  have hs0 : ((w.alloc (.cells #[.pointer (some ⟨db, 0, none⟩), .pointer (some ⟨mb, 0, none⟩), .pointer (some ⟨rb, 0, none⟩), .pointer (some ⟨rmb, 0, none⟩)] 28)).alloc (.cells #[.int .i64 4, .int .i64 i, .int .u32 r0, .bool r1, .int .i64 r2, .int .i64 r3, .int .u8 r4, (.slice da dl dc)] 60)).drew.heap.size = w.heap.size + 2 := by show ((w.alloc _).alloc _).heap.size = _; simp
  have hB00 : B ≤ ((w.alloc (.cells #[.pointer (some ⟨db, 0, none⟩), .pointer (some ⟨mb, 0, none⟩), .pointer (some ⟨rb, 0, none⟩), .pointer (some ⟨rmb, 0, none⟩)] 28)).alloc (.cells #[.int .i64 4, .int .i64 i, .int .u32 r0, .bool r1, .int .i64 r2, .int .i64 r3, .int .u8 r4, (.slice da dl dc)] 60)).drew.heap.size := by omega
  have h0 := h.below hb0
  have cP := dsetp_any B B0 db sb 5 mb 4 v z i (.slice da dl dc) bs _ h0.p (hd.below (hb0.mono (Nat.le_trans hB0 hB))) hB0
  have cR : Hid3 (∀ W1 v1, RSt B (PR db sb mb rg v1) W1 rb og 5 rmb rg 4 u z → (∀ g, PR db sb mb rg v1 g → g < W1.heap.size) → Below B w W1 → Calls Try.prog 54 #[.pointer (some ⟨rb, 0, none⟩), .int .i64 i, (.slice da dl dc)] W1 fun e w' => e = .returned (.int .i64 (stE 5 i bs.length)) ∧ RStp B (PR db sb mb rg v1) W1 w' rb og 5 rmb rg 4 (stS 5 z i bs)) := ⟨fun W1 v1 h1 hx hb => setr_any B B0 _ rb og 5 rmb rg 4 u z i (.slice da dl dc) bs W1 h1 hx (hd.below (hb.mono hB0))⟩
  have HP : Hid3 (∀ W1, PStp B ((w.alloc (.cells #[.pointer (some ⟨db, 0, none⟩), .pointer (some ⟨mb, 0, none⟩), .pointer (some ⟨rb, 0, none⟩), .pointer (some ⟨rmb, 0, none⟩)] 28)).alloc (.cells #[.int .i64 4, .int .i64 i, .int .u32 r0, .bool r1, .int .i64 r2, .int .i64 r3, .int .u8 r4, (.slice da dl dc)] 60)).drew W1 db sb 5 mb 4 v (stS 5 z i bs) → _) := ⟨fun W1 => h.goP hb0 hB⟩
  have HT := Hid3.mk h
  have HX := Hid3.mk (And.intro hX0 hY0)
  have HQ := Hid3.mk hq1
  have HS := Hid3.mk hs0
  have HB := Hid3.mk hB
  have HSb : Hid3 (∀ W : World, W.heap[w.heap.size]? = some (.cells #[.pointer (some ⟨db, 0, none⟩), .pointer (some ⟨mb, 0, none⟩), .pointer (some ⟨rb, 0, none⟩), .pointer (some ⟨rmb, 0, none⟩)] 28) → W.heap[w.heap.size + 1]? = some (.cells #[.int .i64 4, .int .i64 i, .int .u32 r0, .bool r1, .int .i64 r2, .int .i64 r3, .int .u8 r4, (.slice da dl dc)] 60) → Below B w W → W.cell? ⟨w.heap.size, 0, none⟩ = some (.pointer (some ⟨db, 0, none⟩)) ∧ W.cell? ⟨w.heap.size + 1, 1, none⟩ = some (.int .i64 i) ∧ W.cell? ⟨w.heap.size + 1, 7, none⟩ = some (.slice da dl dc) ∧ W.cell? ⟨w.heap.size, 2, none⟩ = some (.pointer (some ⟨rb, 0, none⟩))) := ⟨fun W e1 e2 eb => by
    obtain ⟨x0, x1, x2, x3⟩ := b4c e1
    obtain ⟨y0, y1, y2, y3, y4, y5, y6, y7⟩ := b8c e2
    exact ⟨x0, y1, y7, x2⟩⟩
  have hS0 : Hid3 (((w.alloc (.cells #[.pointer (some ⟨db, 0, none⟩), .pointer (some ⟨mb, 0, none⟩), .pointer (some ⟨rb, 0, none⟩), .pointer (some ⟨rmb, 0, none⟩)] 28)).alloc (.cells #[.int .i64 4, .int .i64 i, .int .u32 r0, .bool r1, .int .i64 r2, .int .i64 r3, .int .u8 r4, (.slice da dl dc)] 60)).drew.cell? ⟨w.heap.size, 0, none⟩ = some (.pointer (some ⟨db, 0, none⟩)) ∧ ((w.alloc (.cells #[.pointer (some ⟨db, 0, none⟩), .pointer (some ⟨mb, 0, none⟩), .pointer (some ⟨rb, 0, none⟩), .pointer (some ⟨rmb, 0, none⟩)] 28)).alloc (.cells #[.int .i64 4, .int .i64 i, .int .u32 r0, .bool r1, .int .i64 r2, .int .i64 r3, .int .u8 r4, (.slice da dl dc)] 60)).drew.cell? ⟨w.heap.size + 1, 1, none⟩ = some (.int .i64 i) ∧ ((w.alloc (.cells #[.pointer (some ⟨db, 0, none⟩), .pointer (some ⟨mb, 0, none⟩), .pointer (some ⟨rb, 0, none⟩), .pointer (some ⟨rmb, 0, none⟩)] 28)).alloc (.cells #[.int .i64 4, .int .i64 i, .int .u32 r0, .bool r1, .int .i64 r2, .int .i64 r3, .int .u8 r4, (.slice da dl dc)] 60)).drew.cell? ⟨w.heap.size + 1, 7, none⟩ = some (.slice da dl dc) ∧ ((w.alloc (.cells #[.pointer (some ⟨db, 0, none⟩), .pointer (some ⟨mb, 0, none⟩), .pointer (some ⟨rb, 0, none⟩), .pointer (some ⟨rmb, 0, none⟩)] 28)).alloc (.cells #[.int .i64 4, .int .i64 i, .int .u32 r0, .bool r1, .int .i64 r2, .int .i64 r3, .int .u8 r4, (.slice da dl dc)] 60)).drew.cell? ⟨w.heap.size, 2, none⟩ = some (.pointer (some ⟨rb, 0, none⟩))) := ⟨HSb.out _ hX0 hY0 (hb0.mono hB)⟩
  clear h h0 hb0 hX0 hY0 hq1 hs0 hla hB00 hd
  generalize stS 5 z i bs = z1 at *
  generalize stE 5 i bs.length = aE at *
  go_enter Try.func23, Try.ntmps23
  go_wp2_with fail
  go_region_held3 (fun w' => w'.cell? ⟨w.heap.size, 0, none⟩ = some (.pointer (some ⟨db, 0, none⟩)) ∧ w'.cell? ⟨w.heap.size + 1, 1, none⟩ = some (.int .i64 i) ∧ w'.cell? ⟨w.heap.size + 1, 7, none⟩ = some (.slice da dl dc) ∧ w'.cell? ⟨w.heap.size, 2, none⟩ = some (.pointer (some ⟨rb, 0, none⟩))) (with_reducible (first | exact hS0.out | exact hSR.out | exact hSP.out)) ((first
    | (go_at_call 53; refine cP.mono ?_; rintro e W1 ⟨rfl, hS1⟩; obtain ⟨v1, hpr, hx1, hk1, hB1, hs1⟩ := HP.out W1 hS1; have hX1 := (hk1 w.heap.size (Nat.le_refl _) (by have := HS.out; omega)).trans HX.out.1; have hY1 := (hk1 (w.heap.size + 1) (by omega) (by have := HS.out; omega)).trans HX.out.2; have hSP := Hid3.mk (HSb.out W1 hX1 hY1 hB1.b); have cR1 := cR.out W1 v1 hpr.2 hx1 hB1.b; have HR := Hid3.mk (fun W2 (h2 : RStp B (PR db sb mb rg v1) W1 W2 rb og 5 rmb rg 4 z1) => HT.out.goR hpr hB1 HB.out h2 HQ.out); have HX1 := Hid3.mk (And.intro hX1 hY1); have hw1 : w.heap.size + 2 ≤ W1.heap.size := (by have := HS.out; omega); clear hS1 hpr hx1 hk1 hB1 hX1 hY1 hs1)
    | (go_at_call 54; refine cR1.mono ?_; rintro e W2 ⟨rfl, hS2⟩; obtain ⟨u2, hT2, hB2, hk2, hs3⟩ := HR.out W2 hS2; have hX2 := (hk2 w.heap.size (Nat.le_refl _) (by omega)).trans HX1.out.1; have hY2 := (hk2 (w.heap.size + 1) (by omega) (by omega)).trans HX1.out.2; have hSR := Hid3.mk (HSb.out W2 hX2 hY2 hB2.b); have HF := Hid3.mk (And.intro hT2 hB2); clear hS2 hT2 hB2 hk2 hX2 hY2)))
  all_goals
    clear hS0 HSb cP cR HP HT HX HQ
    go_wp2
    go_ret
    exact ⟨rfl, ⟨_, _, HF.out.1⟩, HF.out.2⟩
theorem sbp_any (B db sb n mb N : Nat) (v : Value) (z : Sd) (i x : Int) (w : World) (h : PSt B w db sb n mb N v z) : Calls Try.prog 11 #[.pointer (some ⟨mb, 0, none⟩), .int .i64 i, .int .i64 0, .int .u8 x] w fun e w' => e = .returned (.int .i64 (inE N i 0 1)) ∧ PStp B w w' db sb n mb N v { z with L := sbL N z.L i 0 x } := by
  refine (setbyte_any mb N i 0 x z.L w h.m).mono ?_
  rintro e w' ⟨rfl, hM, hO⟩
  exact ⟨rfl, v, PSt.mk' (z := { z with L := sbL N z.L i 0 x }) (h.d.stay (Apart.of_only hO) (fun e => h.n1 e.symm) (fun e => h.n2 e.symm) (fun g hg e => h.n3 (by rw [hg]; exact congrArg some e.symm))) hM h.mB, (Apart.of_only hO).wide (fun k _ e => .inr (.inr (.inl e))), fun g hg => .inl hg⟩
theorem sbr_any (B : Nat) (X : Nat → Prop) (rb og n mb rg N : Nat) (u : Value) (z : Sd) (i x : Int) (w : World) (h : RSt B X w rb og n mb rg N u z) : Calls Try.prog 55 #[.pointer (some ⟨mb, 0, none⟩), .int .i64 i, .int .i64 0, .int .u8 x] w fun e w' => e = .returned (.int .i64 (inE N i 0 1)) ∧ RStp B X w w' rb og n mb rg N { z with L := sbL N z.L i 0 x } := by
  refine (rsetbyte_any mb rg (32 * N) N i 0 x z.L w h.m rfl).mono ?_
  rintro e w' ⟨rfl, hM, hO⟩
  exact ⟨rfl, u, ⟨h.k.stay (Apart.of_only hO) (fun g e => by have e' : g = rg := e; rw [e']; exact h.xg), hM, h.xg, h.xm, h.gm, h.gg⟩, (Apart.of_only hO).wide (fun k _ e => .inr (.inr e))⟩
set_option maxHeartbeats 8000000 in
theorem ddo_5 (B B0 : Nat) (db sb mb rb og rmb rg : Nat) (v u : Value) (z : Sd) (i r0 : Int) (r1 : Bool) (r2 r3 r4 : Int) (dv : Value) (bs : List Int) (w : World) (h : Two B w db sb mb rb og rmb rg v u z) (hB : B ≤ w.heap.size) (hd : Byts B0 w dv bs) (hB0 : B0 ≤ B) (hla : z.last < 1000000) (hbs : bs ≠ []) : Calls Try.prog 23 #[.agg #[.pointer (some ⟨db, 0, none⟩), .pointer (some ⟨mb, 0, none⟩), .pointer (some ⟨rb, 0, none⟩), .pointer (some ⟨rmb, 0, none⟩)], .agg #[.int .i64 5, .int .i64 i, .int .u32 r0, .bool r1, .int .i64 r2, .int .i64 r3, .int .u8 r4, dv]] w fun e w' => e = .returned (.bool true) ∧ (∃ v' u', Two B w' db sb mb rb og rmb rg v' u' (ddS z ⟨5, i, r0, r1, r2, r3, r4, dv, bs⟩)) ∧ Bw B w w' := by
  obtain ⟨a5, c5, rfl, hcap5, hby5, hcell5⟩ := hd
  have hlen5 : 0 < bs.length := List.length_pos_iff.2 hbs
  obtain ⟨g5, o5, rfl, hg5, hc5⟩ := hcell5 0 bs[0] (List.getElem?_eq_getElem hlen5)
  rw [Nat.add_zero] at hc5
  obtain ⟨y5, hy5⟩ : ∃ y5, bs.getD 0 0 = y5 := ⟨_, rfl⟩
  have e5 : bs[0] = y5 := by rw [← hy5, List.getD_eq_getElem?_getD, List.getElem?_eq_getElem hlen5]; rfl
  rw [e5] at hc5
  obtain ⟨n5, hn5⟩ : ∃ n5, bs.length = n5 := ⟨_, rfl⟩
  rw [hn5] at hlen5 hcap5 ⊢
  have hnz : (0 : Int) < (n5 : Int) := by omega
  have hq1 := ddS_q h.q h.p.d.la.1 ⟨5, i, r0, r1, r2, r3, r4, .slice (some ⟨g5, o5, none⟩) n5 c5, bs⟩
  rw [show ddS z ⟨5, i, r0, r1, r2, r3, r4, .slice (some ⟨g5, o5, none⟩) n5 c5, bs⟩ = { z with L := sbL 4 z.L i 0 y5 } from by unfold ddS; simp only; rw [if_neg (by decide), if_neg (by decide), if_neg (by decide), if_neg (by decide), if_neg (by decide), if_pos trivial, if_neg hbs, hy5]] at hq1 ⊢
  have hb0 : Below w.heap.size w ((w.alloc (.cells #[.pointer (some ⟨db, 0, none⟩), .pointer (some ⟨mb, 0, none⟩), .pointer (some ⟨rb, 0, none⟩), .pointer (some ⟨rmb, 0, none⟩)] 28)).alloc (.cells #[.int .i64 5, .int .i64 i, .int .u32 r0, .bool r1, .int .i64 r2, .int .i64 r3, .int .u8 r4, .slice (some ⟨g5, o5, none⟩) n5 c5] 60)).drew := (((Below.refl _ w).alloc (Nat.le_refl _) _).alloc (by simp) _).drew
  have hX0 : ((w.alloc (.cells #[.pointer (some ⟨db, 0, none⟩), .pointer (some ⟨mb, 0, none⟩), .pointer (some ⟨rb, 0, none⟩), .pointer (some ⟨rmb, 0, none⟩)] 28)).alloc (.cells #[.int .i64 5, .int .i64 i, .int .u32 r0, .bool r1, .int .i64 r2, .int .i64 r3, .int .u8 r4, .slice (some ⟨g5, o5, none⟩) n5 c5] 60)).drew.heap[w.heap.size]? = some (.cells #[.pointer (some ⟨db, 0, none⟩), .pointer (some ⟨mb, 0, none⟩), .pointer (some ⟨rb, 0, none⟩), .pointer (some ⟨rmb, 0, none⟩)] 28) := (Lib.alloc_old _ _ _ (by simp)).trans (heap_alloc_last w _)
  have hY0 : ((w.alloc (.cells #[.pointer (some ⟨db, 0, none⟩), .pointer (some ⟨mb, 0, none⟩), .pointer (some ⟨rb, 0, none⟩), .pointer (some ⟨rmb, 0, none⟩)] 28)).alloc (.cells #[.int .i64 5, .int .i64 i, .int .u32 r0, .bool r1, .int .i64 r2, .int .i64 r3, .int .u8 r4, .slice (some ⟨g5, o5, none⟩) n5 c5] 60)).drew.heap[w.heap.size + 1]? = some (.cells #[.int .i64 5, .int .i64 i, .int .u32 r0, .bool r1, .int .i64 r2, .int .i64 r3, .int .u8 r4, .slice (some ⟨g5, o5, none⟩) n5 c5] 60) := by
    have := heap_alloc_last (w.alloc (.cells #[.pointer (some ⟨db, 0, none⟩), .pointer (some ⟨mb, 0, none⟩), .pointer (some ⟨rb, 0, none⟩), .pointer (some ⟨rmb, 0, none⟩)] 28)) (.cells #[.int .i64 5, .int .i64 i, .int .u32 r0, .bool r1, .int .i64 r2, .int .i64 r3, .int .u8 r4, .slice (some ⟨g5, o5, none⟩) n5 c5] 60)
    rw [World.size_alloc] at this
    exact this
  have hs0 : ((w.alloc (.cells #[.pointer (some ⟨db, 0, none⟩), .pointer (some ⟨mb, 0, none⟩), .pointer (some ⟨rb, 0, none⟩), .pointer (some ⟨rmb, 0, none⟩)] 28)).alloc (.cells #[.int .i64 5, .int .i64 i, .int .u32 r0, .bool r1, .int .i64 r2, .int .i64 r3, .int .u8 r4, .slice (some ⟨g5, o5, none⟩) n5 c5] 60)).drew.heap.size = w.heap.size + 2 := by show ((w.alloc _).alloc _).heap.size = _; simp
  have hB00 : B ≤ ((w.alloc (.cells #[.pointer (some ⟨db, 0, none⟩), .pointer (some ⟨mb, 0, none⟩), .pointer (some ⟨rb, 0, none⟩), .pointer (some ⟨rmb, 0, none⟩)] 28)).alloc (.cells #[.int .i64 5, .int .i64 i, .int .u32 r0, .bool r1, .int .i64 r2, .int .i64 r3, .int .u8 r4, .slice (some ⟨g5, o5, none⟩) n5 c5] 60)).drew.heap.size := by omega
  have h0 := h.below hb0
  have cP := sbp_any B db sb 5 mb 4 v z i y5 _ h0.p
  have cR : Hid3 (∀ W1 v1, RSt B (PR db sb mb rg v1) W1 rb og 5 rmb rg 4 u z → (∀ g, PR db sb mb rg v1 g → g < W1.heap.size) → Below B w W1 → Calls Try.prog 55 #[.pointer (some ⟨rmb, 0, none⟩), .int .i64 i, .int .i64 0, .int .u8 y5] W1 fun e w' => e = .returned (.int .i64 (inE 4 i 0 1)) ∧ RStp B (PR db sb mb rg v1) W1 w' rb og 5 rmb rg 4 { z with L := sbL 4 z.L i 0 y5 }) := ⟨fun W1 v1 h1 hx hb => sbr_any B _ rb og 5 rmb rg 4 u z i y5 W1 h1⟩
  have HP : Hid3 (∀ W1, PStp B ((w.alloc (.cells #[.pointer (some ⟨db, 0, none⟩), .pointer (some ⟨mb, 0, none⟩), .pointer (some ⟨rb, 0, none⟩), .pointer (some ⟨rmb, 0, none⟩)] 28)).alloc (.cells #[.int .i64 5, .int .i64 i, .int .u32 r0, .bool r1, .int .i64 r2, .int .i64 r3, .int .u8 r4, .slice (some ⟨g5, o5, none⟩) n5 c5] 60)).drew W1 db sb 5 mb 4 v { z with L := sbL 4 z.L i 0 y5 } → _) := ⟨fun W1 => h.goP hb0 hB⟩
  have HT := Hid3.mk h
  have HX := Hid3.mk (And.intro hX0 hY0)
  have HQ := Hid3.mk hq1
  have HS := Hid3.mk hs0
  have HB := Hid3.mk hB
  have HSb : Hid3 (∀ W : World, W.heap[w.heap.size]? = some (.cells #[.pointer (some ⟨db, 0, none⟩), .pointer (some ⟨mb, 0, none⟩), .pointer (some ⟨rb, 0, none⟩), .pointer (some ⟨rmb, 0, none⟩)] 28) → W.heap[w.heap.size + 1]? = some (.cells #[.int .i64 5, .int .i64 i, .int .u32 r0, .bool r1, .int .i64 r2, .int .i64 r3, .int .u8 r4, .slice (some ⟨g5, o5, none⟩) n5 c5] 60) → Below B w W → W.cell? ⟨w.heap.size, 1, none⟩ = some (.pointer (some ⟨mb, 0, none⟩)) ∧ W.cell? ⟨w.heap.size + 1, 1, none⟩ = some (.int .i64 i) ∧ W.cell? ⟨w.heap.size + 1, 7, none⟩ = some (.slice (some ⟨g5, o5, none⟩) n5 c5) ∧ W.cell? ⟨w.heap.size, 3, none⟩ = some (.pointer (some ⟨rmb, 0, none⟩)) ∧ W.cell? ⟨g5, o5, none⟩ = some (.int .u8 y5)) := ⟨fun W e1 e2 eb => by
    obtain ⟨x0, x1, x2, x3⟩ := b4c e1
    obtain ⟨y0, y1, y2, y3, y4, y5, y6, y7⟩ := b8c e2
    exact ⟨x1, y1, y7, x3, (eb.cell (p := ⟨g5, o5, none⟩) (by have := hg5; simp only; omega)).trans hc5⟩⟩
  have hS0 : Hid3 (((w.alloc (.cells #[.pointer (some ⟨db, 0, none⟩), .pointer (some ⟨mb, 0, none⟩), .pointer (some ⟨rb, 0, none⟩), .pointer (some ⟨rmb, 0, none⟩)] 28)).alloc (.cells #[.int .i64 5, .int .i64 i, .int .u32 r0, .bool r1, .int .i64 r2, .int .i64 r3, .int .u8 r4, .slice (some ⟨g5, o5, none⟩) n5 c5] 60)).drew.cell? ⟨w.heap.size, 1, none⟩ = some (.pointer (some ⟨mb, 0, none⟩)) ∧ ((w.alloc (.cells #[.pointer (some ⟨db, 0, none⟩), .pointer (some ⟨mb, 0, none⟩), .pointer (some ⟨rb, 0, none⟩), .pointer (some ⟨rmb, 0, none⟩)] 28)).alloc (.cells #[.int .i64 5, .int .i64 i, .int .u32 r0, .bool r1, .int .i64 r2, .int .i64 r3, .int .u8 r4, .slice (some ⟨g5, o5, none⟩) n5 c5] 60)).drew.cell? ⟨w.heap.size + 1, 1, none⟩ = some (.int .i64 i) ∧ ((w.alloc (.cells #[.pointer (some ⟨db, 0, none⟩), .pointer (some ⟨mb, 0, none⟩), .pointer (some ⟨rb, 0, none⟩), .pointer (some ⟨rmb, 0, none⟩)] 28)).alloc (.cells #[.int .i64 5, .int .i64 i, .int .u32 r0, .bool r1, .int .i64 r2, .int .i64 r3, .int .u8 r4, .slice (some ⟨g5, o5, none⟩) n5 c5] 60)).drew.cell? ⟨w.heap.size + 1, 7, none⟩ = some (.slice (some ⟨g5, o5, none⟩) n5 c5) ∧ ((w.alloc (.cells #[.pointer (some ⟨db, 0, none⟩), .pointer (some ⟨mb, 0, none⟩), .pointer (some ⟨rb, 0, none⟩), .pointer (some ⟨rmb, 0, none⟩)] 28)).alloc (.cells #[.int .i64 5, .int .i64 i, .int .u32 r0, .bool r1, .int .i64 r2, .int .i64 r3, .int .u8 r4, .slice (some ⟨g5, o5, none⟩) n5 c5] 60)).drew.cell? ⟨w.heap.size, 3, none⟩ = some (.pointer (some ⟨rmb, 0, none⟩)) ∧ ((w.alloc (.cells #[.pointer (some ⟨db, 0, none⟩), .pointer (some ⟨mb, 0, none⟩), .pointer (some ⟨rb, 0, none⟩), .pointer (some ⟨rmb, 0, none⟩)] 28)).alloc (.cells #[.int .i64 5, .int .i64 i, .int .u32 r0, .bool r1, .int .i64 r2, .int .i64 r3, .int .u8 r4, .slice (some ⟨g5, o5, none⟩) n5 c5] 60)).drew.cell? ⟨g5, o5, none⟩ = some (.int .u8 y5)) := ⟨HSb.out _ hX0 hY0 (hb0.mono hB)⟩
  clear h h0 hb0 hX0 hY0 hq1 hs0 hla hB00
  generalize ({ z with L := sbL 4 z.L i 0 y5 } : Sd) = z1 at *
  generalize inE 4 i 0 1 = aE at *
  clear hcell5 hby5 hy5 e5 hn5 hcap5 hbs
  go_enter Try.func23, Try.ntmps23
  go_wp2_with fail
  go_region_held3 (fun w' => w'.cell? ⟨w.heap.size, 1, none⟩ = some (.pointer (some ⟨mb, 0, none⟩)) ∧ w'.cell? ⟨w.heap.size + 1, 1, none⟩ = some (.int .i64 i) ∧ w'.cell? ⟨w.heap.size + 1, 7, none⟩ = some (.slice (some ⟨g5, o5, none⟩) n5 c5) ∧ w'.cell? ⟨w.heap.size, 3, none⟩ = some (.pointer (some ⟨rmb, 0, none⟩)) ∧ w'.cell? ⟨g5, o5, none⟩ = some (.int .u8 y5)) (with_reducible (first | exact hS0.out | exact hSR.out | exact hSP.out)) ((first
    | (go_at_call 11; refine cP.mono ?_; rintro e W1 ⟨rfl, hS1⟩; obtain ⟨v1, hpr, hx1, hk1, hB1, hs1⟩ := HP.out W1 hS1; have hX1 := (hk1 w.heap.size (Nat.le_refl _) (by have := HS.out; omega)).trans HX.out.1; have hY1 := (hk1 (w.heap.size + 1) (by omega) (by have := HS.out; omega)).trans HX.out.2; have hSP := Hid3.mk (HSb.out W1 hX1 hY1 hB1.b); have cR1 := cR.out W1 v1 hpr.2 hx1 hB1.b; have HR := Hid3.mk (fun W2 (h2 : RStp B (PR db sb mb rg v1) W1 W2 rb og 5 rmb rg 4 z1) => HT.out.goR hpr hB1 HB.out h2 HQ.out); have HX1 := Hid3.mk (And.intro hX1 hY1); have hw1 : w.heap.size + 2 ≤ W1.heap.size := (by have := HS.out; omega); clear hS1 hpr hx1 hk1 hB1 hX1 hY1 hs1)
    | (go_at_call 55; refine cR1.mono ?_; rintro e W2 ⟨rfl, hS2⟩; obtain ⟨u2, hT2, hB2, hk2, hs3⟩ := HR.out W2 hS2; have hX2 := (hk2 w.heap.size (Nat.le_refl _) (by omega)).trans HX1.out.1; have hY2 := (hk2 (w.heap.size + 1) (by omega) (by omega)).trans HX1.out.2; have hSR := Hid3.mk (HSb.out W2 hX2 hY2 hB2.b); have HF := Hid3.mk (And.intro hT2 hB2); clear hS2 hT2 hB2 hk2 hX2 hY2)))
  all_goals
    clear hS0 HSb cP cR HP HT HX HQ
    go_wp2
    go_ret
    exact ⟨rfl, ⟨_, _, HF.out.1⟩, HF.out.2⟩
set_option maxHeartbeats 8000000 in
theorem ddo_5n (B B0 : Nat) (db sb mb rb og rmb rg : Nat) (v u : Value) (z : Sd) (i r0 : Int) (r1 : Bool) (r2 r3 r4 : Int) (dv : Value) (bs : List Int) (w : World) (h : Two B w db sb mb rb og rmb rg v u z) (hB : B ≤ w.heap.size) (hd : Byts B0 w dv bs) (hB0 : B0 ≤ B) (hla : z.last < 1000000) (hbs : bs = []) : Calls Try.prog 23 #[.agg #[.pointer (some ⟨db, 0, none⟩), .pointer (some ⟨mb, 0, none⟩), .pointer (some ⟨rb, 0, none⟩), .pointer (some ⟨rmb, 0, none⟩)], .agg #[.int .i64 5, .int .i64 i, .int .u32 r0, .bool r1, .int .i64 r2, .int .i64 r3, .int .u8 r4, dv]] w fun e w' => e = .returned (.bool true) ∧ (∃ v' u', Two B w' db sb mb rb og rmb rg v' u' (ddS z ⟨5, i, r0, r1, r2, r3, r4, dv, bs⟩)) ∧ Bw B w w' := by
  subst hbs
  obtain ⟨a5, c5, rfl, hcap5, hby5, hcell5⟩ := hd
  simp only [List.length_nil] at *
  have hb0 : Below w.heap.size w ((w.alloc (.cells #[.pointer (some ⟨db, 0, none⟩), .pointer (some ⟨mb, 0, none⟩), .pointer (some ⟨rb, 0, none⟩), .pointer (some ⟨rmb, 0, none⟩)] 28)).alloc (.cells #[.int .i64 5, .int .i64 i, .int .u32 r0, .bool r1, .int .i64 r2, .int .i64 r3, .int .u8 r4, .slice a5 0 c5] 60)) := ((Below.refl _ w).alloc (Nat.le_refl _) _).alloc (by simp) _
  have HF : Hid3 (Two B ((w.alloc (.cells #[.pointer (some ⟨db, 0, none⟩), .pointer (some ⟨mb, 0, none⟩), .pointer (some ⟨rb, 0, none⟩), .pointer (some ⟨rmb, 0, none⟩)] 28)).alloc (.cells #[.int .i64 5, .int .i64 i, .int .u32 r0, .bool r1, .int .i64 r2, .int .i64 r3, .int .u8 r4, .slice a5 0 c5] 60)) db sb mb rb og rmb rg v u z ∧ Bw B w ((w.alloc (.cells #[.pointer (some ⟨db, 0, none⟩), .pointer (some ⟨mb, 0, none⟩), .pointer (some ⟨rb, 0, none⟩), .pointer (some ⟨rmb, 0, none⟩)] 28)).alloc (.cells #[.int .i64 5, .int .i64 i, .int .u32 r0, .bool r1, .int .i64 r2, .int .i64 r3, .int .u8 r4, .slice a5 0 c5] 60))) := ⟨⟨h.below hb0, Bw.of hb0 hB⟩⟩
  rw [show ddS z ⟨5, i, r0, r1, r2, r3, r4, .slice a5 0 c5, []⟩ = z from rfl]
  clear h hB hb0 hcell5 hby5 hcap5 hla
  go_enter Try.func23, Try.ntmps23
  go_wp2
  go_ret
  exact ⟨rfl, ⟨_, _, HF.out.1⟩, HF.out.2⟩
set_option maxHeartbeats 8000000 in
theorem ddo_else (B B0 : Nat) (db sb mb rb og rmb rg : Nat) (v u : Value) (z : Sd) (i r0 : Int) (r1 : Bool) (r2 r3 r4 : Int) (dv : Value) (bs : List Int) (dk : Int) (w : World) (h : Two B w db sb mb rb og rmb rg v u z) (hB : B ≤ w.heap.size) (hd : Byts B0 w dv bs) (hB0 : B0 ≤ B) (hla : z.last < 1000000) (k0 : dk ≠ 0) (k1 : dk ≠ 1) (k2 : dk ≠ 2) (k3 : dk ≠ 3) (k4 : dk ≠ 4) (k5 : dk ≠ 5) : Calls Try.prog 23 #[.agg #[.pointer (some ⟨db, 0, none⟩), .pointer (some ⟨mb, 0, none⟩), .pointer (some ⟨rb, 0, none⟩), .pointer (some ⟨rmb, 0, none⟩)], .agg #[.int .i64 dk, .int .i64 i, .int .u32 r0, .bool r1, .int .i64 r2, .int .i64 r3, .int .u8 r4, dv]] w fun e w' => e = .returned (.bool true) ∧ (∃ v' u', Two B w' db sb mb rb og rmb rg v' u' (ddS z ⟨dk, i, r0, r1, r2, r3, r4, dv, bs⟩)) ∧ Bw B w w' := by
  have hb0 : Below w.heap.size w ((w.alloc (.cells #[.pointer (some ⟨db, 0, none⟩), .pointer (some ⟨mb, 0, none⟩), .pointer (some ⟨rb, 0, none⟩), .pointer (some ⟨rmb, 0, none⟩)] 28)).alloc (.cells #[.int .i64 dk, .int .i64 i, .int .u32 r0, .bool r1, .int .i64 r2, .int .i64 r3, .int .u8 r4, dv] 60)) := ((Below.refl _ w).alloc (Nat.le_refl _) _).alloc (by simp) _
  have HF : Hid3 (Two B ((w.alloc (.cells #[.pointer (some ⟨db, 0, none⟩), .pointer (some ⟨mb, 0, none⟩), .pointer (some ⟨rb, 0, none⟩), .pointer (some ⟨rmb, 0, none⟩)] 28)).alloc (.cells #[.int .i64 dk, .int .i64 i, .int .u32 r0, .bool r1, .int .i64 r2, .int .i64 r3, .int .u8 r4, dv] 60)) db sb mb rb og rmb rg v u z ∧ Bw B w ((w.alloc (.cells #[.pointer (some ⟨db, 0, none⟩), .pointer (some ⟨mb, 0, none⟩), .pointer (some ⟨rb, 0, none⟩), .pointer (some ⟨rmb, 0, none⟩)] 28)).alloc (.cells #[.int .i64 dk, .int .i64 i, .int .u32 r0, .bool r1, .int .i64 r2, .int .i64 r3, .int .u8 r4, dv] 60))) := ⟨⟨h.below hb0, Bw.of hb0 hB⟩⟩
  rw [show ddS z ⟨dk, i, r0, r1, r2, r3, r4, dv, bs⟩ = z by unfold ddS; simp only; rw [if_neg k0, if_neg k1, if_neg k2, if_neg k3, if_neg k4, if_neg k5]]
  have e0 : (dk == 0) = false := beq_eq_false_iff_ne.2 k0
  have e1 : (dk == 1) = false := beq_eq_false_iff_ne.2 k1
  have e2 : (dk == 2) = false := beq_eq_false_iff_ne.2 k2
  have e3 : (dk == 3) = false := beq_eq_false_iff_ne.2 k3
  have e4 : (dk == 4) = false := beq_eq_false_iff_ne.2 k4
  have e5 : (dk == 5) = false := beq_eq_false_iff_ne.2 k5
  clear h hB hb0 hd hla
  go_enter Try.func23, Try.ntmps23
  go_wp2
  go_ret
  exact ⟨rfl, ⟨_, _, HF.out.1⟩, HF.out.2⟩
end Go.Proofs.Ytlnjpgcaciemnaa
