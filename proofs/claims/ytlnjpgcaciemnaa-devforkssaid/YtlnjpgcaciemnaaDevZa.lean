/- Both: a deed: Ask, Deliver. -/
import Derived.Test.YtlnjpgcaciemnaaDevZ
namespace Go.Proofs.Ytlnjpgcaciemnaa
open Go.RowKit Go.Maps
set_option linter.unusedVariables false
set_option maxRecDepth 100000
set_option maxHeartbeats 8000000 in
theorem ddo_0 (B B0 : Nat) (db sb mb rb og rmb rg : Nat) (v u : Value) (z : Sd) (i r0 : Int) (r1 : Bool) (r2 r3 r4 : Int) (dv : Value) (bs : List Int) (w : World) (h : Two B w db sb mb rb og rmb rg v u z) (hB : B ≤ w.heap.size) (hd : Byts B0 w dv bs) (hB0 : B0 ≤ B) (hla : z.last < 1000000) : Calls Try.prog 23 #[.agg #[.pointer (some ⟨db, 0, none⟩), .pointer (some ⟨mb, 0, none⟩), .pointer (some ⟨rb, 0, none⟩), .pointer (some ⟨rmb, 0, none⟩)], .agg #[.int .i64 0, .int .i64 i, .int .u32 r0, .bool r1, .int .i64 r2, .int .i64 r3, .int .u8 r4, dv]] w fun e w' => e = .returned (.bool true) ∧ (∃ v' u', Two B w' db sb mb rb og rmb rg v' u' (ddS z ⟨0, i, r0, r1, r2, r3, r4, dv, bs⟩)) ∧ Bw B w w' := by
  have hq1 := ddS_q h.q h.p.d.la.1 ⟨0, i, r0, r1, r2, r3, r4, dv, bs⟩
  rw [show ddS z ⟨0, i, r0, r1, r2, r3, r4, dv, bs⟩ = askS 5 z (r1, r2, r3, r4) from rfl] at hq1 ⊢
  have hb0 : Below w.heap.size w ((w.alloc (.cells #[.pointer (some ⟨db, 0, none⟩), .pointer (some ⟨mb, 0, none⟩), .pointer (some ⟨rb, 0, none⟩), .pointer (some ⟨rmb, 0, none⟩)] 28)).alloc (.cells #[.int .i64 0, .int .i64 i, .int .u32 r0, .bool r1, .int .i64 r2, .int .i64 r3, .int .u8 r4, dv] 60)) := ((Below.refl _ w).alloc (Nat.le_refl _) _).alloc (by simp) _
  have hX0 : ((w.alloc (.cells #[.pointer (some ⟨db, 0, none⟩), .pointer (some ⟨mb, 0, none⟩), .pointer (some ⟨rb, 0, none⟩), .pointer (some ⟨rmb, 0, none⟩)] 28)).alloc (.cells #[.int .i64 0, .int .i64 i, .int .u32 r0, .bool r1, .int .i64 r2, .int .i64 r3, .int .u8 r4, dv] 60)).heap[w.heap.size]? = some (.cells #[.pointer (some ⟨db, 0, none⟩), .pointer (some ⟨mb, 0, none⟩), .pointer (some ⟨rb, 0, none⟩), .pointer (some ⟨rmb, 0, none⟩)] 28) := (Lib.alloc_old _ _ _ (by simp)).trans (heap_alloc_last w _)
  have hY0 : ((w.alloc (.cells #[.pointer (some ⟨db, 0, none⟩), .pointer (some ⟨mb, 0, none⟩), .pointer (some ⟨rb, 0, none⟩), .pointer (some ⟨rmb, 0, none⟩)] 28)).alloc (.cells #[.int .i64 0, .int .i64 i, .int .u32 r0, .bool r1, .int .i64 r2, .int .i64 r3, .int .u8 r4, dv] 60)).heap[w.heap.size + 1]? = some (.cells #[.int .i64 0, .int .i64 i, .int .u32 r0, .bool r1, .int .i64 r2, .int .i64 r3, .int .u8 r4, dv] 60) := by
    have := heap_alloc_last (w.alloc (.cells #[.pointer (some ⟨db, 0, none⟩), .pointer (some ⟨mb, 0, none⟩), .pointer (some ⟨rb, 0, none⟩), .pointer (some ⟨rmb, 0, none⟩)] 28)) (.cells #[.int .i64 0, .int .i64 i, .int .u32 r0, .bool r1, .int .i64 r2, .int .i64 r3, .int .u8 r4, dv] 60)
    rw [World.size_alloc] at this
    exact this
  have hs0 : ((w.alloc (.cells #[.pointer (some ⟨db, 0, none⟩), .pointer (some ⟨mb, 0, none⟩), .pointer (some ⟨rb, 0, none⟩), .pointer (some ⟨rmb, 0, none⟩)] 28)).alloc (.cells #[.int .i64 0, .int .i64 i, .int .u32 r0, .bool r1, .int .i64 r2, .int .i64 r3, .int .u8 r4, dv] 60)).heap.size = w.heap.size + 2 := by simp
  have hB00 : B ≤ ((w.alloc (.cells #[.pointer (some ⟨db, 0, none⟩), .pointer (some ⟨mb, 0, none⟩), .pointer (some ⟨rb, 0, none⟩), .pointer (some ⟨rmb, 0, none⟩)] 28)).alloc (.cells #[.int .i64 0, .int .i64 i, .int .u32 r0, .bool r1, .int .i64 r2, .int .i64 r3, .int .u8 r4, dv] 60)).heap.size := by omega
  have h0 := h.below hb0
  have cP := askp_any B db sb 5 mb 4 v z r0 r1 r2 r3 r4 _ h0.p hla hB00
  have cR : Hid3 (∀ W1 v1, RSt B (PR db sb mb rg v1) W1 rb og 5 rmb rg 4 u z → (∀ g, PR db sb mb rg v1 g → g < W1.heap.size) → Calls Try.prog 48 #[.pointer (some ⟨rb, 0, none⟩), .agg #[.int .u32 r0, .bool r1, .int .i64 r2, .int .i64 r3, .int .u8 r4]] W1 fun e w' => e = .returned (.tuple #[.int .u32 (askN 5 z r2 r3), .int .i64 (askE 5 z.Q.length r2 r3)]) ∧ RStp B (PR db sb mb rg v1) W1 w' rb og 5 rmb rg 4 (askS 5 z (r1, r2, r3, r4))) := ⟨fun W1 v1 h1 hx => askr_any B _ rb og 5 rmb rg 4 u z r0 r1 r2 r3 r4 W1 h1 hx hla⟩
  have HP : Hid3 (∀ W1, PStp B ((w.alloc (.cells #[.pointer (some ⟨db, 0, none⟩), .pointer (some ⟨mb, 0, none⟩), .pointer (some ⟨rb, 0, none⟩), .pointer (some ⟨rmb, 0, none⟩)] 28)).alloc (.cells #[.int .i64 0, .int .i64 i, .int .u32 r0, .bool r1, .int .i64 r2, .int .i64 r3, .int .u8 r4, dv] 60)) W1 db sb 5 mb 4 v (askS 5 z (r1, r2, r3, r4)) → _) := ⟨fun W1 => h.goP hb0 hB⟩
  have HT := Hid3.mk h
  have HX := Hid3.mk (And.intro hX0 hY0)
  have HQ := Hid3.mk hq1
  have HS := Hid3.mk hs0
  have HB := Hid3.mk hB
  clear h h0 hb0 hX0 hY0 hq1 hs0 hd hla hB00
  generalize askS 5 z (r1, r2, r3, r4) = z1 at *
  generalize askN 5 z r2 r3 = aN at *
  generalize askE 5 z.Q.length r2 r3 = aE at *
  go_enter Try.func23, Try.ntmps23
  go_wp2_with fail
  refine cP.mono ?_
  rintro e W1 ⟨rfl, hS1⟩
  clear cP
  obtain ⟨v1, hpr, hx1, hk1, hB1, hs1⟩ := HP.out W1 hS1
  have hX1 := (hk1 w.heap.size (Nat.le_refl _) (by have := HS.out; omega)).trans HX.out.1
  have hY1 := (hk1 (w.heap.size + 1) (by omega) (by have := HS.out; omega)).trans HX.out.2
  have cR1 := cR.out W1 v1 hpr.2 hx1
  have HR := Hid3.mk (fun W2 (h2 : RStp B (PR db sb mb rg v1) W1 W2 rb og 5 rmb rg 4 z1) => HT.out.goR hpr hB1 HB.out h2 HQ.out)
  obtain ⟨x0, x1, x2, x3⟩ := b4c hX1
  obtain ⟨y0, y1, y2, y3, y4, y5, y6, y7⟩ := b8c hY1
  clear hS1 hpr hx1 hk1 hB1 hX1 hY1 cR HP
  go_wp2_with fail
  refine cR1.mono ?_
  rintro e W2 ⟨rfl, hS2⟩
  obtain ⟨u2, hT2, hB2, _, _⟩ := HR.out W2 hS2
  have HF := Hid3.mk (And.intro hT2 hB2)
  clear cR1 hS2 hT2 hB2 HR
  go_wp2
  go_ret
  exact ⟨rfl, ⟨_, _, HF.out.1⟩, HF.out.2⟩
set_option maxHeartbeats 8000000 in
theorem ddo_1 (B B0 : Nat) (db sb mb rb og rmb rg : Nat) (v u : Value) (z : Sd) (i r0 : Int) (r1 : Bool) (r2 r3 r4 : Int) (dv : Value) (bs : List Int) (w : World) (h : Two B w db sb mb rb og rmb rg v u z) (hB : B ≤ w.heap.size) (hd : Byts B0 w dv bs) (hB0 : B0 ≤ B) (hla : z.last < 1000000) : Calls Try.prog 23 #[.agg #[.pointer (some ⟨db, 0, none⟩), .pointer (some ⟨mb, 0, none⟩), .pointer (some ⟨rb, 0, none⟩), .pointer (some ⟨rmb, 0, none⟩)], .agg #[.int .i64 1, .int .i64 i, .int .u32 r0, .bool r1, .int .i64 r2, .int .i64 r3, .int .u8 r4, dv]] w fun e w' => e = .returned (.bool true) ∧ (∃ v' u', Two B w' db sb mb rb og rmb rg v' u' (ddS z ⟨1, i, r0, r1, r2, r3, r4, dv, bs⟩)) ∧ Bw B w w' := by
  have hq1 := ddS_q h.q h.p.d.la.1 ⟨1, i, r0, r1, r2, r3, r4, dv, bs⟩
  rw [show ddS z ⟨1, i, r0, r1, r2, r3, r4, dv, bs⟩ = dlS 4 z i from rfl] at hq1 ⊢
  have hb0 : Below w.heap.size w ((w.alloc (.cells #[.pointer (some ⟨db, 0, none⟩), .pointer (some ⟨mb, 0, none⟩), .pointer (some ⟨rb, 0, none⟩), .pointer (some ⟨rmb, 0, none⟩)] 28)).alloc (.cells #[.int .i64 1, .int .i64 i, .int .u32 r0, .bool r1, .int .i64 r2, .int .i64 r3, .int .u8 r4, dv] 60)) := ((Below.refl _ w).alloc (Nat.le_refl _) _).alloc (by simp) _
  have hX0 : ((w.alloc (.cells #[.pointer (some ⟨db, 0, none⟩), .pointer (some ⟨mb, 0, none⟩), .pointer (some ⟨rb, 0, none⟩), .pointer (some ⟨rmb, 0, none⟩)] 28)).alloc (.cells #[.int .i64 1, .int .i64 i, .int .u32 r0, .bool r1, .int .i64 r2, .int .i64 r3, .int .u8 r4, dv] 60)).heap[w.heap.size]? = some (.cells #[.pointer (some ⟨db, 0, none⟩), .pointer (some ⟨mb, 0, none⟩), .pointer (some ⟨rb, 0, none⟩), .pointer (some ⟨rmb, 0, none⟩)] 28) := (Lib.alloc_old _ _ _ (by simp)).trans (heap_alloc_last w _)
  have hY0 : ((w.alloc (.cells #[.pointer (some ⟨db, 0, none⟩), .pointer (some ⟨mb, 0, none⟩), .pointer (some ⟨rb, 0, none⟩), .pointer (some ⟨rmb, 0, none⟩)] 28)).alloc (.cells #[.int .i64 1, .int .i64 i, .int .u32 r0, .bool r1, .int .i64 r2, .int .i64 r3, .int .u8 r4, dv] 60)).heap[w.heap.size + 1]? = some (.cells #[.int .i64 1, .int .i64 i, .int .u32 r0, .bool r1, .int .i64 r2, .int .i64 r3, .int .u8 r4, dv] 60) := by
    have := heap_alloc_last (w.alloc (.cells #[.pointer (some ⟨db, 0, none⟩), .pointer (some ⟨mb, 0, none⟩), .pointer (some ⟨rb, 0, none⟩), .pointer (some ⟨rmb, 0, none⟩)] 28)) (.cells #[.int .i64 1, .int .i64 i, .int .u32 r0, .bool r1, .int .i64 r2, .int .i64 r3, .int .u8 r4, dv] 60)
    rw [World.size_alloc] at this
    exact this
  have hs0 : ((w.alloc (.cells #[.pointer (some ⟨db, 0, none⟩), .pointer (some ⟨mb, 0, none⟩), .pointer (some ⟨rb, 0, none⟩), .pointer (some ⟨rmb, 0, none⟩)] 28)).alloc (.cells #[.int .i64 1, .int .i64 i, .int .u32 r0, .bool r1, .int .i64 r2, .int .i64 r3, .int .u8 r4, dv] 60)).heap.size = w.heap.size + 2 := by simp
  have hB00 : B ≤ ((w.alloc (.cells #[.pointer (some ⟨db, 0, none⟩), .pointer (some ⟨mb, 0, none⟩), .pointer (some ⟨rb, 0, none⟩), .pointer (some ⟨rmb, 0, none⟩)] 28)).alloc (.cells #[.int .i64 1, .int .i64 i, .int .u32 r0, .bool r1, .int .i64 r2, .int .i64 r3, .int .u8 r4, dv] 60)).heap.size := by omega
  have h0 := h.below hb0
  have hW := h.q
  have cP := dlvp_any B db sb 5 mb 4 v z i _ h0.p hW
  have cR : Hid3 (∀ W1 v1, RSt B (PR db sb mb rg v1) W1 rb og 5 rmb rg 4 u z → (∀ g, PR db sb mb rg v1 g → g < W1.heap.size) → Calls Try.prog 49 #[.pointer (some ⟨rb, 0, none⟩), .int .i64 i, .pointer (some ⟨rmb, 0, none⟩)] W1 fun e w' => e = .returned (.tuple #[rqV (dlR z i), .int .i64 (dlE 4 z i)]) ∧ RStp B (PR db sb mb rg v1) W1 w' rb og 5 rmb rg 4 (dlS 4 z i)) := ⟨fun W1 v1 h1 hx => dlvr_any B _ rb og 5 rmb rg 4 u z i W1 h1 hx hW (by decide)⟩
  have HP : Hid3 (∀ W1, PStp B ((w.alloc (.cells #[.pointer (some ⟨db, 0, none⟩), .pointer (some ⟨mb, 0, none⟩), .pointer (some ⟨rb, 0, none⟩), .pointer (some ⟨rmb, 0, none⟩)] 28)).alloc (.cells #[.int .i64 1, .int .i64 i, .int .u32 r0, .bool r1, .int .i64 r2, .int .i64 r3, .int .u8 r4, dv] 60)) W1 db sb 5 mb 4 v (dlS 4 z i) → _) := ⟨fun W1 => h.goP hb0 hB⟩
  have HT := Hid3.mk h
  have HX := Hid3.mk (And.intro hX0 hY0)
  have HQ := Hid3.mk hq1
  have HS := Hid3.mk hs0
  have HB := Hid3.mk hB
  have eG := eqGuardR
  clear h h0 hb0 hX0 hY0 hq1 hs0 hd hla hW hB00
  generalize dlS 4 z i = z1 at *
  generalize dlE 4 z i = aE at *
  generalize dlR z i = rq at *
  obtain ⟨q0, q1, q2, q3, q4⟩ := rq
  have eM := fun w => eqRq w q0 q2 q3 q4 q1
  unfold rqV at *
  simp only at cP cR
  go_enter Try.func23, Try.ntmps23
  go_wp2_with fail
  refine cP.mono ?_
  rintro e W1 ⟨rfl, hS1⟩
  clear cP
  obtain ⟨v1, hpr, hx1, hk1, hB1, hs1⟩ := HP.out W1 hS1
  have hs2 : w.heap.size + 2 ≤ W1.heap.size := by have := HS.out; omega
  have hX1 := (hk1 w.heap.size (Nat.le_refl _) (by have := HS.out; omega)).trans HX.out.1
  have hY1 := (hk1 (w.heap.size + 1) (by omega) (by have := HS.out; omega)).trans HX.out.2
  have hba : Below W1.heap.size W1 (W1.alloc (.cells #[.int .u32 q0, .bool q1, .int .i64 q2, .int .i64 q3, .int .u8 q4] 45)) := (Below.refl _ W1).alloc (Nat.le_refl _) _
  have hA1 : (W1.alloc (.cells #[.int .u32 q0, .bool q1, .int .i64 q2, .int .i64 q3, .int .u8 q4] 45)).heap[W1.heap.size]? = some (.cells #[.int .u32 q0, .bool q1, .int .i64 q2, .int .i64 q3, .int .u8 q4] 45) := heap_alloc_last W1 _
  have cR1 := cR.out (W1.alloc (.cells #[.int .u32 q0, .bool q1, .int .i64 q2, .int .i64 q3, .int .u8 q4] 45)) v1 (hpr.2.below hba) (fun g hg => Nat.lt_of_lt_of_le (hx1 g hg) hba.size)
  have HR := Hid3.mk (fun W2 (h2 : RStp B (PR db sb mb rg v1) (W1.alloc (.cells #[.int .u32 q0, .bool q1, .int .i64 q2, .int .i64 q3, .int .u8 q4] 45)) W2 rb og 5 rmb rg 4 z1) => HT.out.goR ⟨hpr.1.below hba, hpr.2.below hba⟩ (hB1.thenB hba HB.out) HB.out h2 HQ.out)
  obtain ⟨x0, x1, x2, x3⟩ := b4c ((hba.block _ (by omega)).trans hX1)
  obtain ⟨y0, y1, y2, y3, y4, y5, y6, y7⟩ := b8c ((hba.block _ (by omega)).trans hY1)
  have HA1 := Hid3.mk hA1
  have n1 : w.heap.size ≠ W1.heap.size := by omega
  have n2 : w.heap.size + 1 ≠ W1.heap.size := by omega
  clear hS1 hpr hx1 hk1 hB1 hX1 hY1 cR HP hba hA1
  go_wp2_with fail
  refine cR1.mono ?_
  rintro e W2 ⟨rfl, hS2⟩
  obtain ⟨u2, hT2, hB2, hk2, hs3⟩ := HR.out W2 hS2
  have hA2 := (hk2 W1.heap.size (by omega) (by simp)).trans HA1.out
  obtain ⟨a0, a1, a2, a3, a4⟩ := b5m hA2
  have hs4 : W1.heap.size < W2.heap.size := by rw [World.size_alloc] at hs3; omega
  have n3 : W1.heap.size ≠ W2.heap.size := by omega
  have HF : Hid3 (∀ o, Two B (W2.alloc o) db sb mb rb og rmb rg v1 u2 z1 ∧ Bw B w (W2.alloc o)) := ⟨fun o => ⟨hT2.below ((Below.refl _ W2).alloc (Nat.le_refl _) o), hB2.thenB ((Below.refl _ W2).alloc (Nat.le_refl _) o) HB.out⟩⟩
  clear cR1 hS2 hT2 hB2 HR hk2 hA2 hs3
  go_wp2
  go_ret
  exact ⟨rfl, ⟨_, _, (HF.out _).1⟩, (HF.out _).2⟩
end Go.Proofs.Ytlnjpgcaciemnaa
