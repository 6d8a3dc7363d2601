/- The document's disk: Deliver whichever, Ask whichever, Fork. -/
import Derived.Test.YtlnjpgcaciemnaaDevWa
import Derived.Test.YtlnjpgcaciemnaaDevWae
import Derived.Test.YtlnjpgcaciemnaaDevWw
import Derived.Test.YtlnjpgcaciemnaaDevWwe
import Derived.Test.YtlnjpgcaciemnaaDevWr
import Derived.Test.YtlnjpgcaciemnaaDevWre
namespace Go.Proofs.Ytlnjpgcaciemnaa
open Go.RowKit Go.Maps
set_option linter.unusedVariables false
set_option maxRecDepth 100000
/-- The document's disk and memory. -/
structure RSt (B : Nat) (X : Nat → Prop) (w : World) (rb og n mb rg N : Nat) (u : Value) (z : Sd) : Prop where
  k : Rk B X w rb og n z.S u z.last z.Q
  m : RMem w mb rg (32 * N) z.L
  xg : X rg
  xm : ¬ X mb
  gm : B ≤ mb
  gg : B ≤ rg
def RStp (B : Nat) (X : Nat → Prop) (w w' : World) (rb og n mb rg N : Nat) (z : Sd) : Prop := ∃ u, RSt B X w' rb og n mb rg N u z ∧ Apart (DX rb og rg) w w'
theorem RSt.below {B : Nat} {X : Nat → Prop} {w w' : World} {rb og n mb rg N : Nat} {u : Value} {z : Sd} (h : RSt B X w rb og n mb rg N u z) (k : Below w.heap.size w w') : RSt B X w' rb og n mb rg N u z := ⟨h.k.below k, h.m.below k, h.xg, h.xm, h.gm, h.gg⟩
theorem RSt.still {B : Nat} {X : Nat → Prop} {w w' : World} {rb og n mb rg N : Nat} {u : Value} {z : Sd} (h : RSt B X w rb og n mb rg N u z) (k : Below w.heap.size w w') : RStp B X w w' rb og n mb rg N z := ⟨u, h.below k, Apart.of_below k⟩
theorem RStp.bel {B : Nat} {X : Nat → Prop} {w w' : World} {rb og n mb rg N : Nat} {u : Value} {z z' : Sd} (h0 : RSt B X w rb og n mb rg N u z') (h : RStp B X w w' rb og n mb rg N z) (hB : B ≤ w.heap.size) : Below B w w' := by
  obtain ⟨_, _, a⟩ := h
  refine a.below B (fun k hk => ?_) hB
  rcases hk with rfl | rfl | rfl
  · exact h0.k.gr
  · exact h0.k.gg
  · exact h0.gg
/-- Of a step that leaves its memory. -/
theorem RSt.of {B : Nat} {X Y : Nat → Prop} {w w' : World} {rb og n mb rg N : Nat} {u u' : Value} {z z' : Sd} (h : RSt B X w rb og n mb rg N u z) (hk : Rk B X w' rb og n z'.S u' z'.last z'.Q) (ha : Apart Y w w') (hL : z'.L = z.L) (hY : ∀ k, Y k → k = rb ∨ k = og) : RStp B X w w' rb og n mb rg N z' := by
  obtain ⟨⟨n1, n2⟩, n3, n4⟩ := h.k.mem_ne h.m
  refine ⟨u', ⟨hk, ?_, h.xg, h.xm, h.gm, h.gg⟩, ha.wide (fun k _ e => (hY k e).imp id .inl)⟩
  rw [hL]
  exact h.m.stay ha (fun e => (hY _ e).elim n1 n2) (fun e => (hY _ e).elim n3 n4)
theorem askr_any (B : Nat) (X : Nat → Prop) (rb og n mb rg N : Nat) (u : Value) (z : Sd) (r0 : Int) (r1 : Bool) (r2 r3 r4 : Int) (w : World) (h : RSt B X w rb og n mb rg N u z) (hX : ∀ g, X g → g < w.heap.size) (hla : z.last < 1000000) : Calls Try.prog 48 #[.pointer (some ⟨rb, 0, none⟩), .agg #[.int .u32 r0, .bool r1, .int .i64 r2, .int .i64 r3, .int .u8 r4]] w fun e w' => e = .returned (.tuple #[.int .u32 (askN n z r2 r3), .int .i64 (askE n z.Q.length r2 r3)]) ∧ RStp B X w w' rb og n mb rg N (askS n z (r1, r2, r3, r4)) := by
  unfold askN askS
  by_cases hc : 0 ≤ r2 ∧ r2 < n ∧ 0 ≤ r3 ∧ r3 < 64
  · by_cases hq : z.Q.length < 8
    · have e : askE n z.Q.length r2 r3 = 0 := by unfold askE; rw [if_pos hc, if_pos hq]
      simp only [e, if_true]
      refine (rask_ok B X rb og n z.S u z.last z.Q r0 r1 r2 r3 r4 w h.k hX (by omega) (by omega) (by omega) (by omega) (by omega) hla).mono ?_
      rintro e w' ⟨rfl, u', hk, ha⟩
      exact ⟨rfl, h.of (z' := { z with last := z.last + 1, Q := z.Q ++ [(z.last + 1, r1, r2, r3, r4)] }) hk ha rfl (fun k e => .inl e)⟩
    · have e : askE n z.Q.length r2 r3 = 4 := by unfold askE; rw [if_pos hc, if_neg hq]
      simp only [e, show ((4 : Int) = 0) = False from by simp, if_false]
      refine (rask_full B X rb og n z.S u z.last z.Q r0 r1 r2 r3 r4 w h.k (by omega) (by omega) (by omega) (by omega) (by omega)).mono ?_
      rintro e w' ⟨rfl, hb⟩
      exact ⟨rfl, h.still hb⟩
  · have e : askE n z.Q.length r2 r3 = 2 := by unfold askE; rw [if_neg hc]
    simp only [e, show ((2 : Int) = 0) = False from by simp, if_false]
    have fin : ∀ {P : Ending → World → Prop}, (∀ e w', P e w' → e = .returned (.tuple #[.int .u32 0, .int .i64 2]) ∧ Below w.heap.size w w') → Calls Try.prog 48 #[.pointer (some ⟨rb, 0, none⟩), .agg #[.int .u32 r0, .bool r1, .int .i64 r2, .int .i64 r3, .int .u8 r4]] w P → Calls Try.prog 48 #[.pointer (some ⟨rb, 0, none⟩), .agg #[.int .u32 r0, .bool r1, .int .i64 r2, .int .i64 r3, .int .u8 r4]] w fun e w' => e = .returned (.tuple #[.int .u32 0, .int .i64 2]) ∧ RStp B X w w' rb og n mb rg N z := fun hP hc => hc.mono (fun e w' hp => ⟨(hP e w' hp).1, h.still (hP e w' hp).2⟩)
    by_cases g1 : r2 < 0
    · exact fin (fun _ _ x => x) (rask_b0 B X rb og n z.S u z.last z.Q r0 r1 r2 r3 r4 w h.k g1)
    by_cases g2 : (n : Int) ≤ r2
    · exact fin (fun _ _ x => x) (rask_b1 B X rb og n z.S u z.last z.Q r0 r1 r2 r3 r4 w h.k g1 g2)
    by_cases g3 : r3 < 0
    · exact fin (fun _ _ x => x) (rask_b2 B X rb og n z.S u z.last z.Q r0 r1 r2 r3 r4 w h.k g1 g2 g3)
    · exact fin (fun _ _ x => x) (rask_b3 B X rb og n z.S u z.last z.Q r0 r1 r2 r3 r4 w h.k g1 g2 g3 (by omega))
theorem dlvr_any (B : Nat) (X : Nat → Prop) (rb og n mb rg N : Nat) (u : Value) (z : Sd) (i : Int) (w : World) (h : RSt B X w rb og n mb rg N u z) (hX : ∀ g, X g → g < w.heap.size) (hW : Wq n z.last z.Q) (hN64 : N ≤ 64) : Calls Try.prog 49 #[.pointer (some ⟨rb, 0, none⟩), .int .i64 i, .pointer (some ⟨mb, 0, none⟩)] w fun e w' => e = .returned (.tuple #[rqV (dlR z i), .int .i64 (dlE N z i)]) ∧ RStp B X w w' rb og n mb rg N (dlS N z i) := by
  unfold dlR dlE dlS
  cases hq : qAt z.Q i with
  | none =>
    refine (rdeliver_no B X rb og n mb z.S u z.last z.Q i w h.k (qAt_none hq)).mono ?_
    rintro e w' ⟨rfl, hb⟩
    exact ⟨rfl, h.still hb⟩
  | some r =>
    obtain ⟨j, rfl, hj⟩ := qAt_some hq
    have hmem := List.mem_of_getElem? hj
    have hs := hW.s r hmem
    have hf := hW.f r hmem
    obtain ⟨r0, r1, r2, r3, r4⟩ := r
    obtain ⟨s, rfl⟩ := Int.eq_ofNat_of_zero_le hs.1
    simp only at hs hf
    rw [Int.toNat_natCast]
    simp only [Option.getD_some, Int.toNat_natCast]
    obtain ⟨a, cap, eu, _⟩ := h.k.form
    have hsn : s < n := by omega
    have hce : ∀ a' l' cap', u = .slice a' l' cap' → cap' = cap := fun a' l' cap' e => by rw [eu] at e; injection e with _ _ e; exact e.symm
    have fin : ∀ (S2 L2 : List Int) (er : Int), mvS z.S z.L r1 s r3 N = S2 → mvL z.S z.L r1 s r3 N = L2 → (if r3 < (N : Int) then (0 : Int) else 10) = er → (Calls Try.prog 49 #[.pointer (some ⟨rb, 0, none⟩), .int .i64 j, .pointer (some ⟨mb, 0, none⟩)] w fun e w' => e = .returned (.tuple #[.agg #[.int .u32 r0, .bool r1, .int .i64 s, .int .i64 r3, .int .u8 r4], .int .i64 er]) ∧ ∃ u', Rk B X w' rb og n S2 u' z.last (z.Q.take j ++ z.Q.drop (j + 1)) ∧ RMem w' mb rg (32 * N) L2 ∧ Apart (DX rb og rg) w w') →
        Calls Try.prog 49 #[.pointer (some ⟨rb, 0, none⟩), .int .i64 j, .pointer (some ⟨mb, 0, none⟩)] w fun e w' => e = .returned (.tuple #[rqV (r0, r1, (s : Int), r3, r4), .int .i64 (if r3 < (N : Int) then 0 else 10)]) ∧ RStp B X w w' rb og n mb rg N ⟨mvS z.S z.L r1 s r3 N, mvL z.S z.L r1 s r3 N, z.last, z.Q.take j ++ z.Q.drop (j + 1)⟩ := fun S2 L2 er e1 e2 e3 hc => by
      rw [e1, e2, e3]
      exact hc.mono (fun e w' ⟨he, u', hk, hm, ha⟩ => ⟨he, u', ⟨hk, hm, h.xg, h.xm, h.gm, h.gg⟩, ha⟩)
    by_cases hN : r3 < (N : Int)
    · cases r1 with
      | true =>
        refine fin _ _ 0 (by unfold mvS; rw [if_pos ⟨hN, rfl⟩]) (by unfold mvL; rw [if_neg (fun c => by cases c.2)]) (if_pos hN) ?_
        by_cases he : cap = j + 1
        · exact rdeliver_we B X rb og n mb rg N j s z.S z.L u z.last z.Q r0 r3 r4 w h.k h.m hX h.xg hj hsn hf.1 hN hN64 (fun a' l' cap' e => by rw [hce a' l' cap' e]; exact he)
        · exact rdeliver_w B X rb og n mb rg N j s z.S z.L u z.last z.Q r0 r3 r4 w h.k h.m hX h.xg hj hsn hf.1 hN hN64 (fun a' l' cap' e => by rw [hce a' l' cap' e]; exact he)
      | false =>
        refine fin _ _ 0 (by unfold mvS; rw [if_neg (fun c => by cases c.2)]) (by unfold mvL; rw [if_pos ⟨hN, rfl⟩]) (if_pos hN) ?_
        by_cases he : cap = j + 1
        · exact rdeliver_re B X rb og n mb rg N j s z.S z.L u z.last z.Q r0 r3 r4 w h.k h.m hX h.xg hj hsn hf.1 hN hN64 (fun a' l' cap' e => by rw [hce a' l' cap' e]; exact he)
        · exact rdeliver_r B X rb og n mb rg N j s z.S z.L u z.last z.Q r0 r3 r4 w h.k h.m hX h.xg hj hsn hf.1 hN hN64 (fun a' l' cap' e => by rw [hce a' l' cap' e]; exact he)
    · refine fin _ _ 10 (by unfold mvS; rw [if_neg (fun c => hN c.1)]) (by unfold mvL; rw [if_neg (fun c => hN c.1)]) (if_neg hN) ?_
      by_cases he : cap = j + 1
      · exact rdeliver_ae B X rb og n mb rg N j s z.S z.L u z.last z.Q r0 r3 r4 r1 w h.k h.m hX h.xg hj hsn hf.1 (by omega) hN64 (fun a' l' cap' e => by rw [hce a' l' cap' e]; exact he)
      · exact rdeliver_a B X rb og n mb rg N j s z.S z.L u z.last z.Q r0 r3 r4 r1 w h.k h.m hX h.xg hj hsn hf.1 (by omega) hN64 (fun a' l' cap' e => by rw [hce a' l' cap' e]; exact he)
theorem setr_any (B B0 : Nat) (X : Nat → Prop) (rb og n mb rg N : Nat) (u : Value) (z : Sd) (i : Int) (v : Value) (bs : List Int) (w : World) (h : RSt B X w rb og n mb rg N u z) (hX : ∀ g, X g → g < w.heap.size) (hu : Byts B0 w v bs) : Calls Try.prog 54 #[.pointer (some ⟨rb, 0, none⟩), .int .i64 i, v] w fun e w' => e = .returned (.int .i64 (stE n i bs.length)) ∧ RStp B X w w' rb og n mb rg N (stS n z i bs) := by
  refine (rsetp_any B B0 X rb og n z.S u z.last z.Q i v bs w h.k hX hu).mono ?_
  rintro e w' ⟨rfl, hk, ha⟩
  refine ⟨rfl, ?_⟩
  unfold stS
  by_cases he : stE n i bs.length = 0
  · rw [if_pos he] at hk ⊢
    exact h.of (z' := { z with S := putL z.S (i.toNat * 32) bs }) hk ha rfl (fun k e => .inr e)
  · rw [if_neg he] at hk ⊢
    exact h.of hk ha rfl (fun k e => .inr e)
theorem cancelr_any (B : Nat) (X : Nat → Prop) (rb og n mb rg N : Nat) (u : Value) (z : Sd) (f : Int) (w : World) (h : RSt B X w rb og n mb rg N u z) (hX : ∀ g, X g → g < w.heap.size) (hW : Wq n z.last z.Q) : Calls Try.prog 51 #[.pointer (some ⟨rb, 0, none⟩), .int .i64 f] w fun e w' => (∃ v, e = .returned v ∧ w'.ownsRow w.heap.size 43 1 v (outI (fun r => decide (r.2.2.2.1 = f)) z.Q).length (idCs (outI (fun r => decide (r.2.2.2.1 = f)) z.Q))) ∧ RStp B X w w' rb og n mb rg N { z with Q := outQ (fun r => decide (r.2.2.2.1 = f)) z.Q } := by
  refine (rcancel_any B X rb og n z.S u z.last z.Q f w h.k hX hW).mono ?_
  rintro e w' ⟨hv, u', hk, ha⟩
  exact ⟨hv, h.of (z' := { z with Q := outQ (fun r => decide (r.2.2.2.1 = f)) z.Q }) hk ha rfl (fun k e => .inl e)⟩
theorem dropr_any (B : Nat) (X : Nat → Prop) (rb og n mb rg N : Nat) (u : Value) (z : Sd) (f : Int) (w : World) (h : RSt B X w rb og n mb rg N u z) (hX : ∀ g, X g → g < w.heap.size) : Calls Try.prog 52 #[.pointer (some ⟨rb, 0, none⟩), .int .u8 f] w fun e w' => (∃ v, e = .returned v ∧ w'.ownsRow w.heap.size 43 1 v (outI (fun r => decide (r.2.2.2.2 = f)) z.Q).length (idCs (outI (fun r => decide (r.2.2.2.2 = f)) z.Q))) ∧ RStp B X w w' rb og n mb rg N { z with Q := outQ (fun r => decide (r.2.2.2.2 = f)) z.Q } := by
  refine (rdrop_any B X rb og n z.S u z.last z.Q f w h.k hX).mono ?_
  rintro e w' ⟨hv, u', hk, ha⟩
  exact ⟨hv, h.of (z' := { z with Q := outQ (fun r => decide (r.2.2.2.2 = f)) z.Q }) hk ha rfl (fun k e => .inl e)⟩
end Go.Proofs.Ytlnjpgcaciemnaa
