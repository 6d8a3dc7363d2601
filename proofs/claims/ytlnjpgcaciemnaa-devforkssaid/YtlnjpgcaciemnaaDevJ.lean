/- A disk's queue: those that are out. -/
import Derived.Test.YtlnjpgcaciemnaaDevI
namespace Go.Proofs.Ytlnjpgcaciemnaa
open Go.RowKit Go.Maps
set_option linter.unusedVariables false
set_option maxRecDepth 100000
/-- Requests that can be read. -/
def RqS (X : Nat → Prop) (w : World) (u : Value) (Q : List Rq) : Prop := ∃ a cap, u = .slice a Q.length cap ∧ Q.length ≤ cap ∧ (a = none → cap = 0) ∧ ∀ j x, (rqsCs Q)[j]? = some x → ∃ g, a = some ⟨g, 0, none⟩ ∧ ¬ X g ∧ w.cell? ⟨g, j, none⟩ = some x
theorem RqS.of_own {B : Nat} {w : World} {u : Value} {Q : List Rq} (h : w.ownsRow B 45 5 u Q.length (rqsCs Q)) (X : Nat → Prop) (hX : ∀ g, B ≤ g → g < w.heap.size → ¬ X g) : RqS X w u Q := by
  rcases h.2 with ⟨hv, h0⟩ | ⟨g, cap, cur, rfl, hg, hblk, hk, hmx, hsz, htk⟩
  · obtain rfl : Q = [] := List.eq_nil_of_length_eq_zero h0
    exact ⟨none, 0, hv, Nat.le_refl _, fun _ => rfl, fun j x hj => by cases hj⟩
  · refine ⟨_, cap, rfl, hk, (fun e => by cases e), fun j x hj => ⟨g, rfl, hX g hg (Array.getElem?_eq_some_iff.1 hblk).1, ?_⟩⟩
    rw [cell_of_row w g j _ _ _ hblk]
    have hj2 : j < Q.length * 5 := by have := (List.getElem?_eq_some_iff.1 hj).1; rw [rqsCs_len] at this; exact this
    rw [← htk, List.getElem?_take, if_pos hj2] at hj
    simpa using hj
theorem RqS.at {X : Nat → Prop} {w : World} {a : Option Addr} {n cap : Nat} {Q : List Rq} (h : RqS X w (.slice a n cap) Q) (i : Nat) (r : Rq) (hr : Q[i]? = some r) : ∃ g, a = some ⟨g, 0, none⟩ ∧ ¬ X g ∧ w.cell? ⟨g, i * 5, none⟩ = some (.int .u32 r.1) ∧ w.cell? ⟨g, i * 5 + 1, none⟩ = some (.bool r.2.1) ∧ w.cell? ⟨g, i * 5 + 2, none⟩ = some (.int .i64 r.2.2.1) ∧ w.cell? ⟨g, i * 5 + 3, none⟩ = some (.int .i64 r.2.2.2.1) ∧ w.cell? ⟨g, i * 5 + 4, none⟩ = some (.int .u8 r.2.2.2.2) := by
  obtain ⟨a', cap', e, _, _, hc⟩ := h
  injection e with e1 e2 e3
  subst e1
  obtain ⟨h0, h1, h2, h3, h4⟩ := rqsCs_at Q i r hr
  obtain ⟨g, rfl, hx, c0⟩ := hc _ _ h0
  refine ⟨g, rfl, hx, c0, ?_, ?_, ?_, ?_⟩
  · obtain ⟨g', e, _, c⟩ := hc _ _ h1
    injection e with e
    injection e with e
    subst e
    exact c
  · obtain ⟨g', e, _, c⟩ := hc _ _ h2
    injection e with e
    injection e with e
    subst e
    exact c
  · obtain ⟨g', e, _, c⟩ := hc _ _ h3
    injection e with e
    injection e with e
    subst e
    exact c
  · obtain ⟨g', e, _, c⟩ := hc _ _ h4
    injection e with e
    injection e with e
    subst e
    exact c
theorem RqS.stay {X Y : Nat → Prop} {w w' : World} {u : Value} {Q : List Rq} (h : RqS X w u Q) (k : Apart Y w w') (hY : ∀ g, Y g → X g) : RqS X w' u Q := by
  obtain ⟨a, cap, e, hc, hn, h⟩ := h
  refine ⟨a, cap, e, hc, hn, fun j x hj => ?_⟩
  obtain ⟨g, e, hx, c⟩ := h j x hj
  refine ⟨g, e, hx, ?_⟩
  rw [World.cell?_of_block (w := w) (k.block g (World.block_lt_of_cell? w _ c) (fun y => hx (hY g y)))]
  exact c
theorem RqS.below {X : Nat → Prop} {w w' : World} {u : Value} {Q : List Rq} (h : RqS X w u Q) (k : Below w.heap.size w w') : RqS X w' u Q := h.stay (Y := fun _ => False) (Apart.of_below k) (fun _ e => e.elim)
/-- What may not be written is otherwise, but for what was not there yet. -/
theorem RqS.change {X Y : Nat → Prop} {w : World} {u : Value} {Q : List Rq} (h : RqS X w u Q) (hY : ∀ g, g < w.heap.size → Y g → X g) : RqS Y w u Q := by
  obtain ⟨a, cap, e, hc, hn, h⟩ := h
  refine ⟨a, cap, e, hc, hn, fun j x hj => ?_⟩
  obtain ⟨g, e, hx, c⟩ := h j x hj
  exact ⟨g, e, fun y => hx (hY g (World.block_lt_of_cell? w _ c) y), c⟩
theorem infoU32 : (Try.prog.info? 43).map (fun i => (i.zero, i.size, i.bytes)) = some (some (.int .u32 0), 1, 4) := by kernel_rfl
def idCs (l : List Int) : List Value := l.map (Value.int .u32)
theorem idCs_len (l : List Int) : (idCs l).length = l.length := List.length_map _
theorem Dk.requeue {B : Nat} {w w2 : World} {db sb n : Nat} {S : List Int} {u v : Value} {last : Int} {Q Q' : List Rq} (h : Dk B w db sb n S v last Q) (k : Below w.heap.size w w2) (hu : w2.ownsRow w.heap.size 45 5 u Q'.length (rqsCs Q')) (hl : Q'.length ≤ 8) (hB : B ≤ w.heap.size) : Dk B (w2.setCell ⟨db, 0, none⟩ u) db sb n S u last Q' ∧ Apart (fun k => k = db) w (w2.setCell ⟨db, 0, none⟩ u) := by
  obtain ⟨C, hC, e⟩ := h.blk
  obtain ⟨r, e2⟩ := h.row
  have hlt := h.lt
  have kd := (k.block db h.lt).trans e
  have ne : ∀ g, u.ownBlock = some g → g ≠ db := fun g hg => by have := (hu.lt g hg).1; omega
  refine ⟨⟨⟨C, hC, (set3 kd).1⟩, ⟨r, ?_⟩, h.len, ?_, h.n1, h.n64, hl, h.ge, h.gs, h.la⟩, (Apart.of_below k).trans (Apart.set w2 ⟨db, 0, none⟩ u)⟩
  · rw [Below.heap_setCell _ ⟨db, 0, none⟩ _ sb (Ne.symm h.ne)]
    exact (k.block sb h.lts).trans e2
  · have h3 := Apart.own hu (Apart.set w2 ⟨db, 0, none⟩ u) (fun g hg e => ne g hg e)
    refine ⟨h3.1, ?_⟩
    rcases h3.2 with h0 | ⟨g, cap, cur, a1, a2, a3⟩
    · exact .inl h0
    · exact .inr ⟨g, cap, cur, a1, by omega, a3⟩
theorem out_snoc (p : Rq → Bool) (Q : List Rq) (i : Nat) (r : Rq) (h : Q[i]? = some r) : outI p (Q.take (i + 1)) = outI p (Q.take i) ++ (if p r = true then [r.1] else []) ∧ outQ p (Q.take (i + 1)) = outQ p (Q.take i) ++ (if p r = true then [] else [r]) := by
  obtain ⟨hl, rfl⟩ := List.getElem?_eq_some_iff.1 h
  unfold outI outQ
  rw [List.take_succ_eq_append_getElem hl, List.filter_append, List.filter_append, List.map_append]
  cases hp : p Q[i] <;> simp [List.filter, hp]
theorem outI_len (p : Rq → Bool) (Q : List Rq) : (outI p Q).length ≤ Q.length := by unfold outI; rw [List.length_map]; exact List.length_filter_le _ _
theorem outQ_len (p : Rq → Bool) (Q : List Rq) : (outQ p Q).length ≤ Q.length := List.length_filter_le _ _
theorem outQ_sub (p : Rq → Bool) (Q : List Rq) : (outQ p Q).Sublist Q := List.filter_sublist
/-- A function value tells of each request whether it is so, wherever what it has caught lies as it did. -/
def PredR (g : Nat) (lb : Array Value) (p : Rq → Bool) (cb : Nat) (o : Obj) : Prop :=
  ∀ (W : World) (r : Rq), W.heap[cb]? = some o → Calls Try.prog g (#[rqV r] ++ lb) W fun e w' => e = .returned (.bool (p r)) ∧ Below W.heap.size W w'
set_option maxHeartbeats 1000000 in
theorem cancel_pred (f : Int) (cb : Nat) : PredR 45 #[.pointer (some ⟨cb, 0, none⟩)] (fun r => decide (r.2.2.2.1 = f)) cb (.cells #[.int .i64 f] 3) := by
  intro W m hc
  have hcb : cb < W.heap.size := (Array.getElem?_eq_some_iff.1 hc).1
  have k0 : W.cell? ⟨cb, 0, none⟩ = some (.int .i64 f) := by rw [Lib.cell_of_heap hc]; rfl
  have hne : cb ≠ W.heap.size := by omega
  obtain ⟨m0, m1, m2, m3, m4⟩ := m
  show Calls Try.prog 45 #[.agg #[.int .u32 m0, .bool m1, .int .i64 m2, .int .i64 m3, .int .u8 m4], .pointer (some ⟨cb, 0, none⟩)] W _
  have hfin : Hid3 ((m3 == f) = decide (m3 = f)) := ⟨rfl⟩
  clear hc
  go_enter Try.func45, Try.ntmps45
  go_wp2
  go_ret
  exact ⟨rfl, (Below.refl _ _).alloc (Nat.le_refl _) _⟩
set_option maxHeartbeats 1000000 in
theorem drop_pred (f : Int) (cb : Nat) : PredR 39 #[.pointer (some ⟨cb, 0, none⟩)] (fun r => decide (r.2.2.2.2 = f)) cb (.cells #[.int .u8 f] 5) := by
  intro W m hc
  have hcb : cb < W.heap.size := (Array.getElem?_eq_some_iff.1 hc).1
  have k0 : W.cell? ⟨cb, 0, none⟩ = some (.int .u8 f) := by rw [Lib.cell_of_heap hc]; rfl
  have hne : cb ≠ W.heap.size := by omega
  obtain ⟨m0, m1, m2, m3, m4⟩ := m
  show Calls Try.prog 39 #[.agg #[.int .u32 m0, .bool m1, .int .i64 m2, .int .i64 m3, .int .u8 m4], .pointer (some ⟨cb, 0, none⟩)] W _
  clear hc
  go_enter Try.func39, Try.ntmps39
  go_wp2
  go_ret
  exact ⟨rfl, (Below.refl _ _).alloc (Nat.le_refl _) _⟩
theorem own_wide {w w' : World} {B e z n : Nat} {v : Value} {xs : List Value} (h : w.ownsRow B e z v n xs) (k : Below w.heap.size w w') : w'.ownsRow B e z v n xs := Apart.own h (Apart.of_below k) (fun _ _ (e : False) => e)
theorem id_new (w : World) (x : Int) : ∀ j u, (idCs [x])[j]? = some u → (w.alloc (.cells #[.int .u32 x] 43)).cell? ((⟨w.heap.size, 0, none⟩ : Addr).add j) = some u := by
  intro j u hj
  rw [Addr.add_mid, Nat.zero_add, cell_of_row _ _ _ _ _ _ (heap_alloc_last w _)]
  simpa [idCs] using hj
set_option maxHeartbeats 4000000 in
theorem out_any (g0 : Nat) (lb : Array Value) (p : Rq → Bool) (cb : Nat) (o : Obj) (hp : PredR g0 lb p cb o) (eg : ∀ args w, (callFunc g0 args).run Try.prog w = .ok (.enter g0 args) w) (B db sb n mb N : Nat) (v : Value) (z : Sd) (w : World) (h : PSt B w db sb n mb N v z) (hc : w.heap[cb]? = some o) (hB : B ≤ w.heap.size) :
    Calls Try.prog 38 #[.pointer (some ⟨db, 0, none⟩), .func (.func g0) #[] lb] w fun e w' => (∃ u, e = .returned u ∧ w'.ownsRow w.heap.size 43 1 u (outI p z.Q).length (idCs (outI p z.Q))) ∧ PStp B w w' db sb n mb N v { z with Q := outQ p z.Q } := by
  obtain ⟨i0, hi0, hz0, hz1, hz2⟩ := info_parts infoU32
  obtain ⟨i5, hi5, hz5, hs5, hb5⟩ := info_parts infoR
  obtain ⟨C, hC, c0, c1, c2⟩ := h.d.c
  obtain ⟨a0, cap0, rfl⟩ := form5 h.d.own
  have hdl := h.d.lt
  have HS := Hid3.mk (RqS.of_own h.d.own (fun _ => False) (fun _ _ _ e => e))
  have HP := Hid3.mk h
  have HO : Hid3 (w.heap[cb]? = some o) := ⟨hc⟩
  have HPr := Hid3.mk hp
  have hcb : cb < w.heap.size := (Array.getElem?_eq_some_iff.1 hc).1
  have hfew := h.d.few
  obtain ⟨Q, hQ⟩ : ∃ Q, Q = z.Q := ⟨_, rfl⟩
  rw [← hQ] at c0 hfew HS ⊢
  have HQ := Hid3.mk hQ
  clear h hc hp hQ c1 c2
  go_enter Try.func38, Try.ntmps38
  go_wp2_with fail
  go_loopw [14, 5, 6] (fun s14 s5 s6 wr => ∃ (i : Nat) (a5 a6 : Value), i ≤ Q.length ∧ s14 = .int .i64 i ∧ a5 = s5 ∧ a6 = s6 ∧ Hid3 (wr.ownsRow w.heap.size 43 1 a5 (outI p (Q.take i)).length (idCs (outI p (Q.take i)))) ∧ Hid3 (wr.ownsRow w.heap.size 45 5 a6 (outQ p (Q.take i)).length (rqsCs (outQ p (Q.take i)))) ∧ Hid3 (Below w.heap.size w wr)) (fun s14 _ _ _ => Q.length - (intOf s14).toNat)
  case atStart => exact ⟨0, _, _, Nat.zero_le _, rfl, rfl, rfl, ⟨World.ownsRow_nil _ _ _ _⟩, ⟨World.ownsRow_nil _ _ _ _⟩, ⟨Below.refl _ _⟩⟩
  case round =>
    obtain ⟨i, a5, a6, hil, rfl, rfl, rfl, HI, HR, HB⟩ := hrel
    by_cases hlt : i < Q.length
    · have hltz : (i : Int) < (Q.length : Int) := by omega
      have hm : Q[i]? = some Q[i] := List.getElem?_eq_getElem hlt
      obtain ⟨g, rfl, _, d0, d1, d2, d3, d4⟩ := (HS.out.below HB.out).at i _ hm
      obtain ⟨hI, hR⟩ := out_snoc p Q i _ hm
      have lI := Nat.le_trans (outI_len p (Q.take i)) (List.length_take_le _ _)
      have lR := Nat.le_trans (outQ_len p (Q.take i)) (List.length_take_le _ _)
      have hcr := (HB.out.block cb hcb).trans HO.out
      generalize Q[i] = y at *
      obtain ⟨y0, y1, y2, y3, y4⟩ := y
      simp only at d0 d1 d2 d3 d4 hI
      have hsz := HB.out.size
      have hcall := HPr.out (wr.alloc (.cells #[.int .u32 y0, .bool y1, .int .i64 y2, .int .i64 y3, .int .u8 y4] 45)) (y0, y1, y2, y3, y4) ((Below.heap_alloc _ _ _ (by omega)).trans hcr)
      unfold rqV at hcall
      simp only at hcall
      have H1 : Hid3 ((wr.alloc (.cells #[.int .u32 y0, .bool y1, .int .i64 y2, .int .i64 y3, .int .u8 y4] 45)).heap[wr.heap.size]? = some (.cells #[.int .u32 y0, .bool y1, .int .i64 y2, .int .i64 y3, .int .u8 y4] 45)) := ⟨heap_alloc_last wr _⟩
      have HB1 : Hid3 (Below w.heap.size w (wr.alloc (.cells #[.int .u32 y0, .bool y1, .int .i64 y2, .int .i64 y3, .int .u8 y4] 45))) := ⟨HB.out.trans (((Below.refl _ wr).alloc (Nat.le_refl _) _).mono hsz)⟩
      have HIR : Hid3 ((wr.alloc (.cells #[.int .u32 y0, .bool y1, .int .i64 y2, .int .i64 y3, .int .u8 y4] 45)).ownsRow w.heap.size 43 1 a5 (outI p (Q.take i)).length (idCs (outI p (Q.take i))) ∧ (wr.alloc (.cells #[.int .u32 y0, .bool y1, .int .i64 y2, .int .i64 y3, .int .u8 y4] 45)).ownsRow w.heap.size 45 5 a6 (outQ p (Q.take i)).length (rqsCs (outQ p (Q.take i)))) := ⟨HI.out.alloc _, HR.out.alloc _⟩
      have hIR := Hid3.mk hI
      have hRR := Hid3.mk hR
      clear hm hcr hI hR HI HR HB
      cases hq : p (y0, y1, y2, y3, y4) with
      | true =>
        rw [hq] at hcall hIR hRR
        go_wp2_with fail
        refine hcall.mono ?_
        rintro e W2 ⟨rfl, hB2⟩
        clear hcall
        have hb2 := (hB2.block wr.heap.size (by simp)).trans H1.out
        obtain ⟨x0, x1, x2, x3, x4⟩ := b5m hb2
        have HI2 : Hid3 (W2.ownsRow w.heap.size 43 1 a5 (outI p (Q.take i)).length (idCs (outI p (Q.take i)))) := ⟨own_wide HIR.out.1 hB2⟩
        have HR2 : Hid3 (W2.ownsRow w.heap.size 45 5 a6 (outQ p (Q.take i)).length (rqsCs (outQ p (Q.take i)))) := ⟨own_wide HIR.out.2 hB2⟩
        have HB2 : Hid3 (Below w.heap.size w W2) := ⟨HB1.out.trans (hB2.mono HB1.out.size)⟩
        have hsz2 := HB2.out.size
        have hnw := id_new W2 y0
        have hone : ∀ u ∈ idCs [y0], u.oneCell' = true := by intro u hu; simp [idCs] at hu; subst hu; rfl
        clear hb2 hB2 H1 HB1 HIR
        go_wp2_with (at_builtin; refine wpList_append_own_at _ rfl _ _ 41 rfl w.heap.size 43 i0 (.int .u32 0) 1 4 Try.underlying41 hi0 hz0 hz1 hz2 rfl (by decide) _ _ _ rfl (HI2.out.alloc _) ⟨W2.heap.size, 0, none⟩ 1 1 (idCs [y0]) rfl rfl hnw hone (by unfold maxLen; omega) (by omega) (by simp; omega) ?_; intro v' w3 hown' hgrow _ hat)
        have HI3 := Hid3.mk hown'
        have hne : ∀ k, a5.ownBlock = some k → a6.ownBlock ≠ some k := fun k e1 e2 => by
          obtain ⟨_, q1⟩ := own_kind HI2.out k e1
          obtain ⟨_, q2⟩ := own_kind HR2.out k e2
          rw [q1] at q2
          injection q2 with q2
          injection q2 with _ q2
          exact absurd q2 (by decide)
        have hA3 : Apart (fun k => some k = a5.ownBlock) W2 w3 := (Apart.of_below ((Below.refl _ W2).alloc (Nat.le_refl _) _)).trans (Apart.of_grown hgrow (fun k _ e => e))
        have HR3 : Hid3 (w3.ownsRow w.heap.size 45 5 a6 (outQ p (Q.take i)).length (rqsCs (outQ p (Q.take i)))) := ⟨Apart.own HR2.out hA3 (fun k e1 e2 => hne k e2.symm e1)⟩
        have HB3 : Hid3 (Below w.heap.size w w3) := ⟨HB2.out.trans (hA3.below w.heap.size (fun k e => (HI2.out.lt k e.symm).1) hsz2)⟩
        clear hown' hgrow hat hA3 hne hnw
        go_roundw
        case rel =>
          refine ⟨i + 1, _, _, by omega, by go_num, rfl, rfl, ⟨?_⟩, ⟨?_⟩, HB3⟩
          · rw [hIR.out, if_pos trivial, List.length_append, idCs, List.map_append]
            exact HI3.out
          · rw [hRR.out, if_pos trivial, List.append_nil]
            exact HR3.out
        case measure => simp [intOf]; omega
      | false =>
        rw [hq] at hcall hIR hRR
        go_wp2_with fail
        refine hcall.mono ?_
        rintro e W2 ⟨rfl, hB2⟩
        clear hcall
        have hb2 := (hB2.block wr.heap.size (by simp)).trans H1.out
        obtain ⟨x0, x1, x2, x3, x4⟩ := b5m hb2
        have HI2 : Hid3 (W2.ownsRow w.heap.size 43 1 a5 (outI p (Q.take i)).length (idCs (outI p (Q.take i)))) := ⟨own_wide HIR.out.1 hB2⟩
        have HR2 : Hid3 (W2.ownsRow w.heap.size 45 5 a6 (outQ p (Q.take i)).length (rqsCs (outQ p (Q.take i)))) := ⟨own_wide HIR.out.2 hB2⟩
        have HB2 : Hid3 (Below w.heap.size w W2) := ⟨HB1.out.trans (hB2.mono HB1.out.size)⟩
        have hsz2 := HB2.out.size
        have hnw := rq_one W2 (y0, y1, y2, y3, y4)
        simp only at hnw
        have hone := rqsCs_one [((y0, y1, y2, y3, y4) : Rq)]
        clear hb2 hB2 H1 HB1 HIR
        go_wp2_with (at_builtin; refine wpList_append_own_at _ rfl _ _ 39 rfl w.heap.size 45 i5 (.agg #[.int .u32 0, .bool false, .int .i64 0, .int .i64 0, .int .u8 0]) 5 32 Try.underlying39 hi5 hz5 hs5 hb5 rfl (by decide) _ _ _ rfl (HR2.out.alloc _) ⟨W2.heap.size, 0, none⟩ 1 1 (rqsCs [((y0, y1, y2, y3, y4) : Rq)]) rfl rfl hnw hone (by unfold maxLen; omega) (by omega) (by simp; omega) ?_; intro v' w3 hown' hgrow _ hat)
        have HR3 := Hid3.mk hown'
        have hne : ∀ k, a6.ownBlock = some k → a5.ownBlock ≠ some k := fun k e2 e1 => by
          obtain ⟨_, q1⟩ := own_kind HI2.out k e1
          obtain ⟨_, q2⟩ := own_kind HR2.out k e2
          rw [q1] at q2
          injection q2 with q2
          injection q2 with _ q2
          exact absurd q2 (by decide)
        have hA3 : Apart (fun k => some k = a6.ownBlock) W2 w3 := (Apart.of_below ((Below.refl _ W2).alloc (Nat.le_refl _) _)).trans (Apart.of_grown hgrow (fun k _ e => e))
        have HI3 : Hid3 (w3.ownsRow w.heap.size 43 1 a5 (outI p (Q.take i)).length (idCs (outI p (Q.take i)))) := ⟨Apart.own HI2.out hA3 (fun k e1 e2 => hne k e2.symm e1)⟩
        have HB3 : Hid3 (Below w.heap.size w w3) := ⟨HB2.out.trans (hA3.below w.heap.size (fun k e => (HR2.out.lt k e.symm).1) hsz2)⟩
        clear hown' hgrow hat hA3 hne hnw
        go_roundw
        case rel =>
          refine ⟨i + 1, _, _, by omega, by go_num, rfl, rfl, ⟨?_⟩, ⟨?_⟩, HB3⟩
          · rw [hIR.out, if_neg (by decide), List.append_nil]
            exact HI3.out
          · rw [hRR.out, if_neg (by decide), List.length_append, rqsCs_append]
            exact HR3.out
        case measure => simp [intOf]; omega
    · have hltz : ¬ (i : Int) < (Q.length : Int) := by omega
      have hi : i = Q.length := by omega
      subst hi
      rw [List.take_length] at HI HR
      obtain ⟨x6, c6, rfl⟩ := form5 HR.out
      have HD := Hid3.mk (HP.out.d.below HB.out)
      have HM := Hid3.mk (HP.out.m.below HB.out)
      have hrq := HP.out.d.requeue HB.out HR.out (Nat.le_trans (outQ_len p _) (by omega)) hB
      have HRQ := Hid3.mk hrq
      obtain ⟨C2, _, e0, _, _⟩ := HD.out.c
      have f0 : wr.frozen? ⟨db, 0, none⟩ = false := by
        obtain ⟨C', _, e⟩ := HD.out.blk
        simp [World.frozen?, e]
      have hge : Hid3 (∀ k, Value.ownBlock (.slice x6 (outQ p Q).length c6) = some k → w.heap.size ≤ k) := ⟨fun k e => (HR.out.lt k e).1⟩
      have hI4 : Hid3 ((wr.setCell ⟨db, 0, none⟩ (.slice x6 (outQ p Q).length c6)).ownsRow w.heap.size 43 1 a5 (outI p Q).length (idCs (outI p Q))) := ⟨by
        exact Apart.own HI.out (Apart.set wr ⟨db, 0, none⟩ (.slice x6 (outQ p Q).length c6)) (fun k e1 e2 => by have := (HI.out.lt k e1).1; simp only at e2; omega)⟩
      have H9 : Hid3 (PStp B w (wr.setCell ⟨db, 0, none⟩ (.slice x6 (outQ p Q).length c6)) db sb n mb N (.slice a0 Q.length cap0) { z with Q := outQ p Q }) := ⟨by
        have h2 := HRQ.out
        exact ⟨.slice x6 (outQ p Q).length c6, PSt.mk' h2.1 (HP.out.m.stay h2.2 HP.out.n1) HP.out.mB, h2.2.wide (fun k _ e => .inl e), fun k e => .inr (hge.out k e)⟩⟩
      clear hrq HRQ HI HR hge
      go_wp2

      go_ret
      exact ⟨⟨_, rfl, hI4.out⟩, H9.out⟩
end Go.Proofs.Ytlnjpgcaciemnaa
