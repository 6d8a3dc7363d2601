/- The document's disk: Ask. -/
import Derived.Test.YtlnjpgcaciemnaaDevT
import Derived.BigQuiet
namespace Go.Proofs.Ytlnjpgcaciemnaa
open Go.RowKit Go.Maps
set_option linter.unusedVariables false
set_option maxRecDepth 100000
theorem set5_0 {W : World} {b : Nat} {x0 x1 x2 x3 x4 u : Value} {t : TypeId} (h : W.heap[b]? = some (.cells #[x0, x1, x2, x3, x4] t)) : (W.setCell ⟨b, 0, none⟩ u).heap[b]? = some (.cells #[u, x1, x2, x3, x4] t) := by
  have hlt := (Array.getElem?_eq_some_iff.1 h).1
  rw [Array.getElem?_eq_getElem hlt] at h
  injection h with h
  simp [World.setCell, Array.getElem_modify, h, hlt]
theorem belowN5 {B : Nat} {a w : World} (h : Below B a w) (n : Nat) : Below B a (w.drewN n) := h.trans ⟨rfl, rfl, rfl, Nat.le_refl _, fun _ _ => rfl⟩
/-- An append of requests that are read, wherever they lie; told by what else the frame holds. -/
theorem step_app5R {w : World} {ops : Array Oper} {o : Oper} {a : Act} {K : Act → World → Prop} {Q0 : Exit → Act → World → Prop} {E : Prop} (fl : Operand) (fv : Value) (hfl : a.eval fl = fv) (hgd : o.guard = none) (s x : Operand)
    (ho : o.op = .call { callee := .builtin .append, args := #[s, x], argTypes := #[39, 39] })
    (B : Nat) (Y : Nat → Prop) (v u : Value) (M Q : List Rq) (hs : a.eval s = v) (hx : a.eval x = u) (hown : w.ownsRow B 45 5 v M.length (rqsCs M)) (hu : RqS Y w u Q) (hl : M.length + Q.length ≤ 1000) (hB : B ≤ w.heap.size)
    (h : ∀ v' w', w'.ownsRow B 45 5 v' (M ++ Q).length (rqsCs (M ++ Q)) → w.grownBy w' v.ownBlock → (v'.ownBlock = v.ownBlock ∨ v'.ownBlock = some w.heap.size) → K (a.put o.dst v') w') :
    if Region.wanted o (yielded ops a.tmps) = true then Oper.wp Try.prog o a w K Q0 else E := by
  obtain ⟨ad, cap, rfl, hcap, hn, hc⟩ := hu
  cases ad with
  | none =>
    obtain rfl := hn rfl
    have hQ : Q = [] := by
      cases Q with
      | nil => rfl
      | cons r l =>
        obtain ⟨g, e, _⟩ := hc _ _ (rqsCs_at (r :: l) 0 r rfl).1
        cases e
    subst hQ
    obtain ⟨i5, hi5, _, _, _⟩ := info_parts infoR
    have hr := run_append_owned_none (P := Try.prog) w B 39 o.type 45 i5 5 Try.underlying39 hi5 v M.length (rqsCs M) hown
    have hw : Region.wanted o (yielded ops a.tmps) = true := by simp [Region.wanted, hgd]
    rw [if_pos hw]
    unfold Oper.wp execOp
    simp only [List.length_nil] at hx
    simp only [ho, resolve, invoke, builtin, Sem.run_bind, Sem.run_pure, Result.andThen_ok, List.map_toArray, List.map_cons, List.map_nil, hs, hx, hr]
    refine h v w ?_ ⟨rfl, rfl, rfl, Nat.le_refl _, fun _ _ _ => rfl⟩ (.inl rfl)
    rw [List.append_nil]
    exact hown
  | some ad =>
    exact step_app5 hgd s x ho B v M Q ad cap Q.length rfl hs hx hown (fun j y hj => by
      obtain ⟨g, e, _, c⟩ := hc j y hj
      injection e with e
      subst e
      rw [Addr.add_mid, Nat.zero_add]
      exact c) hl hB h
theorem own_none5 (w : World) (B : Nat) (hB : B ≤ w.heap.size) : (w.alloc (.cells #[] 45)).ownsRow B 45 5 (.slice (some ⟨w.heap.size, 0, none⟩) 0 0) ([] : List Rq).length (rqsCs []) := World.ownsRow_made w #[] 0 hB (by unfold maxLen; omega) rfl
theorem one_rqs (w : World) (l : Int) (r1 : Bool) (r2 r3 r4 : Int) : RqS (fun g => g < w.heap.size) (w.alloc (.cells #[.int .u32 l, .bool r1, .int .i64 r2, .int .i64 r3, .int .u8 r4] 45)) (.slice (some ⟨w.heap.size, 0, none⟩) 1 1) [((l, r1, r2, r3, r4) : Rq)] :=
  ⟨_, 1, rfl, Nat.le_refl _, (fun e => by cases e), fun j x hj => ⟨w.heap.size, rfl, Nat.lt_irrefl _, by
    have := rq_one w (l, r1, r2, r3, r4) j x hj
    rw [Addr.add_mid, Nat.zero_add] at this
    exact this⟩⟩
/-- What holds behind the first append. -/
structure RA5 (W Wa : World) (va : Value) (Q : List Rq) : Prop where
  below : Below W.heap.size W Wa
  own : Wa.ownsRow W.heap.size 45 5 va ([] ++ Q).length (rqsCs ([] ++ Q))
theorem RA5.mk' {W X Wa : World} {va : Value} {Q : List Rq} {q : Nat} (hX : Below W.heap.size W X) (hq : W.heap.size ≤ q) (own : Wa.ownsRow W.heap.size 45 5 va ([] ++ Q).length (rqsCs ([] ++ Q))) (grow : X.grownBy Wa (Value.ownBlock (.slice (some ⟨q, 0, none⟩) 0 0))) : RA5 W Wa va Q :=
  ⟨hX.grown grow hX.size (fun j e => by have e' : q = j := Option.some.inj e; omega), own⟩
theorem rqs_far {Y : Nat → Prop} {X Wa : World} {q b n c : Nat} {l : List Rq} (h : RqS Y X (.slice (some ⟨b, 0, none⟩) n c) l) (hne : b ≠ q) (grow : X.grownBy Wa (Value.ownBlock (.slice (some ⟨q, 0, none⟩) 0 0))) : RqS Y Wa (.slice (some ⟨b, 0, none⟩) n c) l := by
  obtain ⟨a, cap, e, h1, h2, h3⟩ := h
  refine ⟨a, cap, e, h1, h2, fun j x hj => ?_⟩
  obtain ⟨g, e2, hy, c1⟩ := h3 j x hj
  refine ⟨g, e2, hy, ?_⟩
  injection e with e _ _
  rw [← e] at e2
  injection e2 with e2
  injection e2 with e2
  rw [World.cell?_of_block (w := X) (grow.block g (World.block_lt_of_cell? X _ c1) (fun e3 => by have e4 : g = q := Option.some.inj e3; omega))]
  exact c1
/-- What holds behind the second append. -/
structure RB5 (B : Nat) (X : Nat → Prop) (W Wb : World) (rb og n : Nat) (S : List Int) (u vb : Value) (last : Int) (Q2 : List Rq) : Prop where
  k : Rk B X (Wb.setCell ⟨rb, 1, none⟩ vb) rb og n S vb last Q2
  a : Apart (fun k => k = rb) W (Wb.setCell ⟨rb, 1, none⟩ vb)
  c : Wb.cell? ⟨rb, 1, none⟩ = some u
  f : Wb.frozen? ⟨rb, 1, none⟩ = false
  b : Below W.heap.size W Wb
  v : ∃ a cap, vb = .slice a Q2.length cap
theorem RB5.mk' {B : Nat} {X : Nat → Prop} {W Wa Z Wb : World} {rb og n : Nat} {S : List Int} {u va vb : Value} {last : Int} {Q Q2 Q1 : List Rq} (h : Rk B X W rb og n S u last Q) (hX : ∀ g, X g → g < W.heap.size) (hA : RA5 W Wa va Q1) (hZ : Below Wa.heap.size Wa Z) (own : Wb.ownsRow W.heap.size 45 5 vb Q2.length (rqsCs Q2)) (grow : Z.grownBy Wb va.ownBlock) (hl : Q2.length ≤ 8) : RB5 B X W Wb rb og n S u vb last Q2 := by
  have hb : Below W.heap.size W Wb := (hA.below.trans (hZ.mono hA.below.size)).grown grow (Nat.le_trans hA.below.size hZ.size) (fun j e => (hA.own.lt j e).1)
  have h2 := h.below hb
  obtain ⟨C, _, c0, c1, c2, fz⟩ := h2.c
  obtain ⟨q1, q2⟩ := h.setq hX hb own hl
  exact ⟨q1, q2, c1, fz 1, hb, form5 own⟩
set_option maxHeartbeats 2000000 in
theorem rask_b0 (B : Nat) (X : Nat → Prop) (rb og n : Nat) (S : List Int) (u : Value) (last : Int) (Q : List Rq) (r0 : Int) (r1 : Bool) (r2 r3 r4 : Int) (w : World) (h : Rk B X w rb og n S u last Q) (h1 : r2 < 0) : Calls Try.prog 48 #[.pointer (some ⟨rb, 0, none⟩), .agg #[.int .u32 r0, .bool r1, .int .i64 r2, .int .i64 r3, .int .u8 r4]] w fun e w' => e = .returned (.tuple #[.int .u32 0, .int .i64 2]) ∧ Below w.heap.size w w' := by
  obtain ⟨C, hC, c0, c1, c2, fz⟩ := h.c
  obtain ⟨a, cap, rfl, _⟩ := h.form
  have hlt := h.lt
  have hne : rb ≠ w.heap.size := by omega
  have HX := Hid3.mk ((Below.refl _ w).alloc (Nat.le_refl _) (.cells #[.int .u32 r0, .bool r1, .int .i64 r2, .int .i64 r3, .int .u8 r4] 45))
  have d1 : decide (r2 < 0) = true := decide_eq_true h1
  clear h
  go_enter Try.func48, Try.ntmps48
  go_wp2_with fail
  go_quiet (fail)
  go_wp2
  go_ret2
  exact ⟨rfl, belowN5 HX.out _⟩
set_option maxHeartbeats 2000000 in
theorem rask_b1 (B : Nat) (X : Nat → Prop) (rb og n : Nat) (S : List Int) (u : Value) (last : Int) (Q : List Rq) (r0 : Int) (r1 : Bool) (r2 r3 r4 : Int) (w : World) (h : Rk B X w rb og n S u last Q) (h1 : ¬ r2 < 0) (h2 : (n : Int) ≤ r2) : Calls Try.prog 48 #[.pointer (some ⟨rb, 0, none⟩), .agg #[.int .u32 r0, .bool r1, .int .i64 r2, .int .i64 r3, .int .u8 r4]] w fun e w' => e = .returned (.tuple #[.int .u32 0, .int .i64 2]) ∧ Below w.heap.size w w' := by
  obtain ⟨C, hC, c0, c1, c2, fz⟩ := h.c
  obtain ⟨a, cap, rfl, _⟩ := h.form
  have hlt := h.lt
  have hne : rb ≠ w.heap.size := by omega
  have HX := Hid3.mk ((Below.refl _ w).alloc (Nat.le_refl _) (.cells #[.int .u32 r0, .bool r1, .int .i64 r2, .int .i64 r3, .int .u8 r4] 45))
  have d1 : decide (r2 < 0) = false := decide_eq_false h1
  have d2 : decide ((n : Int) ≤ r2) = true := decide_eq_true h2
  clear h
  go_enter Try.func48, Try.ntmps48
  go_wp2_with fail
  go_quiet (fail)
  go_wp2
  go_ret2
  exact ⟨rfl, belowN5 HX.out _⟩
set_option maxHeartbeats 2000000 in
theorem rask_b2 (B : Nat) (X : Nat → Prop) (rb og n : Nat) (S : List Int) (u : Value) (last : Int) (Q : List Rq) (r0 : Int) (r1 : Bool) (r2 r3 r4 : Int) (w : World) (h : Rk B X w rb og n S u last Q) (h1 : ¬ r2 < 0) (h2 : ¬ (n : Int) ≤ r2) (h3 : r3 < 0) : Calls Try.prog 48 #[.pointer (some ⟨rb, 0, none⟩), .agg #[.int .u32 r0, .bool r1, .int .i64 r2, .int .i64 r3, .int .u8 r4]] w fun e w' => e = .returned (.tuple #[.int .u32 0, .int .i64 2]) ∧ Below w.heap.size w w' := by
  obtain ⟨C, hC, c0, c1, c2, fz⟩ := h.c
  obtain ⟨a, cap, rfl, _⟩ := h.form
  have hlt := h.lt
  have hne : rb ≠ w.heap.size := by omega
  have HX := Hid3.mk ((Below.refl _ w).alloc (Nat.le_refl _) (.cells #[.int .u32 r0, .bool r1, .int .i64 r2, .int .i64 r3, .int .u8 r4] 45))
  have d1 : decide (r2 < 0) = false := decide_eq_false h1
  have d2 : decide ((n : Int) ≤ r2) = false := decide_eq_false h2
  have d3 : decide (r3 < 0) = true := decide_eq_true h3
  clear h
  go_enter Try.func48, Try.ntmps48
  go_wp2_with fail
  go_quiet (fail)
  go_wp2
  go_ret2
  exact ⟨rfl, belowN5 HX.out _⟩
set_option maxHeartbeats 2000000 in
theorem rask_b3 (B : Nat) (X : Nat → Prop) (rb og n : Nat) (S : List Int) (u : Value) (last : Int) (Q : List Rq) (r0 : Int) (r1 : Bool) (r2 r3 r4 : Int) (w : World) (h : Rk B X w rb og n S u last Q) (h1 : ¬ r2 < 0) (h2 : ¬ (n : Int) ≤ r2) (h3 : ¬ r3 < 0) (h4 : (64 : Int) ≤ r3) : Calls Try.prog 48 #[.pointer (some ⟨rb, 0, none⟩), .agg #[.int .u32 r0, .bool r1, .int .i64 r2, .int .i64 r3, .int .u8 r4]] w fun e w' => e = .returned (.tuple #[.int .u32 0, .int .i64 2]) ∧ Below w.heap.size w w' := by
  obtain ⟨C, hC, c0, c1, c2, fz⟩ := h.c
  obtain ⟨a, cap, rfl, _⟩ := h.form
  have hlt := h.lt
  have hne : rb ≠ w.heap.size := by omega
  have HX := Hid3.mk ((Below.refl _ w).alloc (Nat.le_refl _) (.cells #[.int .u32 r0, .bool r1, .int .i64 r2, .int .i64 r3, .int .u8 r4] 45))
  have d1 : decide (r2 < 0) = false := decide_eq_false h1
  have d2 : decide ((n : Int) ≤ r2) = false := decide_eq_false h2
  have d3 : decide (r3 < 0) = false := decide_eq_false h3
  have d4 : decide ((64 : Int) ≤ r3) = true := decide_eq_true h4
  clear h
  go_enter Try.func48, Try.ntmps48
  go_wp2_with fail
  go_quiet (fail)
  go_wp2
  go_ret2
  exact ⟨rfl, belowN5 HX.out _⟩
set_option maxHeartbeats 2000000 in
theorem rask_full (B : Nat) (X : Nat → Prop) (rb og n : Nat) (S : List Int) (u : Value) (last : Int) (Q : List Rq) (r0 : Int) (r1 : Bool) (r2 r3 r4 : Int) (w : World) (h : Rk B X w rb og n S u last Q) (h1 : ¬ r2 < 0) (h2 : ¬ (n : Int) ≤ r2) (h3 : ¬ r3 < 0) (h4 : ¬ (64 : Int) ≤ r3) (h5 : (8 : Int) ≤ (Q.length : Int)) : Calls Try.prog 48 #[.pointer (some ⟨rb, 0, none⟩), .agg #[.int .u32 r0, .bool r1, .int .i64 r2, .int .i64 r3, .int .u8 r4]] w fun e w' => e = .returned (.tuple #[.int .u32 0, .int .i64 4]) ∧ Below w.heap.size w w' := by
  obtain ⟨C, hC, c0, c1, c2, fz⟩ := h.c
  obtain ⟨a, cap, rfl, _⟩ := h.form
  have hlt := h.lt
  have hne : rb ≠ w.heap.size := by omega
  have HX := Hid3.mk ((Below.refl _ w).alloc (Nat.le_refl _) (.cells #[.int .u32 r0, .bool r1, .int .i64 r2, .int .i64 r3, .int .u8 r4] 45))
  have d1 : decide (r2 < 0) = false := decide_eq_false h1
  have d2 : decide ((n : Int) ≤ r2) = false := decide_eq_false h2
  have d3 : decide (r3 < 0) = false := decide_eq_false h3
  have d4 : decide ((64 : Int) ≤ r3) = false := decide_eq_false h4
  clear h
  go_enter Try.func48, Try.ntmps48
  go_wp2_with fail
  go_quiet (fail)
  go_wp2
  go_ret2
  exact ⟨rfl, belowN5 HX.out _⟩
set_option maxHeartbeats 8000000 in
theorem rask_ok (B : Nat) (X : Nat → Prop) (rb og n : Nat) (S : List Int) (u : Value) (last : Int) (Q : List Rq) (r0 : Int) (r1 : Bool) (r2 r3 r4 : Int) (w : World) (h : Rk B X w rb og n S u last Q) (hXX : ∀ g, X g → g < w.heap.size) (h1 : ¬ r2 < 0) (h2 : ¬ (n : Int) ≤ r2) (h3 : ¬ r3 < 0) (h4 : ¬ (64 : Int) ≤ r3) (h5 : ¬ (8 : Int) ≤ (Q.length : Int)) (hla : last < 1000000) : Calls Try.prog 48 #[.pointer (some ⟨rb, 0, none⟩), .agg #[.int .u32 r0, .bool r1, .int .i64 r2, .int .i64 r3, .int .u8 r4]] w fun e w' => e = .returned (.tuple #[.int .u32 (last + 1), .int .i64 0]) ∧ ∃ u', Rk B X w' rb og n S u' (last + 1) (Q ++ [(last + 1, r1, r2, r3, r4)]) ∧ Apart (fun k => k = rb) w w' := by
  obtain ⟨C, hC, c0, c1, c2, fz⟩ := h.c
  obtain ⟨a, cap, rfl, _⟩ := h.form
  have hlt := h.lt
  have hl0 := h.la.1
  have hne : rb ≠ w.heap.size := by omega
  have hfew := h.few
  have d1 : decide (r2 < 0) = false := decide_eq_false h1
  have d2 : decide ((n : Int) ≤ r2) = false := decide_eq_false h2
  have d3 : decide (r3 < 0) = false := decide_eq_false h3
  have d4 : decide ((64 : Int) ≤ r3) = false := decide_eq_false h4
  have H0 := Hid3.mk h
  have HXw := Hid3.mk hXX
  have HF : Hid3 (∀ nq, Rk B X ((((w.alloc (.cells #[.int .u32 r0, .bool r1, .int .i64 r2, .int .i64 r3, .int .u8 r4] 45)).drewN nq).setCell ⟨rb, 2, none⟩ (.int .u32 (last + 1))).setCell ⟨w.heap.size, 0, none⟩ (.int .u32 (last + 1))) rb og n S (.slice a Q.length cap) (last + 1) Q ∧ Apart (fun k => k = rb) w ((((w.alloc (.cells #[.int .u32 r0, .bool r1, .int .i64 r2, .int .i64 r3, .int .u8 r4] 45)).drewN nq).setCell ⟨rb, 2, none⟩ (.int .u32 (last + 1))).setCell ⟨w.heap.size, 0, none⟩ (.int .u32 (last + 1))) ∧ ((((w.alloc (.cells #[.int .u32 r0, .bool r1, .int .i64 r2, .int .i64 r3, .int .u8 r4] 45)).drewN nq).setCell ⟨rb, 2, none⟩ (.int .u32 (last + 1))).setCell ⟨w.heap.size, 0, none⟩ (.int .u32 (last + 1))).heap[w.heap.size]? = some (.cells #[.int .u32 (last + 1), .bool r1, .int .i64 r2, .int .i64 r3, .int .u8 r4] 45)) := ⟨fun nq => by
    have hb := belowN5 ((Below.refl _ w).alloc (Nat.le_refl _) (.cells #[.int .u32 r0, .bool r1, .int .i64 r2, .int .i64 r3, .int .u8 r4] 45)) nq
    have h' : Rk B (fun g => X g ∨ g = w.heap.size) w rb og n S (.slice a Q.length cap) last Q := h.change (fun g hg hy => hy.elim id (fun e => absurd e (by omega)))
    obtain ⟨q1, q2⟩ := (h'.below hb).setl (last + 1) (by omega)
    have hx : ((w.alloc (.cells #[.int .u32 r0, .bool r1, .int .i64 r2, .int .i64 r3, .int .u8 r4] 45)).drewN nq).heap[w.heap.size]? = some (.cells #[.int .u32 r0, .bool r1, .int .i64 r2, .int .i64 r3, .int .u8 r4] 45) := heap_alloc_last w _
    have hx2 := (q2.block w.heap.size (Array.getElem?_eq_some_iff.1 hx).1 (fun e => hne e.symm)).trans hx
    have a3 := Apart.set (((w.alloc (.cells #[.int .u32 r0, .bool r1, .int .i64 r2, .int .i64 r3, .int .u8 r4] 45)).drewN nq).setCell ⟨rb, 2, none⟩ (.int .u32 (last + 1))) ⟨w.heap.size, 0, none⟩ (.int .u32 (last + 1))
    have a13 := ((Apart.of_below hb).trans q2).then a3 (fun i hi e => by have e' : i = w.heap.size := e; omega)
    refine ⟨(q1.stay a3 (fun g e => .inr e)).change (fun g _ hx => .inl hx), a13, ?_⟩
    exact set5_0 hx2⟩
  clear h hXX
  go_enter Try.func48, Try.ntmps48
  go_wp2_with fail
  go_quiet (fail)
  go_upto_region 9 with fail
  obtain ⟨k1, k2, k3⟩ := HF.out nq
  obtain ⟨l, hl⟩ : ∃ l, l = last + 1 := ⟨_, rfl⟩
  rw [← hl] at k1 k2 k3 ⊢
  have HL := Hid3.mk hl
  have hlw := hlt
  generalize ((((w.alloc (.cells #[.int .u32 r0, .bool r1, .int .i64 r2, .int .i64 r3, .int .u8 r4] 45)).drewN nq).setCell ⟨rb, 2, none⟩ (.int .u32 l)).setCell ⟨w.heap.size, 0, none⟩ (.int .u32 l)) = W1 at *
  have HR := Hid3.mk k1
  have HA1 := Hid3.mk k2
  have HBX := Hid3.mk k3
  have HXX : Hid3 (∀ g, X g → g < W1.heap.size) := ⟨fun g hg => Nat.lt_of_lt_of_le (HXw.out g hg) k2.size⟩
  have hlt1 := k1.lt
  have hx1 : w.heap.size < W1.heap.size := (Array.getElem?_eq_some_iff.1 k3).1
  have g0 : W1.cell? ⟨rb, 1, none⟩ = some (.slice a Q.length cap) := by
    obtain ⟨_, _, _, e, _⟩ := k1.c
    exact e
  obtain ⟨x0, x1, x2, x3, x4⟩ := b5m k3
  have hM1 : RqS (fun _ => False) W1 (.slice a Q.length cap) Q := k1.req.change (fun _ _ e => e.elim)
  clear k1 k2 k3 c0 c1 c2 fz HF H0 HXw hl0 hla hl hC d1 d2 d3 d4
  have g1 : (W1.alloc (.cells #[] 45)).cell? ⟨rb, 1, none⟩ = some (.slice a Q.length cap) := Lib.cell?_alloc_some _ g0
  have g2 : (W1.alloc (.cells #[.int .u32 l, .bool r1, .int .i64 r2, .int .i64 r3, .int .u8 r4] 45)).cell? ⟨rb, 1, none⟩ = some (.slice a Q.length cap) := Lib.cell?_alloc_some _ g0
  have g3 : ((W1.alloc (.cells #[] 45)).alloc (.cells #[.int .u32 l, .bool r1, .int .i64 r2, .int .i64 r3, .int .u8 r4] 45)).cell? ⟨rb, 1, none⟩ = some (.slice a Q.length cap) := Lib.cell?_alloc_some _ g1
  have g4 : ((W1.alloc (.cells #[.int .u32 l, .bool r1, .int .i64 r2, .int .i64 r3, .int .u8 r4] 45)).alloc (.cells #[] 45)).cell? ⟨rb, 1, none⟩ = some (.slice a Q.length cap) := Lib.cell?_alloc_some _ g2
  have p0 : (W1.alloc (.cells #[] 45)).cell? ⟨w.heap.size, 0, none⟩ = some (.int .u32 l) := Lib.cell?_alloc_some _ x0
  have p1 : (W1.alloc (.cells #[] 45)).cell? ⟨w.heap.size, 1, none⟩ = some (.bool r1) := Lib.cell?_alloc_some _ x1
  have p2 : (W1.alloc (.cells #[] 45)).cell? ⟨w.heap.size, 2, none⟩ = some (.int .i64 r2) := Lib.cell?_alloc_some _ x2
  have p3 : (W1.alloc (.cells #[] 45)).cell? ⟨w.heap.size, 3, none⟩ = some (.int .i64 r3) := Lib.cell?_alloc_some _ x3
  have p4 : (W1.alloc (.cells #[] 45)).cell? ⟨w.heap.size, 4, none⟩ = some (.int .u8 r4) := Lib.cell?_alloc_some _ x4
  have hX1 : Below W1.heap.size W1 (W1.alloc (.cells #[] 45)).drew := ((Below.refl _ W1).alloc (Nat.le_refl _) _).drew
  have hX2 : Below W1.heap.size W1 ((W1.alloc (.cells #[] 45)).alloc (.cells #[.int .u32 l, .bool r1, .int .i64 r2, .int .i64 r3, .int .u8 r4] 45)).drew := (((Below.refl _ W1).alloc (Nat.le_refl _) _).alloc (by simp) _).drew
  have hX3 : Below W1.heap.size W1 ((W1.alloc (.cells #[.int .u32 l, .bool r1, .int .i64 r2, .int .i64 r3, .int .u8 r4] 45)).alloc (.cells #[] 45)).drew := (((Below.refl _ W1).alloc (Nat.le_refl _) _).alloc (by simp) _).drew
  have HX1 := Hid3.mk hX1
  have HX2 := Hid3.mk hX2
  have HX3 := Hid3.mk hX3
  have H01 : Hid3 ((W1.alloc (.cells #[] 45)).drew.ownsRow W1.heap.size 45 5 (.slice (some ⟨W1.heap.size, 0, none⟩) 0 0) ([] : List Rq).length (rqsCs [])) := ⟨own_none5 W1 _ (Nat.le_refl _)⟩
  have H02 : Hid3 (((W1.alloc (.cells #[] 45)).alloc (.cells #[.int .u32 l, .bool r1, .int .i64 r2, .int .i64 r3, .int .u8 r4] 45)).drew.ownsRow W1.heap.size 45 5 (.slice (some ⟨W1.heap.size, 0, none⟩) 0 0) ([] : List Rq).length (rqsCs [])) := ⟨(own_none5 W1 _ (Nat.le_refl _)).alloc _⟩
  have H03 : Hid3 (((W1.alloc (.cells #[.int .u32 l, .bool r1, .int .i64 r2, .int .i64 r3, .int .u8 r4] 45)).alloc (.cells #[] 45)).drew.ownsRow W1.heap.size 45 5 (.slice (some ⟨W1.heap.size + 1, 0, none⟩) 0 0) ([] : List Rq).length (rqsCs [])) := ⟨by
    have := own_none5 (W1.alloc (.cells #[.int .u32 l, .bool r1, .int .i64 r2, .int .i64 r3, .int .u8 r4] 45)) W1.heap.size (by rw [World.size_alloc]; omega)
    rw [World.size_alloc] at this
    exact this⟩
  have H11 := Hid3.mk (hM1.below hX1)
  have H12 := Hid3.mk (hM1.below hX2)
  have H13 := Hid3.mk (hM1.below hX3)
  have HM2 : Hid3 (RqS (fun _ => False) ((W1.alloc (.cells #[] 45)).alloc (.cells #[.int .u32 l, .bool r1, .int .i64 r2, .int .i64 r3, .int .u8 r4] 45)).drew (.slice (some ⟨W1.heap.size + 1, 0, none⟩) 1 1) [((l, r1, r2, r3, r4) : Rq)]) := ⟨by
    have := one_rqs (W1.alloc (.cells #[] 45)) l r1 r2 r3 r4
    rw [World.size_alloc] at this
    exact (this.change (Y := fun _ => False) (fun _ _ e => e.elim)).below (Below.refl _ _).drew⟩
  have HM3 : Hid3 (RqS (fun _ => False) ((W1.alloc (.cells #[.int .u32 l, .bool r1, .int .i64 r2, .int .i64 r3, .int .u8 r4] 45)).alloc (.cells #[] 45)).drew (.slice (some ⟨W1.heap.size, 0, none⟩) 1 1) [((l, r1, r2, r3, r4) : Rq)]) := ⟨((one_rqs W1 l r1 r2 r3 r4).change (Y := fun _ => False) (fun _ _ e => e.elim)).below ((Below.refl _ _).alloc (by simp) _).drew⟩
  clear hX1 hX2 hX3 hM1
  go_cut [] (fun wx => ∃ a' cap' Wb, wx = Wb.setCell ⟨rb, 1, none⟩ (.slice a' (Q.length + 1) cap') ∧ Hid3 (RB5 B X W1 Wb rb og n S (.slice a Q.length cap) (.slice a' (Q.length + 1) cap') l (Q ++ [((l, r1, r2, r3, r4) : Rq)])))
  case first =>
   go_region_law ((first
    | (refine step_app5R (.tmp 60) undef (by rfl) (by rfl) _ _ (by rfl) W1.heap.size (fun _ => False) (.slice (some ⟨W1.heap.size, 0, none⟩) 0 0) (.slice a Q.length cap) [] Q (by rfl) (by rfl) (by exact H01.out) (by exact H11.out) (by simp only [List.length_nil]; omega) (by exact HX1.out.size) ?_; intro va Wa owna growa ata; have HA : Hid3 (RA5 W1 Wa va Q) := ⟨RA5.mk' HX1.out (Nat.le_refl _) owna growa⟩; have ga : Wa.cell? ⟨rb, 1, none⟩ = some (.slice a Q.length cap) := (HA.out.below.cell (p := ⟨rb, 1, none⟩) hlt1).trans g0; obtain ⟨qa, qb, qc, qd, qe⟩ := b5m ((HA.out.below.block w.heap.size hx1).trans HBX.out); clear owna growa ata)
    | (refine step_app5R (.tmp 60) (.slice (some ⟨W1.heap.size + 1, 0, none⟩) 1 1) (by rfl) (by rfl) _ _ (by rfl) W1.heap.size (fun _ => False) (.slice (some ⟨W1.heap.size, 0, none⟩) 0 0) (.slice a Q.length cap) [] Q (by rfl) (by rfl) (by exact H02.out) (by exact H12.out) (by simp only [List.length_nil]; omega) (by exact HX2.out.size) ?_; intro va Wa owna growa ata; have HA : Hid3 (RA5 W1 Wa va Q) := ⟨RA5.mk' HX2.out (Nat.le_refl _) owna growa⟩; have ga : Wa.cell? ⟨rb, 1, none⟩ = some (.slice a Q.length cap) := (HA.out.below.cell (p := ⟨rb, 1, none⟩) hlt1).trans g0; obtain ⟨qa, qb, qc, qd, qe⟩ := b5m ((HA.out.below.block w.heap.size hx1).trans HBX.out); have HMa : Hid3 (RqS (fun _ => False) Wa (.slice (some ⟨W1.heap.size + 1, 0, none⟩) 1 1) [((l, r1, r2, r3, r4) : Rq)]) := ⟨rqs_far HM2.out (by omega) growa⟩; clear owna growa ata)
    | (refine step_app5R (.tmp 60) (.slice (some ⟨W1.heap.size, 0, none⟩) 1 1) (by rfl) (by rfl) _ _ (by rfl) W1.heap.size (fun _ => False) (.slice (some ⟨W1.heap.size + 1, 0, none⟩) 0 0) (.slice a Q.length cap) [] Q (by rfl) (by rfl) (by exact H03.out) (by exact H13.out) (by simp only [List.length_nil]; omega) (by exact HX3.out.size) ?_; intro va Wa owna growa ata; have HA : Hid3 (RA5 W1 Wa va Q) := ⟨RA5.mk' HX3.out (Nat.le_succ _) owna growa⟩; have ga : Wa.cell? ⟨rb, 1, none⟩ = some (.slice a Q.length cap) := (HA.out.below.cell (p := ⟨rb, 1, none⟩) hlt1).trans g0; obtain ⟨qa, qb, qc, qd, qe⟩ := b5m ((HA.out.below.block w.heap.size hx1).trans HBX.out); have HMa : Hid3 (RqS (fun _ => False) Wa (.slice (some ⟨W1.heap.size, 0, none⟩) 1 1) [((l, r1, r2, r3, r4) : Rq)]) := ⟨rqs_far HM3.out (by omega) growa⟩; clear owna growa ata)
    | (refine step_app5R (.tmp 52) (.pointer (some ⟨rb, 0, none⟩)) (by rfl) (by rfl) _ _ (by rfl) W1.heap.size _ va _ ([] ++ Q) [((l, r1, r2, r3, r4) : Rq)] (by rfl) (by rfl) (by exact HA.out.own) (by exact HMa.out) (by simp only [List.nil_append, List.length_cons, List.length_nil]; omega) (by have := HA.out.below.size; first | omega | (rw [World.size_alloc]; omega)) ?_; intro vb Wb ownb growb atb; have HQ : Hid3 (RB5 B X W1 Wb rb og n S (.slice a Q.length cap) vb l (Q ++ [((l, r1, r2, r3, r4) : Rq)])) := ⟨RB5.mk' HR.out HXX.out HA.out (Below.refl _ _) ownb growb (by rw [List.length_append, List.length_singleton]; omega)⟩; have c4 := HQ.out.c; have f4 := HQ.out.f; obtain ⟨a', cap', e'⟩ := HQ.out.v; have e'' : vb = .slice a' (Q.length + 1) cap' := by { rw [e']; simp }; clear e'; subst e''; clear ownb growb atb)
    | (refine step_app5R (.tmp 60) (.slice (some ⟨Wa.heap.size, 0, none⟩) 1 1) (by rfl) (by rfl) _ _ (by rfl) W1.heap.size _ va _ ([] ++ Q) [((l, r1, r2, r3, r4) : Rq)] (by rfl) (by rfl) (by exact HA.out.own.alloc _) (by exact one_rqs Wa l r1 r2 r3 r4) (by simp only [List.nil_append, List.length_cons, List.length_nil]; omega) (by have := HA.out.below.size; first | omega | (rw [World.size_alloc]; omega)) ?_; intro vb Wb ownb growb atb; have HQ : Hid3 (RB5 B X W1 Wb rb og n S (.slice a Q.length cap) vb l (Q ++ [((l, r1, r2, r3, r4) : Rq)])) := ⟨RB5.mk' HR.out HXX.out HA.out ((Below.refl _ _).alloc (Nat.le_refl _) _) ownb growb (by rw [List.length_append, List.length_singleton]; omega)⟩; have c4 := HQ.out.c; have f4 := HQ.out.f; obtain ⟨a', cap', e'⟩ := HQ.out.v; have e'' : vb = .slice a' (Q.length + 1) cap' := by { rw [e']; simp }; clear e'; subst e''; clear ownb growb atb)))
   all_goals
     go_wp2_with fail
     go_meet
     case rel => exact ⟨a', cap', Wb, rfl, HQ⟩
  case rest =>
    obtain ⟨a', cap', Wb, rfl, HQ⟩ := hcut
    clear H01 H02 H03 H11 H12 H13 HX1 HX2 HX3 HM2 HM3 g0 g1 g2 g3 g4 p0 p1 p2 p3 p4 x0 x1 x2 x3 x4
    have kz : (Wb.setCell ⟨rb, 1, none⟩ (.slice a' (Q.length + 1) cap')).heap[w.heap.size]? = some (.cells #[.int .u32 l, .bool r1, .int .i64 r2, .int .i64 r3, .int .u8 r4] 45) := (HQ.out.a.block w.heap.size hx1 (fun e => hne e.symm)).trans HBX.out
    obtain ⟨z0, z1, z2, z3, z4⟩ := b5m kz
    have HE := Hid3.mk (HA1.out.trans HQ.out.a)
    clear kz HBX HA1
    go_wp2
    go_ret2
    have := HL.out
    subst this
    exact ⟨rfl, _, HQ.out.k, HE.out⟩
end Go.Proofs.Ytlnjpgcaciemnaa
