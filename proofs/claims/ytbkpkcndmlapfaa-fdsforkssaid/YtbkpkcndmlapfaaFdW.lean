/- The document's table: Open, Copy, End. -/
import Derived.Test.YtbkpkcndmlapfaaFdV
import Derived.Deep.DeepCutAuto
namespace Go.Proofs.Ytbkpkcndmlapfaa
open Go.RowKit Go.Maps
set_option linter.unusedVariables false
set_option maxRecDepth 100000
/-- A slice lists things. -/
def OpL (w : World) (u : Value) (L : List Opn) : Prop := (u = .slice none 0 0 ∧ L = []) ∨ ∃ ad cap, u = .slice (some ad) L.length cap ∧ ∀ j x, (opCs L)[j]? = some x → w.cell? (ad.add j) = some x
theorem OpL.of {w : World} {v : Value} {L : List Opn} (h : OpR w v L) : OpL w v L := by
  rcases h with h | ⟨g, cap, cur, h1, h2, h3, h4⟩
  · exact .inl h
  · exact .inr ⟨_, cap, h1, op_cells h2 h4 (Below.refl _ _)⟩
theorem OpL.below {w w' : World} {u : Value} {L : List Opn} (h : OpL w u L) (k : Below w.heap.size w w') : OpL w' u L := by
  rcases h with h | ⟨ad, cap, h1, h2⟩
  · exact .inl h
  · exact .inr ⟨ad, cap, h1, fun j x hj => (k.cell (World.block_lt_of_cell? w _ (h2 j x hj))).trans (h2 j x hj)⟩
theorem OpL.stay {w w' : World} {u : Value} {L : List Opn} {X : Nat → Prop} (h : OpL w u L) (k : Apart X w w') (hx : ∀ g, u.ownBlock = some g → ¬ X g) : OpL w' u L := by
  rcases h with h | ⟨ad, cap, rfl, h2⟩
  · exact .inl h
  · refine .inr ⟨ad, cap, rfl, fun j x hj => ?_⟩
    have hc := h2 j x hj
    have hlt := World.block_lt_of_cell? w _ hc
    have hb : (ad.add j).block = ad.block := by unfold Addr.add; split <;> simp_all
    rw [← hc]
    have := k.block (ad.add j).block hlt (by rw [hb]; exact hx _ rfl)
    simp only [World.cell?, this]
theorem opl_one (w : World) (o : Opn) : OpL (w.alloc (.cells #[.int .u8 o.k, .int .i64 o.r, .int .i64 o.p] 32)) (.slice (some ⟨w.heap.size, 0, none⟩) 1 1) [o] := by
  refine .inr ⟨_, 1, rfl, fun j x hj => new_op w o j x ?_⟩
  have e : opCs [o] = opC o := by unfold opCs; simp
  rw [e] at hj
  exact hj
theorem opCs_append (M L : List Opn) : opCs (M ++ L) = opCs M ++ opCs L := by unfold opCs; simp
theorem run_app (w : World) (ty : TypeId) (B : Nat) (v : Value) (M : List Opn) (u : Value) (L : List Opn) (hown : w.ownsRow B 32 3 v M.length (opCs M)) (hu : OpL w u L) (hl : M.length + L.length ≤ 2000) (hB : B ≤ w.heap.size) :
    ∃ v' w', (Builtin.append_ #[50, 50] ty #[v, u]).run Try.prog w = .ok v' w' ∧ w'.ownsRow B 32 3 v' (M ++ L).length (opCs (M ++ L)) ∧ w.grownBy w' v.ownBlock ∧ (v'.ownBlock = v.ownBlock ∨ v'.ownBlock = some w.heap.size) := by
  obtain ⟨i, hi, hz, hs, hb⟩ := info_parts infoO
  rcases hu with ⟨rfl, rfl⟩ | ⟨ad, cap, rfl, hcell⟩
  · refine ⟨v, w, run_append_owned_none (P := Try.prog) w B 50 ty 32 i 3 Try.underlying50 hi v M.length (opCs M) hown, by rw [List.append_nil]; exact hown, ⟨rfl, rfl, rfl, Nat.le_refl _, fun _ _ _ => rfl⟩, .inl rfl⟩
  · obtain ⟨v', w', h1, h2, h3, _, h5⟩ := run_append_own_at (P := Try.prog) w B 50 ty 32 i _ 3 24 Try.underlying50 hi hz hs hb rfl (by omega) v M.length (opCs M) hown ad L.length cap (opCs L) (opCs_len L) hcell (opCs_one L) (by unfold maxLen; omega) (by omega) hB
    exact ⟨v', w', h1, by rw [List.length_append, opCs_append]; exact h2, h3, h5⟩
theorem step_app {w : World} {ops : Array Oper} {o : Oper} {a : Act} {K : Act → World → Prop} {Q : Exit → Act → World → Prop} {E : Prop} (fl : Operand) (fv : Value) (hfl : a.eval fl = fv) (hgd : o.guard = none) (s x : Operand)
    (ho : o.op = .call { callee := .builtin .append, args := #[s, x], argTypes := #[50, 50] })
    (B : Nat) (v : Value) (M : List Opn) (u : Value) (L : List Opn) (hs : a.eval s = v) (hx : a.eval x = u) (hown : w.ownsRow B 32 3 v M.length (opCs M)) (hu : OpL w u L) (hl : M.length + L.length ≤ 2000) (hB : B ≤ w.heap.size)
    (h : ∀ v' w', w'.ownsRow B 32 3 v' (M ++ L).length (opCs (M ++ L)) → w.grownBy w' v.ownBlock → (v'.ownBlock = v.ownBlock ∨ v'.ownBlock = some w.heap.size) → K (a.put o.dst v') w') :
    if Region.wanted o (yielded ops a.tmps) = true then Oper.wp Try.prog o a w K Q else E := by
  have hw : Region.wanted o (yielded ops a.tmps) = true := by simp [Region.wanted, hgd]
  rw [if_pos hw]
  obtain ⟨v', w', hr, h2, h3, h4⟩ := run_app w o.type B v M u L hown hu hl hB
  unfold Oper.wp execOp
  simp only [ho, resolve, invoke, builtin, Sem.run_bind, Sem.run_pure, Result.andThen_ok, List.map_toArray, List.map_cons, List.map_nil, hs, hx, hr]
  exact h v' w' h2 h3 h4
theorem own_none (w : World) (B : Nat) (hB : B ≤ w.heap.size) : (w.alloc (.cells #[] 32)).ownsRow B 32 3 (.slice (some ⟨w.heap.size, 0, none⟩) ([] : List Opn).length 0) ([] : List Opn).length (opCs []) :=
  World.ownsRow_made w #[] 0 hB (by unfold maxLen; omega) rfl
/-- What holds behind the first append. -/
structure RA (B : Nat) (W Wa : World) (va : Value) (T1 : List Opn) : Prop where
  below : Below W.heap.size W Wa
  own : Wa.ownsRow B 32 3 va ([] ++ T1).length (opCs ([] ++ T1))
  far : ∃ g, W.heap.size ≤ g ∧ va.ownBlock = some g
theorem RA.mk' {B : Nat} {W X Wa : World} {va : Value} {T1 : List Opn} {q c : Nat} (hX : Below W.heap.size W X) (hq : W.heap.size ≤ q) (own : Wa.ownsRow B 32 3 va ([] ++ T1).length (opCs ([] ++ T1))) (grow : X.grownBy Wa (Value.ownBlock (.slice (some ⟨q, 0, none⟩) 0 c))) (at' : va.ownBlock = Value.ownBlock (.slice (some ⟨q, 0, none⟩) 0 c) ∨ va.ownBlock = some X.heap.size) : RA B W Wa va T1 :=
  ⟨hX.grown grow hX.size (fun g e => by have e' : q = g := Option.some.inj e; omega), own, at'.elim (fun e => ⟨q, hq, e⟩) (fun e => ⟨_, hX.size, e⟩)⟩
theorem RB.mk' {B : Nat} {W Wa X Wb : World} {va : Value} {L : List Opn} (hA : RA B W Wa va L) (hX : Below Wa.heap.size Wa X) (grow : X.grownBy Wb va.ownBlock) : Below W.heap.size W Wb :=
  (hA.below.trans (hX.mono hA.below.size)).grown grow (Nat.le_trans hA.below.size hX.size) (fun g e => by
    obtain ⟨g', h1, h2⟩ := hA.far
    rw [h2] at e
    have := Option.some.inj e
    omega)
theorem opl_far {X Wa : World} {q c b : Nat} {l : List Opn} (h : OpL X (.slice (some ⟨b, 0, none⟩) 1 1) l) (hne : b ≠ q) (grow : X.grownBy Wa (Value.ownBlock (.slice (some ⟨q, 0, none⟩) 0 c))) : OpL Wa (.slice (some ⟨b, 0, none⟩) 1 1) l :=
  h.stay (X := fun k => k = q) ⟨grow.os, grow.tape, grow.output, grow.size, fun k hk hx => grow.block k hk (fun e => hx (Option.some.inj e))⟩ (fun g hg e => by have e' : b = g := Option.some.inj hg; omega)
/-- All that there ever was, and one more. -/
theorem add_b {B : Nat} {W Wb : World} {b : Nat} {s : Fs} {o : Opn} {vb : Value} (h : Rt B W b s) (hW : Below W.heap.size W Wb) (own : Wb.ownsRow W.heap.size 32 3 vb (s.all ++ [o]).length (opCs (s.all ++ [o]))) : RStp B W (Wb.setCell ⟨b, 54, none⟩ vb) b (addO s o) ∧ (∃ x, Wb.cell? ⟨b, 54, none⟩ = some x) ∧ Wb.frozen? ⟨b, 54, none⟩ = false ∧ b < Wb.heap.size := by
  obtain ⟨v0, h1, h2⟩ := h.ex
  have hcw := h1.below hW
  have hb := h.lt
  refine ⟨⟨⟨h.g, ⟨vb, hcw.set 54 vb, ?_⟩, h.ok.add o⟩, (Apart.of_below hW).trans (Apart.at (X := fun k => k = b) _ b _ _ rfl)⟩, ⟨_, hcw.cell 54⟩, hcw.thaw 54, hcw.lt⟩
  exact (OpR.of_own own).stay (Apart.at (X := fun k => k = b) _ b _ _ rfl) (op_ne hcw)
set_option maxHeartbeats 2000000 in
theorem ropen_ok (B b : Nat) (s : Fs) (p : Fin 6) (j : Fin 8) (o : Opn) (w : World) (h : Rt B w b s) (hp : s.has p = true) (ho : kindOk o.k) (h0 : s.fd p j = 0) (hlj : ∀ i : Fin 8, i.1 < j.1 → s.fd p i ≠ 0) (hl : s.all.length ≤ 1000) : Calls Try.prog 46 #[.pointer (some ⟨b, 0, none⟩), .int .i64 p.1, .agg (opC o).toArray] w fun r w' => r = .returned (.tuple #[.int .i64 j.1, .int .i64 0]) ∧ RStp B w w' b (opnS s p j o) := by
  have hX : Below w.heap.size w (w.alloc (.cells #[.int .u8 o.k, .int .i64 o.r, .int .i64 o.p] 32)) := below_new w _
  have cM := may_ok b s p _ (h.below hX).c hp
  have cR := rroom_ok b s p _ (h.below hX).c hp
  have hbx := heap_alloc_new w (.cells #[.int .u8 o.k, .int .i64 o.r, .int .i64 o.p] 32)
  have hroom : ((roomN s p : Int) == 0) = false := by
    rw [beq_eq_false_iff_ne]
    unfold roomN
    have : (lsL (s.fd p) 8).length < 8 := by
      by_cases hc : (lsL (s.fd p) 8).length < 8
      · exact hc
      · exfalso
        have e1 := lsL_no (s.fd p) j.1 j.2 h0
        have e2 := lsL_len (s.fd p) j.1
        have e3 : ∀ n, j.1 + 1 + n ≤ 8 → (lsL (s.fd p) (j.1 + 1 + n)).length ≤ j.1 + n := by
          intro n
          induction n with
          | zero => intro _; rw [Nat.add_zero, e1]; omega
          | succ n ih =>
            intro hn
            have := ih (by omega)
            rw [← Nat.add_assoc]
            by_cases hz : s.fd p ⟨j.1 + 1 + n, by omega⟩ = 0
            · rw [lsL_no _ _ _ hz]; omega
            · rw [lsL_yes _ _ _ hz, List.length_append, List.length_singleton]; omega
        have := e3 (7 - j.1) (by omega)
        rw [show j.1 + 1 + (7 - j.1) = 8 by omega] at this
        omega
    omega
  have HG : Hid3 (∀ W W', Below w.heap.size w W → RStp B W W' b (addO s o) → ∃ a cap, W'.cell? ⟨b, 54, none⟩ = some (.slice a (s.all.length + 1) cap) ∧ b < W'.heap.size ∧ Calls Try.prog 55 #[.pointer (some ⟨b, 0, none⟩), .int .i64 p.1, .int .i64 ((s.all.length + 1 : Nat) : Int)] W' fun r w' => r = .returned (.tuple #[.int .i64 j.1, .int .i64 0]) ∧ RStp B w w' b (opnS s p j o)) := ⟨fun W W' hB hS => by
    obtain ⟨v, h1, h2⟩ := hS.r.ex
    obtain ⟨a, cap, hv, _⟩ := h2.cells
    have e : (addO s o).all.length = s.all.length + 1 := by unfold addO; simp
    rw [e] at hv
    refine ⟨a, cap, by rw [← hv]; exact h1.cell 54, h1.lt, ?_⟩
    refine (give_ok B b (addO s o) p j (s.all.length + 1) W' hS.r hp (by omega) h0 hlj).mono ?_
    rintro r w' ⟨rfl, h3⟩
    exact ⟨rfl, (hS.trans h3).pre hB⟩⟩
  have HRt := Hid3.mk h
  have hlt := h.lt
  obtain ⟨rm, hrm⟩ : ∃ rm, ((roomN s p : Nat) : Int) = rm := ⟨_, rfl⟩
  rw [hrm] at cR hroom
  clear h hX h0 hlj hrm
  generalize hL : s.all = L at *
  have HL := Hid3.mk hL
  clear hL
  have hN1 : (((L.length + 1 : Nat)) : Int) = (L.length : Int) + 1 := by omega
  obtain ⟨o0, o1, o2⟩ := o
  unfold opC
  simp only at *
  have k0 : (o0 == 0) = false := by rw [beq_eq_false_iff_ne]; rcases ho with e | e | e <;> (rw [e]; decide)
  have k3 : ¬ o0 > 3 := by rcases ho with e | e | e <;> (rw [e]; decide)
  have k3' : ¬ (3 : Int) < o0 := k3
  clear ho
  go_enter Try.func46, Try.ntmps46
  go_wp2_with fail
  refine cM.mono ?_
  rintro r W9 ⟨rfl, hW9⟩
  rw [hW9]
  clear cM hW9
  go_wp2_with fail
  refine cR.mono ?_
  rintro r W ⟨rfl, hBr⟩
  have hBW : Below w.heap.size w W := (below_new w _).trans (hBr.mono (by simp))
  have HBW := Hid3.mk hBW
  have hbW := (hBr.block w.heap.size (by simp)).trans hbx
  have x0 : W.cell? ⟨w.heap.size, 0, none⟩ = some (.int .u8 o0) := by rw [Lib.cell_of_heap hbW]; rfl
  have x1 : W.cell? ⟨w.heap.size, 1, none⟩ = some (.int .i64 o1) := by rw [Lib.cell_of_heap hbW]; rfl
  have x2 : W.cell? ⟨w.heap.size, 2, none⟩ = some (.int .i64 o2) := by rw [Lib.cell_of_heap hbW]; rfl
  have hxl : w.heap.size < W.heap.size := (Array.getElem?_eq_some_iff.1 hbW).1
  have HRW := Hid3.mk (HRt.out.below hBW)
  obtain ⟨vq, hcq, hrq⟩ := HRW.out.ex
  rw [HL.out] at hrq
  obtain ⟨aq, capq, hvq, _⟩ := hrq.cells
  subst hvq
  have c54 : W.cell? ⟨b, 54, none⟩ = some (.slice aq L.length capq) := hcq.cell 54
  have hblt := HRW.out.lt
  have hM1 := OpL.of hrq
  have HC9 : Hid3 (∀ W', Below W.heap.size W W' → W'.cell? ⟨w.heap.size, 0, none⟩ = some (.int .u8 o0) ∧ W'.cell? ⟨w.heap.size, 1, none⟩ = some (.int .i64 o1) ∧ W'.cell? ⟨w.heap.size, 2, none⟩ = some (.int .i64 o2)) := ⟨fun W' hW => ⟨(hW.cell (p := ⟨w.heap.size, 0, none⟩) hxl).trans x0, (hW.cell (p := ⟨w.heap.size, 1, none⟩) hxl).trans x1, (hW.cell (p := ⟨w.heap.size, 2, none⟩) hxl).trans x2⟩⟩
  have HF : Hid3 (∀ vb Wb, Below W.heap.size W Wb → Wb.ownsRow W.heap.size 32 3 vb ([] ++ L ++ [(⟨o0, o1, o2⟩ : Opn)]).length (opCs ([] ++ L ++ [(⟨o0, o1, o2⟩ : Opn)])) → RStp B W (Wb.setCell ⟨b, 54, none⟩ vb) b (addO s ⟨o0, o1, o2⟩) ∧ (∃ x, Wb.cell? ⟨b, 54, none⟩ = some x) ∧ Wb.frozen? ⟨b, 54, none⟩ = false ∧ b < Wb.heap.size) := ⟨fun vb Wb hW ow => add_b HRW.out hW (by rw [HL.out]; exact ow)⟩
  have hL1 : ([] : List Opn).length + L.length ≤ 2000 := by simp; omega
  have hL2 : ([] ++ L).length + [(⟨o0, o1, o2⟩ : Opn)].length ≤ 2000 := by simp; omega
  have hX1 : Below W.heap.size W (W.alloc (.cells #[] 32)).drew := ((Below.refl _ W).alloc (Nat.le_refl _) _).drew
  have hX2 : Below W.heap.size W ((W.alloc (.cells #[] 32)).alloc (.cells #[.int .u8 o0, .int .i64 o1, .int .i64 o2] 32)).drew := (((Below.refl _ W).alloc (Nat.le_refl _) _).alloc (by simp) _).drew
  have hX3 : Below W.heap.size W ((W.alloc (.cells #[.int .u8 o0, .int .i64 o1, .int .i64 o2] 32)).alloc (.cells #[] 32)).drew := (((Below.refl _ W).alloc (Nat.le_refl _) _).alloc (by simp) _).drew
  have HX1 := Hid3.mk hX1
  have HX2 := Hid3.mk hX2
  have HX3 := Hid3.mk hX3
  have HX1s : Hid3 (W.heap.size ≤ (W.alloc (.cells #[] 32)).drew.heap.size) := ⟨hX1.size⟩
  have HX2s : Hid3 (W.heap.size ≤ ((W.alloc (.cells #[] 32)).alloc (.cells #[.int .u8 o0, .int .i64 o1, .int .i64 o2] 32)).drew.heap.size) := ⟨hX2.size⟩
  have HX3s : Hid3 (W.heap.size ≤ ((W.alloc (.cells #[.int .u8 o0, .int .i64 o1, .int .i64 o2] 32)).alloc (.cells #[] 32)).drew.heap.size) := ⟨hX3.size⟩
  have H01 : Hid3 ((W.alloc (.cells #[] 32)).drew.ownsRow W.heap.size 32 3 (.slice (some ⟨W.heap.size, 0, none⟩) 0 0) ([] : List Opn).length (opCs [])) := ⟨own_none W W.heap.size (Nat.le_refl _)⟩
  have H02 : Hid3 (((W.alloc (.cells #[] 32)).alloc (.cells #[.int .u8 o0, .int .i64 o1, .int .i64 o2] 32)).drew.ownsRow W.heap.size 32 3 (.slice (some ⟨W.heap.size, 0, none⟩) 0 0) ([] : List Opn).length (opCs [])) := ⟨(own_none W W.heap.size (Nat.le_refl _)).alloc _⟩
  have H03 : Hid3 (((W.alloc (.cells #[.int .u8 o0, .int .i64 o1, .int .i64 o2] 32)).alloc (.cells #[] 32)).drew.ownsRow W.heap.size 32 3 (.slice (some ⟨W.heap.size + 1, 0, none⟩) 0 0) ([] : List Opn).length (opCs [])) := ⟨by
    have := own_none (W.alloc (.cells #[.int .u8 o0, .int .i64 o1, .int .i64 o2] 32)) W.heap.size (by rw [World.size_alloc]; omega)
    rw [World.size_alloc] at this
    exact this⟩
  have H11 : Hid3 (OpL (W.alloc (.cells #[] 32)).drew (.slice aq L.length capq) L) := ⟨hM1.below hX1⟩
  have H12 : Hid3 (OpL ((W.alloc (.cells #[] 32)).alloc (.cells #[.int .u8 o0, .int .i64 o1, .int .i64 o2] 32)).drew (.slice aq L.length capq) L) := ⟨hM1.below hX2⟩
  have H13 : Hid3 (OpL ((W.alloc (.cells #[.int .u8 o0, .int .i64 o1, .int .i64 o2] 32)).alloc (.cells #[] 32)).drew (.slice aq L.length capq) L) := ⟨hM1.below hX3⟩
  have HM2 : Hid3 (OpL ((W.alloc (.cells #[] 32)).alloc (.cells #[.int .u8 o0, .int .i64 o1, .int .i64 o2] 32)).drew (.slice (some ⟨W.heap.size + 1, 0, none⟩) 1 1) [⟨o0, o1, o2⟩]) := ⟨by
    have := opl_one (W.alloc (.cells #[] 32)) ⟨o0, o1, o2⟩
    rw [World.size_alloc] at this
    exact this.below ((Below.refl _ _).drew)⟩
  have HM3 : Hid3 (OpL ((W.alloc (.cells #[.int .u8 o0, .int .i64 o1, .int .i64 o2] 32)).alloc (.cells #[] 32)).drew (.slice (some ⟨W.heap.size, 0, none⟩) 1 1) [⟨o0, o1, o2⟩]) := ⟨(opl_one W ⟨o0, o1, o2⟩).below ((Below.refl _ _).alloc (Nat.le_refl _) _).drew⟩
  clear hX1 hX2 hX3 hM1 hBW hBr hbW hbx hcq hrq cR
  go_wp2_with fail
  go_cut [] (fun wx => ∃ W', W' = wx ∧ Hid3 (RStp B W W' b (addO s ⟨o0, o1, o2⟩)))
  case first =>
   go_region_law ((first
    | (refine step_app (.tmp 37) undef (by rfl) (by rfl) _ _ (by rfl) W.heap.size (.slice (some ⟨W.heap.size, 0, none⟩) 0 0) [] (.slice aq L.length capq) L (by rfl) (by rfl) (by exact H01.out) (by exact H11.out) (by exact hL1) (by exact HX1s.out) ?_; intro va Wa owna growa ata; have HA : Hid3 (RA W.heap.size W Wa va L) := ⟨RA.mk' HX1.out (Nat.le_refl _) owna growa ata⟩; obtain ⟨z0, z1, z2⟩ := HC9.out Wa HA.out.below; clear owna growa ata)
    | (refine step_app (.tmp 37) (.slice (some ⟨W.heap.size + 1, 0, none⟩) 1 1) (by rfl) (by rfl) _ _ (by rfl) W.heap.size (.slice (some ⟨W.heap.size, 0, none⟩) 0 0) [] (.slice aq L.length capq) L (by rfl) (by rfl) (by exact H02.out) (by exact H12.out) (by exact hL1) (by exact HX2s.out) ?_; intro va Wa owna growa ata; have HA : Hid3 (RA W.heap.size W Wa va L) := ⟨RA.mk' HX2.out (Nat.le_refl _) owna growa ata⟩; obtain ⟨z0, z1, z2⟩ := HC9.out Wa HA.out.below; have HMa : Hid3 (OpL Wa (.slice (some ⟨W.heap.size + 1, 0, none⟩) 1 1) [⟨o0, o1, o2⟩]) := ⟨opl_far HM2.out (by omega) growa⟩; clear owna growa ata)
    | (refine step_app (.tmp 37) (.slice (some ⟨W.heap.size, 0, none⟩) 1 1) (by rfl) (by rfl) _ _ (by rfl) W.heap.size (.slice (some ⟨W.heap.size + 1, 0, none⟩) 0 0) [] (.slice aq L.length capq) L (by rfl) (by rfl) (by exact H03.out) (by exact H13.out) (by exact hL1) (by exact HX3s.out) ?_; intro va Wa owna growa ata; have HA : Hid3 (RA W.heap.size W Wa va L) := ⟨RA.mk' HX3.out (Nat.le_succ _) owna growa ata⟩; obtain ⟨z0, z1, z2⟩ := HC9.out Wa HA.out.below; have HMa : Hid3 (OpL Wa (.slice (some ⟨W.heap.size, 0, none⟩) 1 1) [⟨o0, o1, o2⟩]) := ⟨opl_far HM3.out (by omega) growa⟩; clear owna growa ata)
    | (refine step_app (.tmp 0) (.pointer (some ⟨b, 0, none⟩)) (by rfl) (by rfl) _ _ (by rfl) W.heap.size va ([] ++ L) _ [⟨o0, o1, o2⟩] (by rfl) (by rfl) (by exact HA.out.own) (by exact HMa.out) (by exact hL2) (by have := HA.out.below.size; omega) ?_; intro vb Wb ownb growb atb; have HQ := Hid3.mk (HF.out vb Wb (RB.mk' HA.out (Below.refl _ _) growb) ownb); obtain ⟨u54, c4⟩ := HQ.out.2.1; have f4 := HQ.out.2.2.1; have l4 := HQ.out.2.2.2; obtain ⟨a', cap', e'⟩ := slice_of ownb; have e'' : vb = .slice a' (L.length + 1) cap' := by { rw [e']; simp }; clear e' ownb growb atb; subst e'')
    | (refine step_app (.tmp 37) (.slice (some ⟨Wa.heap.size, 0, none⟩) 1 1) (by rfl) (by rfl) _ _ (by rfl) W.heap.size va ([] ++ L) _ [⟨o0, o1, o2⟩] (by rfl) (by rfl) (by exact HA.out.own.alloc _) (by exact opl_one Wa ⟨o0, o1, o2⟩) (by exact hL2) (by rw [World.size_alloc]; have := HA.out.below.size; omega) ?_; intro vb Wb ownb growb atb; have HQ := Hid3.mk (HF.out vb Wb (RB.mk' HA.out (below_new Wa _) growb) ownb); obtain ⟨u54, c4⟩ := HQ.out.2.1; have f4 := HQ.out.2.2.1; have l4 := HQ.out.2.2.2; obtain ⟨a', cap', e'⟩ := slice_of ownb; have e'' : vb = .slice a' (L.length + 1) cap' := by { rw [e']; simp }; clear e' ownb growb atb; subst e'')))
   all_goals
     go_wp2_with fail
     go_meet
     case rel => exact ⟨_, rfl, ⟨HQ.out.1⟩⟩
  case rest =>
    obtain ⟨W2, rfl, HQ⟩ := hcut
    clear H01 H02 H03 H11 H12 H13 HX1 HX2 HX3 HX1s HX2s HX3s HM2 HM3 x0 x1 x2 c54 HC9 HF
    obtain ⟨a', cap', d54, hl2, cG⟩ := HG.out W W2 HBW.out HQ.out
    rw [hN1] at cG
    go_wp2_with fail
    refine cG.mono ?_
    rintro r W3 ⟨rfl, hS⟩
    have HS := Hid3.mk hS
    clear cG hS
    go_wp2
    go_ret2
    exact ⟨rfl, HS.out⟩
end Go.Proofs.Ytbkpkcndmlapfaa
