/- The program's registry: what is told; what is held, and what is not any more. -/
import Derived.Test.YtknmbecabgencaaRgA
import Derived.StillTailTactics
namespace Go.Proofs.Ytknmbecabgencaa
open Go.RowKit Go.Maps
set_option linter.unusedVariables false
set_option maxRecDepth 100000
theorem wpList_look {ops : Array Oper} {rest : List Oper} {o : Oper} {a : Act} {w : World} {Q : Exit → Act → World → Prop} (hgd : o.guard = none) (t : TypeId) (x i : Operand) (ho : o.op = .lookup t x i true) (xv iv u : Value) (hx : a.eval x = xv) (hi : a.eval i = iv) (hL : (Instr.lookup t xv iv true).run Try.prog w = .ok u w)
    (h : wpList Try.prog ops Q rest (a.put o.dst u) w) : wpList Try.prog ops Q (o :: rest) a w :=
  wpList_plain hgd fun K hK => by
    unfold Oper.wp execOp
    simp only [ho, hx, hi, Sem.run_bind, hL, Result.andThen_ok, Sem.run_pure]
    exact hK _ _ h
theorem wpList_mupd {ops : Array Oper} {rest : List Oper} {o : Oper} {a : Act} {w w' : World} {Q : Exit → Act → World → Prop} (hgd : o.guard = none) (t : TypeId) (x i v : Operand) (ho : o.op = .mapUpdate t x i v) (xv iv vv : Value) (hx : a.eval x = xv) (hi : a.eval i = iv) (hv : a.eval v = vv) (hL : (Instr.mapUpdate t xv iv vv).run Try.prog w = .ok () w')
    (h : wpList Try.prog ops Q rest (a.put o.dst undef) w') : wpList Try.prog ops Q (o :: rest) a w :=
  wpList_plain hgd fun K hK => by
    unfold Oper.wp execOp
    simp only [ho, hx, hi, hv, Sem.run_bind, hL, Result.andThen_ok, Sem.run_pure]
    exact hK _ _ h
theorem wpList_del {ops : Array Oper} {rest : List Oper} {o : Oper} {a : Act} {w w' : World} {Q : Exit → Act → World → Prop} (hgd : o.guard = none) (t ts : TypeId) (x i : Operand) (ho : o.op = .call { callee := .builtin .delete, args := #[x, i], argTypes := #[t, ts] }) (xv iv : Value) (hx : a.eval x = xv) (hi : a.eval i = iv) (hL : (Builtin.delete_ #[t, ts] o.type #[xv, iv]).run Try.prog w = .ok (.tuple #[]) w')
    (h : wpList Try.prog ops Q rest (a.put o.dst (.tuple #[])) w') : wpList Try.prog ops Q (o :: rest) a w :=
  wpList_plain hgd fun K hK => by
    unfold Oper.wp execOp
    simp only [ho, resolve, invoke, builtin, Sem.run_bind, Sem.run_pure, Result.andThen_ok, List.map_toArray, List.map_cons, List.map_nil, hx, hi, hL]
    exact hK _ _ h
theorem still_tail {id : Nat} {Q : Exit → Act → World → Prop} {a : Act} {w : World} {l : List Oper} (n : Nat) (hm : Try.prog.follows .mixedOrders = true) (hB : Region.lexTailB .any l.toArray n = true)
    (h : wpStill Try.prog l.toArray w.drew (fun a' => wpList Try.prog l.toArray Q (l.drop n) a' w.drew) (l.take n) a) : (Code.region id l.toArray true).wp Try.prog Q a w := wp_region_still_tail n hm hB h
def upI {α : Type} (f : Int → Option α) (k : Int) (v : Option α) : Int → Option α := fun i => if i = k then v else f i
def cV (c : Int × Bool) : Value := .agg #[.int .i64 c.1, .bool c.2]
/-- Which frames hold which sectors, told both ways. -/
structure Both (C : Int → Option (Int × Bool)) (F : Int → Option Int) : Prop where
  c : ∀ f s b, C f = some (s, b) → 0 ≤ f ∧ f < 64 ∧ 0 ≤ s ∧ s < 64 ∧ F s = some f
  f : ∀ s f, F s = some f → ∃ b, C f = some (s, b)
/-- The program's registry. -/
structure Rg (B : Nat) (w : World) (b rc rf : Nat) (C : Int → Option (Int × Bool)) (F : Int → Option Int) : Prop where
  g : B ≤ b
  gc : B ≤ rc
  gf : B ≤ rf
  ne : rc ≠ rf
  r : Cl w b 40 [.map (some rc), .map (some rf)]
  mc : ∃ cs, Mp w rc .u8 cs ∧ (keys cs).Nodup ∧ ∀ k, lk cs k = (C k).map cV
  mf : ∃ fs, Mp w rf .i64 fs ∧ (keys fs).Nodup ∧ ∀ k, lk fs k = (F k).map (Value.int .u8)
def XR (rc rf : Nat) : Nat → Prop := fun k => k = rc ∨ k = rf
theorem Rg.below {B : Nat} {w w' : World} {b rc rf : Nat} {C : Int → Option (Int × Bool)} {F : Int → Option Int} (h : Rg B w b rc rf C F) (k : Below w.heap.size w w') : Rg B w' b rc rf C F :=
  ⟨h.g, h.gc, h.gf, h.ne, h.r.below k, h.mc.elim fun cs hc => ⟨cs, hc.1.below k, hc.2⟩, h.mf.elim fun fs hf => ⟨fs, hf.1.below k, hf.2⟩⟩
theorem Rg.nb {B : Nat} {w : World} {b rc rf : Nat} {C : Int → Option (Int × Bool)} {F : Int → Option Int} (h : Rg B w b rc rf C F) : b ≠ rc ∧ b ≠ rf := by
  have hr : w.heap[b]? = some (.cells #[.map (some rc), .map (some rf)] 40 (0, 0)) := h.r
  obtain ⟨_, ⟨a1, c1, h1, _⟩, _⟩ := h.mc
  obtain ⟨_, ⟨a2, c2, h2, _⟩, _⟩ := h.mf
  refine ⟨fun e => ?_, fun e => ?_⟩
  · rw [e, h1] at hr
    cases hr
  · rw [e, h2] at hr
    cases hr
theorem zeroC (w : World) : (zeroValue 44).run Try.prog w = .ok (cV (0, false)) w := by
  have h : (Try.prog.info? 44).map (fun i => i.zero) = some (some (cV (0, false))) := by kernel_rfl
  rw [Option.map_eq_some_iff] at h
  obtain ⟨i, hi, hz⟩ := h
  simp [zeroValue, typeInfo, hi, hz]
theorem zeroB (w : World) : (zeroValue 5).run Try.prog w = .ok (.int .u8 0) w := by
  have h : (Try.prog.info? 5).map (fun i => i.zero) = some (some (.int .u8 0)) := by kernel_rfl
  rw [Option.map_eq_some_iff] at h
  obtain ⟨i, hi, hz⟩ := h
  simp [zeroValue, typeInfo, hi, hz]
theorem lookC {B : Nat} {w : World} {b rc rf : Nat} {C : Int → Option (Int × Bool)} {F : Int → Option Int} (h : Rg B w b rc rf C F) (f : Int) : (Instr.lookup 37 (.map (some rc)) (.int .u8 f) true).run Try.prog w = .ok (.tuple #[cV ((C f).getD (0, false)), .bool (C f).isSome]) w := by
  obtain ⟨cs, hm, _, hl⟩ := h.mc
  have := look_run hm (t := 37) Try.underlying37 Try.underlying5 (zeroC w) f
  rw [hl] at this
  rw [this]
  cases C f <;> rfl
theorem lookF {B : Nat} {w : World} {b rc rf : Nat} {C : Int → Option (Int × Bool)} {F : Int → Option Int} (h : Rg B w b rc rf C F) (s : Int) : (Instr.lookup 38 (.map (some rf)) (.int .i64 s) true).run Try.prog w = .ok (.tuple #[.int .u8 ((F s).getD 0), .bool (F s).isSome]) w := by
  obtain ⟨fs, hm, _, hl⟩ := h.mf
  have := look_run hm (t := 38) Try.underlying38 Try.underlying3 (zeroB w) s
  rw [hl] at this
  rw [this]
  cases F s <;> rfl
/-- What a call that changes it comes to. -/
structure RStp (B : Nat) (w w' : World) (b rc rf : Nat) (C : Int → Option (Int × Bool)) (F : Int → Option Int) : Prop where
  a : Rg B w' b rc rf C F
  ap : Apart (XR rc rf) w w'
theorem RStp.same {B : Nat} {w w' : World} {b rc rf : Nat} {C : Int → Option (Int × Bool)} {F : Int → Option Int} (h : Rg B w b rc rf C F) (k : Below w.heap.size w w') : RStp B w w' b rc rf C F := ⟨h.below k, Apart.of_below k⟩
theorem RStp.trans {B : Nat} {w1 w2 w3 : World} {b rc rf : Nat} {C C' : Int → Option (Int × Bool)} {F F' : Int → Option Int} (h : RStp B w1 w2 b rc rf C F) (k : RStp B w2 w3 b rc rf C' F') : RStp B w1 w3 b rc rf C' F' := ⟨k.a, h.ap.trans k.ap⟩
theorem RStp.pre {B : Nat} {w1 w2 w3 : World} {b rc rf : Nat} {C' : Int → Option (Int × Bool)} {F' : Int → Option Int} (h : Below w1.heap.size w1 w2) (k : RStp B w2 w3 b rc rf C' F') : RStp B w1 w3 b rc rf C' F' := ⟨k.a, (Apart.of_below h).trans k.ap⟩
theorem RStp.belowB {B : Nat} {w w' : World} {b rc rf : Nat} {C : Int → Option (Int × Bool)} {F : Int → Option Int} (h : RStp B w w' b rc rf C F) (hB : B ≤ w.heap.size) : Below B w w' := h.ap.below B (fun k e => by
  rcases e with e | e
  · rw [e]; exact h.a.gc
  · rw [e]; exact h.a.gf) hB
theorem stepC {B : Nat} {w : World} {b rc rf : Nat} {C : Int → Option (Int × Bool)} {F : Int → Option Int} (h : Rg B w b rc rf C F) (f : Int) (c : Int × Bool) : ∃ w', (Instr.mapUpdate 37 (.map (some rc)) (.int .u8 f) (cV c)).run Try.prog w = .ok () w' ∧ RStp B w w' b rc rf (upI C f (some c)) F := by
  obtain ⟨cs, hm, hn, hl⟩ := h.mc
  obtain ⟨w', h1, h2, h3⟩ := upd_run hm (t := 37) Try.underlying37 Try.underlying5 f (cV c)
  obtain ⟨fs, hf, hf2⟩ := h.mf
  exact ⟨w', h1, ⟨h.g, h.gc, h.gf, h.ne, h.r.stay h3 h.nb.1, ⟨_, h2, nodup_put _ _ _ hn, fun k => by rw [lk_put, hl, upI]; split <;> rfl⟩, ⟨fs, hf.stay h3 (fun e => h.ne e.symm), hf2⟩⟩, h3.wide (fun _ _ e => .inl e)⟩
theorem stepF {B : Nat} {w : World} {b rc rf : Nat} {C : Int → Option (Int × Bool)} {F : Int → Option Int} (h : Rg B w b rc rf C F) (s f : Int) : ∃ w', (Instr.mapUpdate 38 (.map (some rf)) (.int .i64 s) (.int .u8 f)).run Try.prog w = .ok () w' ∧ RStp B w w' b rc rf C (upI F s (some f)) := by
  obtain ⟨fs, hm, hn, hl⟩ := h.mf
  obtain ⟨w', h1, h2, h3⟩ := upd_run hm (t := 38) Try.underlying38 Try.underlying3 s (.int .u8 f)
  obtain ⟨cs, hf, hf2⟩ := h.mc
  exact ⟨w', h1, ⟨h.g, h.gc, h.gf, h.ne, h.r.stay h3 h.nb.2, ⟨cs, hf.stay h3 h.ne, hf2⟩, ⟨_, h2, nodup_put _ _ _ hn, fun k => by rw [lk_put, hl, upI]; split <;> rfl⟩⟩, h3.wide (fun _ _ e => .inr e)⟩
theorem outC {B : Nat} {w : World} {b rc rf : Nat} {C : Int → Option (Int × Bool)} {F : Int → Option Int} (h : Rg B w b rc rf C F) (ty : TypeId) (f : Int) : ∃ w', (Builtin.delete_ #[37, 5] ty #[.map (some rc), .int .u8 f]).run Try.prog w = .ok (.tuple #[]) w' ∧ RStp B w w' b rc rf (upI C f none) F := by
  obtain ⟨cs, hm, hn, hl⟩ := h.mc
  obtain ⟨w', h1, h2, h3⟩ := del_run hm (t := 37) (ts := 5) (ty := ty) Try.underlying37 Try.underlying5 f
  obtain ⟨fs, hf, hf2⟩ := h.mf
  exact ⟨w', h1, ⟨h.g, h.gc, h.gf, h.ne, h.r.stay h3 h.nb.1, ⟨_, h2, nodup_del _ _ hn, fun k => by rw [lk_del _ _ _ hn, hl, upI]; split <;> rfl⟩, ⟨fs, hf.stay h3 (fun e => h.ne e.symm), hf2⟩⟩, h3.wide (fun _ _ e => .inl e)⟩
theorem outF {B : Nat} {w : World} {b rc rf : Nat} {C : Int → Option (Int × Bool)} {F : Int → Option Int} (h : Rg B w b rc rf C F) (ty : TypeId) (s : Int) : ∃ w', (Builtin.delete_ #[38, 3] ty #[.map (some rf), .int .i64 s]).run Try.prog w = .ok (.tuple #[]) w' ∧ RStp B w w' b rc rf C (upI F s none) := by
  obtain ⟨fs, hm, hn, hl⟩ := h.mf
  obtain ⟨w', h1, h2, h3⟩ := del_run hm (t := 38) (ts := 3) (ty := ty) Try.underlying38 Try.underlying3 s
  obtain ⟨cs, hf, hf2⟩ := h.mc
  exact ⟨w', h1, ⟨h.g, h.gc, h.gf, h.ne, h.r.stay h3 h.nb.2, ⟨cs, hf.stay h3 h.ne, hf2⟩, ⟨_, h2, nodup_del _ _ hn, fun k => by rw [lk_del _ _ _ hn, hl, upI]; split <;> rfl⟩⟩, h3.wide (fun _ _ e => .inr e)⟩
theorem below_newd (w : World) (o : Obj) : Below w.heap.size w (w.alloc o).drew := by
  have h := below_new w o
  exact ⟨h.os, h.tape, h.output, h.size, h.block⟩
def thE (f : Int) : Int := if 64 ≤ f then 2 else 0
set_option maxHeartbeats 1000000 in
theorem there_any (b : Nat) (f : Int) (w : World) : Calls Try.prog 11 #[.pointer (some ⟨b, 0, none⟩), .int .u8 f] w fun r w' => r = .returned (.int .i64 (thE f)) ∧ w' = w := by
  unfold thE
  by_cases h : 64 ≤ f
  · rw [if_pos h]
    go_enter Try.func11, Try.ntmps11
    go_wp2
    go_ret
    exact ⟨rfl, rfl⟩
  · rw [if_neg h]
    go_enter Try.func11, Try.ntmps11
    go_wp2
    go_ret
    exact ⟨rfl, rfl⟩
def ctE (C : Int → Option (Int × Bool)) (f : Int) : Int := if 64 ≤ f then 2 else if (C f).isSome then 0 else 5
def ctC (C : Int → Option (Int × Bool)) (f : Int) : Int × Bool := if 64 ≤ f then (0, false) else (C f).getD (0, false)
set_option maxHeartbeats 2000000 in
theorem content_any (B b rc rf : Nat) (C : Int → Option (Int × Bool)) (F : Int → Option Int) (f : Int) (w : World) (h : Rg B w b rc rf C F) : Calls Try.prog 13 #[.pointer (some ⟨b, 0, none⟩), .int .u8 f] w fun r w' => r = .returned (.tuple #[cV (ctC C f), .int .i64 (ctE C f)]) ∧ Below w.heap.size w w' := by
  have hX := below_new w (.cells #[.int .i64 0, .bool false] 44)
  have cT := there_any b f (w.alloc (.cells #[.int .i64 0, .bool false] 44))
  have hA := h.below hX
  have hb := h.r.lt
  have c0 : w.cell? ⟨b, 0, none⟩ = some (.map (some rc)) := h.r.cell 0
  have hL := lookC hA f
  unfold thE at cT
  unfold ctC ctE
  clear h hA
  by_cases h6 : 64 ≤ f
  · rw [if_pos h6] at cT ⊢
    rw [if_pos h6]
    clear hL
    go_enter Try.func13, Try.ntmps13
    go_wp2_with fail
    refine cT.mono ?_
    rintro r W ⟨rfl, rfl⟩
    go_wp2
    refine bodyPost_ret (v := .tuple #[.agg #[.int .i64 0, .bool false], .int .i64 2]) (by simp [results, Try.results13, go_sem]) rfl ⟨rfl, hX⟩
  · rw [if_neg h6] at cT ⊢
    rw [if_neg h6]
    generalize C f = o at *
    cases o with
    | none =>
      simp only [Option.getD_none, Option.isSome_none, cV] at hL
      go_enter Try.func13, Try.ntmps13
      go_wp2_with fail
      refine cT.mono ?_
      rintro r W ⟨rfl, rfl⟩
      go_wp2_with (refine wpList_look rfl 37 _ _ rfl _ _ _ rfl rfl hL ?_)
      refine bodyPost_ret (v := .tuple #[.agg #[.int .i64 0, .bool false], .int .i64 5]) (by simp [results, Try.results13, go_sem]) rfl ⟨rfl, ?_⟩
      exact hX.trans ((below_new _ _).mono hX.size)
    | some c =>
      obtain ⟨cs, cb⟩ := c
      simp only [Option.getD_some, Option.isSome_some, cV] at hL
      go_enter Try.func13, Try.ntmps13
      go_wp2_with fail
      refine cT.mono ?_
      rintro r W ⟨rfl, rfl⟩
      go_wp2_with (refine wpList_look rfl 37 _ _ rfl _ _ _ rfl rfl hL ?_)
      refine bodyPost_ret (v := .tuple #[.agg #[.int .i64 cs, .bool cb], .int .i64 0]) (by simp [results, Try.results13, go_sem]) rfl ⟨rfl, ?_⟩
      exact (below_new w _).trans ((below_new _ _).mono (below_new w _).size)
set_option maxHeartbeats 1000000 in
theorem sector_any (B b rc rf : Nat) (C : Int → Option (Int × Bool)) (F : Int → Option Int) (f : Int) (w : World) (h : Rg B w b rc rf C F) : Calls Try.prog 9 #[.pointer (some ⟨b, 0, none⟩), .int .u8 f] w fun r w' => r = .returned (.tuple #[.int .i64 (ctC C f).1, .bool (ctE C f == 0)]) ∧ Below w.heap.size w w' := by
  have cC := content_any B b rc rf C F f w h
  generalize ctC C f = cc at *
  generalize ctE C f = ce at *
  obtain ⟨cs, cb⟩ := cc
  unfold cV at cC
  clear h
  go_enter Try.func9, Try.ntmps9
  go_wp2_with fail
  refine cC.mono ?_
  rintro r W ⟨rfl, hB⟩
  have hX := hB.trans ((below_new W (.cells #[.int .i64 cs, .bool cb] 44)).mono hB.size)
  go_wp2
  go_ret2
  exact ⟨rfl, hX⟩
set_option maxHeartbeats 1000000 in
theorem frame_any (B b rc rf : Nat) (C : Int → Option (Int × Bool)) (F : Int → Option Int) (s : Int) (w : World) (h : Rg B w b rc rf C F) : Calls Try.prog 8 #[.pointer (some ⟨b, 0, none⟩), .int .i64 s] w fun r w' => r = .returned (.tuple #[.int .u8 ((F s).getD 0), .bool (F s).isSome]) ∧ w' = w := by
  have hL := lookF h s
  have c1 : w.cell? ⟨b, 1, none⟩ = some (.map (some rf)) := h.r.cell 1
  have hb := h.r.lt
  generalize (F s).getD 0 = a0 at *
  generalize (F s).isSome = a1 at *
  clear h
  go_enter Try.func8, Try.ntmps8
  go_wp2_with (refine wpList_look rfl 38 _ _ rfl _ _ _ rfl rfl hL ?_)
  go_ret2
  exact ⟨rfl, rfl⟩
set_option maxHeartbeats 2000000 in
theorem hold_any (B b rc rf : Nat) (C : Int → Option (Int × Bool)) (F : Int → Option Int) (f : Int) (c : Int × Bool) (w : World) (h : Rg B w b rc rf C F) : Calls Try.prog 12 #[.pointer (some ⟨b, 0, none⟩), .int .u8 f, cV c] w fun r w' => r = .returned (.tuple #[]) ∧ RStp B w w' b rc rf (upI C f (some c)) (upI F c.1 (some f)) := by
  have hX := below_newd w (.cells #[.int .i64 c.1, .bool c.2] 44)
  have hA := h.below hX
  obtain ⟨w1, u1, s1⟩ := stepC hA f c
  have s1d := s1.trans (RStp.same s1.a (below_drew w1))
  obtain ⟨w2, u2, s2⟩ := stepF s1d.a c.1 f
  have hb := h.r.lt
  have hrc : rc < w.heap.size := h.mc.elim fun _ hc => hc.1.lt
  have hrf : rf < w.heap.size := h.mf.elim fun _ hc => hc.1.lt
  have c0 : w.cell? ⟨b, 0, none⟩ = some (.map (some rc)) := h.r.cell 0
  have hbx : Cl w1 w.heap.size 44 [.int .i64 c.1, .bool c.2] := (Cl.new w 44 [.int .i64 c.1, .bool c.2]).drew.stay s1.ap (fun e => by rcases e with e | e <;> omega)
  have d1 : w1.cell? ⟨b, 1, none⟩ = some (.map (some rf)) := s1.a.r.cell 1
  have d2 : w1.cell? ⟨w.heap.size, 0, none⟩ = some (.int .i64 c.1) := hbx.cell 0
  have hl1 := s1.a.r.lt
  have hl2 := hbx.lt
  have HS := Hid3.mk ((RStp.pre hX (s1d.trans s2)))
  have U1 := Hid3.mk u1
  have U2 := Hid3.mk u2
  unfold cV at *
  clear h hA s1 s1d s2 hX hbx u1 u2
  go_enter Try.func12, Try.ntmps12
  go_wp2_with fail
  refine still_tail 6 (by kernel_rfl) (by kernel_rfl) ?_
  simp only [List.take_succ_cons, List.take_zero, List.drop_succ_cons, List.drop_zero]
  repeat still_step
  refine wpStill_nil ?_
  refine wpList_mupd rfl 37 _ _ _ rfl _ _ _ rfl rfl rfl U1.out ?_
  clear c0 U1
  go_wp2_with fail
  refine still_tail 7 (by kernel_rfl) (by kernel_rfl) ?_
  simp only [List.take_succ_cons, List.take_zero, List.drop_succ_cons, List.drop_zero]
  repeat still_step
  refine wpStill_nil ?_
  refine wpList_mupd rfl 38 _ _ _ rfl _ _ _ rfl rfl rfl U2.out ?_
  go_wp2
  go_end0
  exact ⟨rfl, HS.out⟩
set_option maxHeartbeats 2000000 in
theorem leave_any (B b rc rf : Nat) (C : Int → Option (Int × Bool)) (F : Int → Option Int) (f : Int) (c : Int × Bool) (w : World) (h : Rg B w b rc rf C F) : Calls Try.prog 14 #[.pointer (some ⟨b, 0, none⟩), .int .u8 f, cV c] w fun r w' => r = .returned (.tuple #[]) ∧ RStp B w w' b rc rf (upI C f none) (upI F c.1 none) := by
  have hX := below_new w (.cells #[.int .i64 c.1, .bool c.2] 44)
  have hA := h.below hX
  obtain ⟨w1, u1, s1⟩ := outC hA 0 f
  have s1d := s1.trans (RStp.same s1.a (below_drew w1))
  obtain ⟨w2, u2, s2⟩ := outF s1d.a 0 c.1
  have hb := h.r.lt
  have hrc : rc < w.heap.size := h.mc.elim fun _ hc => hc.1.lt
  have hrf : rf < w.heap.size := h.mf.elim fun _ hc => hc.1.lt
  have c0 : w.cell? ⟨b, 0, none⟩ = some (.map (some rc)) := h.r.cell 0
  have hbx : Cl w1 w.heap.size 44 [.int .i64 c.1, .bool c.2] := (Cl.new w 44 [.int .i64 c.1, .bool c.2]).stay s1.ap (fun e => by rcases e with e | e <;> omega)
  have d1 : w1.cell? ⟨b, 1, none⟩ = some (.map (some rf)) := s1.a.r.cell 1
  have d2 : w1.cell? ⟨w.heap.size, 0, none⟩ = some (.int .i64 c.1) := hbx.cell 0
  have hl1 := s1.a.r.lt
  have hl2 := hbx.lt
  have HS := Hid3.mk ((RStp.pre hX (s1d.trans s2)))
  have U2 := Hid3.mk u2
  unfold cV at *
  clear h hA s1 s1d s2 hX hbx u2
  go_enter Try.func14, Try.ntmps14
  go_wp2_with (refine wpList_del rfl 37 _ _ _ rfl _ _ rfl rfl u1 ?_)
  refine still_tail 6 (by kernel_rfl) (by kernel_rfl) ?_
  simp only [List.take_succ_cons, List.take_zero, List.drop_succ_cons, List.drop_zero]
  repeat still_step
  refine wpStill_nil ?_
  refine wpList_del rfl 38 _ _ _ rfl _ _ rfl rfl U2.out ?_
  go_wp2
  go_end0
  exact ⟨rfl, HS.out⟩
end Go.Proofs.Ytknmbecabgencaa
