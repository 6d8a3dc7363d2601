/- The program's area: what is told, New, Entry, Set. -/
import Derived.Test.YtgoofonogdhhoabArA
namespace Go.Proofs.Ytgoofonogdhhoab
open Go.RowKit Go.Maps
set_option linter.unusedVariables false
set_option maxRecDepth 100000
theorem wpList_stores {ops : Array Oper} {rest : List Oper} {o : Oper} {a : Act} {w w' : World} {Q : Exit → Act → World → Prop} (hgd : o.guard = none) (ty : TypeId) (p x : Operand) (ho : o.op = .store ty p x) (v u : Value) (hp : a.eval p = v) (hx : a.eval x = u) (hL : (Instr.storeAt ty v u).run Try.prog w = .ok () w')
    (h : wpList Try.prog ops Q rest (a.put o.dst undef) w') : wpList Try.prog ops Q (o :: rest) a w :=
  wpList_plain hgd fun K hK => by
    unfold Oper.wp execOp
    simp only [ho, hp, hx, Sem.run_bind, hL, Result.andThen_ok, Sem.run_pure]
    exact hK _ _ h
theorem wpList_loads {ops : Array Oper} {rest : List Oper} {o : Oper} {a : Act} {w : World} {Q : Exit → Act → World → Prop} (hgd : o.guard = none) (ty : TypeId) (x : Operand) (ho : o.op = .load ty x) (v u : Value) (hx : a.eval x = v) (hL : (Instr.loadAt ty v).run Try.prog w = .ok u w)
    (h : wpList Try.prog ops Q rest (a.put o.dst u) w) : wpList Try.prog ops Q (o :: rest) a w :=
  wpList_plain hgd fun K hK => by
    unfold Oper.wp execOp
    simp only [ho, hx, Sem.run_bind, hL, Result.andThen_ok, Sem.run_pure]
    exact hK _ _ h
theorem step_loads {ops : Array Oper} {o : Oper} {a : Act} {w : World} {K : Act → World → Prop} {Q0 : Exit → Act → World → Prop} {E : Prop} (hgd : o.guard = none) (ty : TypeId) (x : Operand) (ho : o.op = .load ty x) (v u : Value) (hx : a.eval x = v) (hL : (Instr.loadAt ty v).run Try.prog w = .ok u w)
    (h : K (a.put o.dst u) w) : if Region.wanted o (yielded ops a.tmps) = true then Oper.wp Try.prog o a w K Q0 else E := by
  have hw : Region.wanted o (yielded ops a.tmps) = true := by simp [Region.wanted, hgd]
  rw [if_pos hw]
  unfold Oper.wp execOp
  simp only [ho, hx, Sem.run_bind, hL, Result.andThen_ok, Sem.run_pure]
  exact h
theorem step_stores {ops : Array Oper} {o : Oper} {a : Act} {w w' : World} {K : Act → World → Prop} {Q0 : Exit → Act → World → Prop} {E : Prop} (hgd : o.guard = none) (ty : TypeId) (p x : Operand) (ho : o.op = .store ty p x) (v u : Value) (hp : a.eval p = v) (hx : a.eval x = u) (hL : (Instr.storeAt ty v u).run Try.prog w = .ok () w')
    (h : K (a.put o.dst undef) w') : if Region.wanted o (yielded ops a.tmps) = true then Oper.wp Try.prog o a w K Q0 else E := by
  have hw : Region.wanted o (yielded ops a.tmps) = true := by simp [Region.wanted, hgd]
  rw [if_pos hw]
  unfold Oper.wp execOp
  simp only [ho, hp, hx, Sem.run_bind, hL, Result.andThen_ok, Sem.run_pure]
  exact h
theorem aggR (w : World) : (isAgg 26).run Try.prog w = .ok true w := by
  simp [isAgg, run_underlying Try.underlying26]
theorem aggL (w : World) : (isAgg 39).run Try.prog w = .ok true w := by
  simp [isAgg, run_underlying Try.underlying39]
theorem aggA (w : World) : (isAgg 44).run Try.prog w = .ok true w := by
  simp [isAgg, run_underlying Try.underlying44]
theorem sizR : (Try.prog.info? 26).map (·.size) = some 9 := by kernel_rfl
theorem sizL : (Try.prog.info? 39).map (·.size) = some 47 := by kernel_rfl
theorem sizA : (Try.prog.info? 44).map (·.size) = some 57 := by kernel_rfl
/-- The registers of the program's area. -/
theorem load_regs {B : Nat} {w : World} {b : Nat} {q : Ar} (h : Ac B w b q) : (Instr.loadAt 26 (.pointer (some ⟨b, 1, none⟩))).run Try.prog w = .ok q.s.V w :=
  loads h.c 26 1 9 q.s.vs (aggR w) sizR rfl rfl
theorem load_life {B : Nat} {w : World} {b : Nat} {q : Ar} (h : Ac B w b q) : (Instr.loadAt 39 (.pointer (some ⟨b, 0, none⟩))).run Try.prog w = .ok (.agg (lCs q).toArray) w :=
  loads h.c 39 0 47 (lCs q) (aggL w) sizL rfl rfl
theorem load_box {w : World} {b : Nat} {s : Rg} (h : Cl w b 26 s.vs) : (Instr.loadAt 26 (.pointer (some ⟨b, 0, none⟩))).run Try.prog w = .ok s.V w :=
  loads h 26 0 9 s.vs (aggR w) sizR rfl rfl
theorem store_regs {B : Nat} {w : World} {b : Nat} {q : Ar} (h : Ac B w b q) (s : Rg) : (Instr.storeAt 26 (.pointer (some ⟨b, 1, none⟩)) s.V).run Try.prog w = .ok () (w.setRow b (aCs { q with s := s }).toArray) := by
  have := stores h.c 26 1 9 s.vs sizR rfl (vs_one s) (by show 1 + 9 ≤ 57; omega)
  exact this
theorem store_box {w : World} {b : Nat} {s : Rg} (h : Cl w b 26 s.vs) (t : Rg) : (Instr.storeAt 26 (.pointer (some ⟨b, 0, none⟩)) t.V).run Try.prog w = .ok () (w.setRow b t.vs.toArray) := by
  have := stores h 26 0 9 t.vs sizR rfl (vs_one t) (by show 0 + 9 ≤ 9; omega)
  exact this
structure AcC (w : World) (b : Nat) (q : Ar) : Prop where
  cs : ∀ j v, (aCs q)[j]? = some v → w.cell? ⟨b, j, none⟩ = some v
  cd : w.cell? ⟨b, 46, none⟩ = some (.int .i64 q.kp.length)
  ct : ∀ k : Fin 5, w.cell? ⟨b, 47 + k.1 * 2, none⟩ = some (.int .u16 ((q.en k).getD 0))
  ch : ∀ k : Fin 5, w.cell? ⟨b, 47 + k.1 * 2 + 1, none⟩ = some (.bool (q.en k).isSome)
  f : ∀ j, w.frozen? ⟨b, j, none⟩ = false
  l : b < w.heap.size
theorem Ac.k {B : Nat} {w : World} {b : Nat} {q : Ar} (h : Ac B w b q) : AcC w b q := ⟨fun j v e => (h.c.cell j).trans e, h.c.cell 46, fun k => (h.c.cell _).trans (aCs_at q k), fun k => (h.c.cell _).trans (aCs_is q k), h.c.thaw, h.c.lt⟩
set_option maxHeartbeats 1000000 in
theorem regs_any (B b : Nat) (q : Ar) (w : World) (h : Ac B w b q) : Calls Try.prog 7 #[.pointer (some ⟨b, 0, none⟩)] w fun r w' => r = .returned q.s.V ∧ Below w.heap.size w w' := by
  have c1 := h.k.cs 1 _ rfl
  have c2 := h.k.cs 2 _ rfl
  have c3 := h.k.cs 3 _ rfl
  have c4 := h.k.cs 4 _ rfl
  have c5 := h.k.cs 5 _ rfl
  have c6 := h.k.cs 6 _ rfl
  have c7 := h.k.cs 7 _ rfl
  have c8 := h.k.cs 8 _ rfl
  have c9 := h.k.cs 9 _ rfl
  have hl := h.lt
  clear h
  obtain ⟨al, ⟨pc, a0, a1, a2, a3, a4, a5, a6, a7⟩, kp, en⟩ := q
  simp only at *
  go_enter Try.func7, Try.ntmps7
  go_wp2
  refine bodyPost_ret (v := .agg #[.int .u16 pc, .int .u16 a0, .int .u16 a1, .int .u16 a2, .int .u16 a3, .int .u16 a4, .int .u16 a5, .int .u16 a6, .int .u16 a7]) (by simp [results, Try.results7, go_sem]) rfl ⟨rfl, below_new w _⟩
set_option maxHeartbeats 1000000 in
theorem depth_any (B b : Nat) (q : Ar) (w : World) (h : Ac B w b q) : Calls Try.prog 8 #[.pointer (some ⟨b, 0, none⟩)] w fun r w' => r = .returned (.int .i64 q.kp.length) ∧ w' = w := by
  have c1 := h.k.cd
  have hl := h.lt
  generalize ((q.kp.length : Nat) : Int) = n at *
  clear h
  go_enter Try.func8, Try.ntmps8
  go_wp2
  go_ret
  exact ⟨rfl, rfl⟩
set_option maxHeartbeats 1000000 in
theorem there_ok (b : Nat) (k : Fin 5) (w : World) : Calls Try.prog 10 #[.pointer (some ⟨b, 0, none⟩), .int .u8 k.1] w fun r w' => r = .returned (.int .i64 0) ∧ w' = w := by
  obtain ⟨k, hk⟩ := k
  have h1 : ¬ (5 : Int) ≤ (k : Int) := by omega
  go_enter Try.func10, Try.ntmps10
  go_wp2
  go_ret
  exact ⟨rfl, rfl⟩
set_option maxHeartbeats 1000000 in
theorem there_bad (b : Nat) (k : Int) (w : World) (h1 : 5 ≤ k) : Calls Try.prog 10 #[.pointer (some ⟨b, 0, none⟩), .int .u8 k] w fun r w' => r = .returned (.int .i64 2) ∧ w' = w := by
  go_enter Try.func10, Try.ntmps10
  go_wp2
  go_ret
  exact ⟨rfl, rfl⟩
theorem AStp.ent {B : Nat} {w : World} {b : Nat} {q : Ar} (h : Ac B w b q) (k : Fin 5) (v : Int) : AStp B w ((w.setCell ⟨b, 47 + k.1 * 2, none⟩ (.int .u16 v)).setCell ⟨b, 47 + k.1 * 2 + 1, none⟩ (.bool true)) b { q with en := upd q.en k (some v) } :=
  ⟨⟨h.g, by
    have := (h.c.set (47 + k.1 * 2) (.int .u16 v)).set (47 + k.1 * 2 + 1) (.bool true)
    rw [aCs_eset] at this
    exact this, h.ok⟩, (Apart.at (X := XB b) w b _ _ rfl).trans (Apart.at (X := XB b) _ b _ _ rfl)⟩
def entQ (k : Fin 5) (v : Int) (q : Ar) : Ar := { q with en := upd q.en k (some v) }
set_option maxHeartbeats 1000000 in
theorem entry_ok (B b : Nat) (q : Ar) (k : Fin 5) (v : Int) (w : World) (h : Ac B w b q) : Calls Try.prog 5 #[.pointer (some ⟨b, 0, none⟩), .int .u8 k.1, .int .u16 v] w fun r w' => r = .returned (.int .i64 0) ∧ AStp B w w' b (entQ k v q) := by
  have cT := there_ok b k w
  have HS := AStp.ent h k v
  have c1 := h.k.ct k
  have c2 := h.k.ch k
  have f0 := h.k.f (47 + k.1 * 2)
  have f1 := h.k.f (47 + k.1 * 2 + 1)
  have hl := h.lt
  unfold entQ
  generalize (q.en k).getD 0 = a0 at *
  generalize (q.en k).isSome = a1 at *
  clear h
  obtain ⟨k, hk⟩ := k
  have h2 : (k : Int) < 5 := by omega
  simp only at *
  have HS' : Hid (AStp B w ((w.setCell ⟨b, 47 + k * 2, none⟩ (.int .u16 v)).setCell ⟨b, 47 + k * 2 + 1, none⟩ (.bool true)) b { q with en := upd q.en ⟨k, hk⟩ (some v) }) := HS
  clear HS
  go_enter Try.func5, Try.ntmps5
  go_wp2_with fail
  refine cT.mono ?_
  rintro r W ⟨rfl, rfl⟩
  go_wp2
  go_ret
  exact ⟨rfl, HS'.out⟩
set_option maxHeartbeats 1000000 in
theorem entry_bad (b : Nat) (k v : Int) (w : World) (h1 : 5 ≤ k) : Calls Try.prog 5 #[.pointer (some ⟨b, 0, none⟩), .int .u8 k, .int .u16 v] w fun r w' => r = .returned (.int .i64 2) ∧ w' = w := by
  have cT := there_bad b k w h1
  go_enter Try.func5, Try.ntmps5
  go_wp2_with fail
  refine cT.mono ?_
  rintro r W ⟨rfl, rfl⟩
  go_wp2
  go_ret
  exact ⟨rfl, rfl⟩
end Go.Proofs.Ytgoofonogdhhoab
