/- The program's area: what was kept last; Return; what stands against an upcall. -/
import Derived.Test.YtgoofonogdhhoabArF
namespace Go.Proofs.Ytgoofonogdhhoab
open Go.RowKit Go.Maps
set_option linter.unusedVariables false
set_option maxRecDepth 100000
theorem aCs_top (q : Ar) (r : List Rg) (t : Rg) (x : Value) (hq : q.kp = r ++ [t]) (h : r.length < 4) : (((aCs q).set 46 x).drop (10 + r.length * 9)).take 9 = t.vs := by
  have hk : kF q.kp r.length = t := by rw [hq, kF_push, if_pos rfl]
  have e := aCs_kept q ⟨r.length, h⟩
  simp only [hk] at e
  rw [← e]
  have : r.length = 0 ∨ r.length = 1 ∨ r.length = 2 ∨ r.length = 3 := by omega
  rcases this with e | e | e | e <;> (rw [e]; rfl)
theorem zeros_box (w : World) : Cl (w.alloc (.cells rg0.vs.toArray 26)) w.heap.size 26 rg0.vs := Cl.new w _ _
/-- One that is kept is taken out, step by step: its number; the rest. -/
structure La (B : Nat) (w W : World) (b : Nat) (q : Ar) (r : List Rg) (cs : List Value) : Prop where
  g : B ≤ b
  lt : b < w.heap.size
  c : Cl W b 44 cs
  z : Cl W w.heap.size 26 rg0.vs
  ap : Apart (XB b) w W
def lastQ (r : List Rg) (q : Ar) : Ar := { q with kp := r }
set_option maxHeartbeats 2000000 in
theorem last_any (B b : Nat) (q : Ar) (r : List Rg) (t : Rg) (w : World) (h : Ac B w b q) (hq : q.kp = r ++ [t]) : Calls Try.prog 15 #[.pointer (some ⟨b, 0, none⟩)] w fun e w' => e = .returned t.V ∧ AStp B w w' b (lastQ r q) := by
  have h4 : r.length < 4 := by have := h.ok.1; rw [hq] at this; simp at this; omega
  have hb1 := h.lt
  have hX := below_new w (.cells rg0.vs.toArray 26)
  have c1 : w.cell? ⟨b, 46, none⟩ = some (.int .i64 (r.length + 1)) := by
    have := h.k.cd
    rw [hq] at this
    simpa using this
  have f1 := h.k.f 46
  have hz : 0 ≤ (r.length : Int) := by omega
  have hz4 : (r.length : Int) < 4 := by omega
  have hw : IntKind.i64.wrap ((r.length : Int) + 1 - 1) = r.length := by rw [IntKind.wrap_i64]; omega
  -- the number is one less
  have L1 : Hid3 (La B w ((w.setCell ⟨b, 46, none⟩ (.int .i64 r.length)).alloc (.cells rg0.vs.toArray 26)) b q r ((aCs q).set 46 (.int .i64 r.length))) :=
    ⟨⟨h.g, hb1, (h.c.set _ _).alloc _, by
      have := zeros_box (w.setCell ⟨b, 46, none⟩ (.int .i64 r.length))
      rw [size_setCell] at this
      exact this, (Apart.at (X := XB b) _ b _ _ rfl).trans (Apart.of_below (below_new _ _))⟩⟩
  have Hok := Hid3.mk h.ok
  clear h hX
  go_enter Try.func15, Try.ntmps15
  go_wp2_with fail
  change Code.wp _ _ _ _ ((w.setCell ⟨b, 46, none⟩ (.int .i64 r.length)).alloc (.cells rg0.vs.toArray 26))
  clear c1 f1
  generalize (w.setCell ⟨b, 46, none⟩ (.int .i64 r.length)).alloc (.cells rg0.vs.toArray 26) = W1 at *
  have c1 : W1.cell? ⟨b, 46, none⟩ = some (.int .i64 r.length) := L1.out.c.cell 46
  obtain ⟨d0, d1, d2, d3, d4, d5, d6, d7, d8⟩ := C9.of L1.out.c (aCs_top q r t _ hq h4)
  have hlt1 : b < W1.heap.size := L1.out.c.lt
  have hlt0 : w.heap.size < W1.heap.size := L1.out.z.lt
  obtain ⟨pc, a0, a1, a2, a3, a4, a5, a6, a7⟩ := t
  have HX2 := Hid3.mk (below_new W1 (.cells (Rg.vs ⟨pc, a0, a1, a2, a3, a4, a5, a6, a7⟩).toArray 26)).drew
  have HB2 := Hid3.mk (Cl.new W1 26 (Rg.vs ⟨pc, a0, a1, a2, a3, a4, a5, a6, a7⟩)).drew
  generalize hn : r.length = n at *
  have Hq := Hid3.mk hq
  have Hn := Hid3.mk hn
  clear hq hn
  go_region
  change Exit.then _ _ _ _ (W1.alloc (.cells (Rg.vs ⟨pc, a0, a1, a2, a3, a4, a5, a6, a7⟩).toArray 26)).drew
  clear c1 d0 d1 d2 d3 d4 d5 d6 d7 d8
  have hBel : Below W1.heap.size W1 (W1.alloc (.cells (Rg.vs ⟨pc, a0, a1, a2, a3, a4, a5, a6, a7⟩).toArray 26)).drew := ⟨HX2.out.os, HX2.out.tape, HX2.out.output, HX2.out.size, HX2.out.block⟩
  have L2 : Hid3 (La B w (W1.alloc (.cells (Rg.vs ⟨pc, a0, a1, a2, a3, a4, a5, a6, a7⟩).toArray 26)).drew b q r ((aCs q).set 46 (.int .i64 n))) := ⟨⟨L1.out.g, hb1, L1.out.c.below hBel, L1.out.z.below hBel, L1.out.ap.trans (Apart.of_below hBel)⟩⟩
  clear hBel HX2
  generalize (W1.alloc (.cells (Rg.vs ⟨pc, a0, a1, a2, a3, a4, a5, a6, a7⟩).toArray 26)).drew = W2 at *
  generalize W1.heap.size = g at *
  clear L1
  have c1 : W2.cell? ⟨b, 46, none⟩ = some (.int .i64 n) := L2.out.c.cell 46
  have hs : Hid3 ((Instr.storeAt 26 (.pointer (some ⟨b, 10 + n * 9, none⟩)) (.agg rg0.vs.toArray)).run Try.prog W2.drew = .ok () (W2.drew.setRow b (aCs (lastQ r q)).toArray)) := ⟨by
    have := stores L2.out.c.drew 26 (10 + n * 9) 9 rg0.vs sizR rfl (vs_one rg0) (by rw [List.length_set]; show _ ≤ 57; omega)
    have e := Hn.out
    subst e
    rw [aCs_last q r _ Hq.out h4] at this
    exact this⟩
  have hG : Hid3 (w.heap.size < g) := ⟨hlt0⟩
  have LG : Hid3 (g ≠ b ∧ w.heap.size ≠ b) := ⟨by omega, by omega⟩
  change Exit.then _ _ _ _ W2
  go_wp2_with fail
  refine still_tail 9 (by kernel_rfl) (by kernel_rfl) ?_
  simp only [List.take_succ_cons, List.take_zero, List.drop_succ_cons, List.drop_zero]
  repeat still_step
  refine wpStill_nil ?_
  refine wpList_stores rfl 26 _ _ rfl _ (.agg rg0.vs.toArray) rfl rfl hs.out ?_
  have L3 : Hid3 (AStp B w (W2.drew.setRow b (aCs (lastQ r q)).toArray) b (lastQ r q)) := ⟨⟨⟨L2.out.g, L2.out.c.drew.row _, by
    have e := Hq.out
    refine ⟨by show r.length ≤ 4; have := Hn.out; omega, fun ea => ?_⟩
    have := (Hok.out.2 ea).2
    rw [e] at this
    cases r <;> cases this⟩, (L2.out.ap.drew).trans (Apart.row _ b _)⟩⟩
  have B3 : Hid3 (Cl (W2.drew.setRow b (aCs (lastQ r q)).toArray) g 26 (Rg.vs ⟨pc, a0, a1, a2, a3, a4, a5, a6, a7⟩)) := ⟨HB2.out.drew.stay (Apart.row _ b _) LG.out.1⟩
  have Z3 : Hid3 (Cl (W2.drew.setRow b (aCs (lastQ r q)).toArray) w.heap.size 26 rg0.vs) := ⟨L2.out.z.drew.stay (Apart.row _ b _) LG.out.2⟩
  clear c1 hs L2 HB2
  generalize W2.drew.setRow b (aCs (lastQ r q)).toArray = W3 at *
  have hl := load_box B3.out
  have hs := store_box Z3.out ⟨pc, a0, a1, a2, a3, a4, a5, a6, a7⟩
  have HZ : Hid3 (Cl (W3.setRow w.heap.size (Rg.vs ⟨pc, a0, a1, a2, a3, a4, a5, a6, a7⟩).toArray) w.heap.size 26 (Rg.vs ⟨pc, a0, a1, a2, a3, a4, a5, a6, a7⟩)) := ⟨Z3.out.row _⟩
  have HL : Hid3 (AStp B w (W3.setRow w.heap.size (Rg.vs ⟨pc, a0, a1, a2, a3, a4, a5, a6, a7⟩).toArray) b (lastQ r q)) := ⟨⟨L3.out.a.stay (Apart.row _ _ _) (fun e => by have := LG.out.2; exact this e.symm), ⟨L3.out.ap.os, L3.out.ap.tape, L3.out.ap.output, by rw [size_setRow]; exact L3.out.ap.size, fun k hk hx => (setRow_other _ _ _ _ (by omega)).trans (L3.out.ap.block k hk hx)⟩⟩⟩
  unfold Rg.V at *
  generalize (Rg.vs ⟨pc, a0, a1, a2, a3, a4, a5, a6, a7⟩).toArray = R at *
  go_wp2_with (first | (refine wpList_loads rfl 26 _ rfl _ (.agg R) rfl hl ?_) | (refine wpList_stores rfl 26 _ _ rfl _ (.agg R) rfl rfl hs ?_))
  exact bodyPost_ret (results_cellv Try.results15 _ _ ⟨w.heap.size, 0, none⟩ _ rfl (load_box HZ.out)) rfl ⟨rfl, HL.out⟩
end Go.Proofs.Ytgoofonogdhhoab
