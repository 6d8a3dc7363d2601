/- Deeds on both: the law's play. -/
import Derived.Test.YtpmndhbcohjboaaRvX
namespace Go.Proofs.Ytpmndhbcohjboaa
open Go.RowKit Go.Maps
set_option linter.unusedVariables false
set_option maxRecDepth 100000
theorem wpList_loads {ops : Array Oper} {rest : List Oper} {o : Oper} {a : Act} {w : World} {Q : Exit → Act → World → Prop} (hgd : o.guard = none) (ty : TypeId) (x : Operand) (ho : o.op = .load ty x) (v u : Value) (hx : a.eval x = v) (hL : (Instr.loadAt ty v).run Try.prog w = .ok u w)
    (h : wpList Try.prog ops Q rest (a.put o.dst u) w) : wpList Try.prog ops Q (o :: rest) a w :=
  wpList_plain hgd fun K hK => by
    unfold Oper.wp execOp
    simp only [ho, hx, Sem.run_bind, hL, Result.andThen_ok, Sem.run_pure]
    exact hK _ _ h
/-- A slice of deeds that can be read. -/
def Dds (w : World) (v : Value) (l : List Dd) : Prop := ∃ a cap, v = .slice a l.length cap ∧ ∀ (j : Nat) (d : Dd), l[j]? = some d → ∃ g off, a = some ⟨g, off, none⟩ ∧ ∀ i x, d.vs[i]? = some x → w.cell? ⟨g, off + j * 5 + i, none⟩ = some x
theorem Dds.below {w w' : World} {v : Value} {l : List Dd} (h : Dds w v l) (k : Below w.heap.size w w') : Dds w' v l := by
  obtain ⟨a, cap, rfl, hcell⟩ := h
  refine ⟨a, cap, rfl, fun j d hj => ?_⟩
  obtain ⟨g, off, rfl, c0⟩ := hcell j d hj
  exact ⟨g, off, rfl, fun i x hi => (k.cell (World.block_lt_of_cell? w _ (c0 i x hi))).trans (c0 i x hi)⟩
theorem sizD : (Try.prog.info? 31).map (·.size) = some 5 := by kernel_rfl
theorem load_deed {w : World} {g o : Nat} {d : Dd} (h : ∀ i x, d.vs[i]? = some x → w.cell? ⟨g, o + i, none⟩ = some x) : (Instr.loadAt 31 (.pointer (some ⟨g, o, none⟩))).run Try.prog w = .ok (.agg d.vs.toArray) w := by
  have hl' := run_loadCells_list (P := Try.prog) w ⟨g, o, none⟩ d.vs (fun j v hj => by
    rw [Addr.add_mid]
    exact h j v hj)
  rw [show d.vs.length = 5 from rfl] at hl'
  have hi := sizD
  rw [Option.map_eq_some_iff] at hi
  obtain ⟨i, hi, hs⟩ := hi
  simp [Instr.loadAt, Instr.sureAddr, loadVar, sizeOf, typeInfo, hi, hs, hl']
def playQ : List Dd → Rs → Rs
  | [], q => q
  | d :: l, q => playQ l (doQ d q)
theorem playQ_snoc : ∀ (l : List Dd) (d : Dd) (q : Rs), playQ (l ++ [d]) q = doQ d (playQ l q)
  | [], d, q => rfl
  | x :: l, d, q => playQ_snoc l d (doQ x q)
theorem playQ_ok : ∀ (l : List Dd) (q : Rs) (N : Nat), (∀ d ∈ l, d.Ok) → q.Ok N → (playQ l q).Ok (N + l.length)
  | [], q, N, _, h => h
  | d :: l, q, N, hl, h => by
    have := playQ_ok l (doQ d q) (N + 1) (fun x hx => hl x (List.mem_cons_of_mem _ hx)) (do_ok (hl d List.mem_cons_self) h)
    rw [List.length_cons]
    have e : N + (l.length + 1) = N + 1 + l.length := by omega
    rw [e]
    exact this
theorem Rs.Ok.wide {q : Rs} {N M : Nat} (h : q.Ok N) (k : N ≤ M) : q.Ok M := ⟨h.few, h.keys, h.rng, fun e => Nat.le_trans (h.vec e) k⟩
set_option maxHeartbeats 4000000 in
theorem play_any (v : Value) (l : List Dd) (w : World) (hd : Dds w v l) (hok : ∀ d ∈ l, d.Ok) : Calls Try.prog 9 #[v] w fun e w' => ∃ b m rb, e = .returned (.tuple #[.pointer (some ⟨b, 0, none⟩), .pointer (some ⟨rb, 0, none⟩), .bool true]) ∧ Mv w.heap.size w.heap.size w w' b m rb (playQ (l.take 50) q0) ∧ (playQ (l.take 50) q0).Ok 50 := by
  obtain ⟨ad, cap, rfl, hcell⟩ := id hd
  have HD := Hid3.mk hd
  have HK : Hid3 (∀ d ∈ l, d.Ok) := ⟨hok⟩
  have HO : Hid3 (∀ i, i ≤ 50 → (playQ (l.take i) q0).Ok 50) := ⟨fun i hi => (playQ_ok (l.take i) q0 0 (fun d hd => hok d (List.mem_of_mem_take hd)) (q0_ok 0)).wide (by rw [List.length_take]; omega)⟩
  have cN := new_any w
  clear hd hcell hok
  go_enter Try.func9, Try.ntmps9
  go_wp2_with fail
  refine cN.mono ?_
  rintro r W1 ⟨rfl, hR1, hB1⟩
  have HR1 := Hid3.mk hR1
  have HB1 := Hid3.mk hB1
  have cM := rnew_any W1
  have hW1 := hB1.size
  clear cN hR1 hB1
  obtain ⟨m, hm⟩ : ∃ m, m = w.heap.size := ⟨_, rfl⟩
  have HR1 : Hid3 (Bk w.heap.size W1 (w.heap.size + 1) m (.slice none 0 0) (fun _ => .slice none 0 0) q0) := ⟨by rw [hm]; exact HR1.out⟩
  clear hm
  generalize w.heap.size + 1 = b at *
  go_wp2_with fail
  refine cM.mono ?_
  rintro r W2 ⟨rfl, hR2, hB2⟩
  have HT : Hid3 (Mv w.heap.size w.heap.size w W2 b m W1.heap.size q0) := ⟨⟨⟨_, _, _, _, ⟨HR1.out.below hB2, ⟨hW1, hR2.k, RowO.nil _ _ _ _, fun _ => RowO.nil _ _ _ _⟩, hW1, Nat.le_refl _, fun k e f => by
    have e1 := (HR1.out.lt k e).2
    rcases f with f | f | ⟨_, f⟩
    · omega
    · cases f
    · cases f⟩⟩, HB1.out.trans (hB2.mono HB1.out.size)⟩⟩
  clear cM hR2 hB2 HR1 HB1 hW1
  generalize W1.heap.size = rb at *
  go_wp2_with fail
  go_loopw [7] (fun sx wr => ∃ (i : Nat), i ≤ l.length ∧ i ≤ 50 ∧ sx = .int .i64 i ∧ Hid3 (Mv w.heap.size w.heap.size w wr b m rb (playQ (l.take i) q0))) (fun sx _ => 50 - (intOf sx).toNat)
  case atStart => exact ⟨0, Nat.zero_le _, by omega, rfl, HT⟩
  case round =>
    obtain ⟨i, hil, hi6, rfl, HT1⟩ := hrel
    clear HT
    by_cases hlt : i < l.length
    · have hltz : (i : Int) < (l.length : Int) := by omega
      by_cases h60 : i < 50
      · have h60z : (i : Int) < 50 := by omega
        obtain ⟨_, _, e0, hc⟩ := HD.out.below HT1.out.below
        injection e0 with e1 e2 e3
        obtain ⟨g, off, e4, c0⟩ := hc i l[i] (List.getElem?_eq_getElem hlt)
        rw [← e1] at e4
        subst e4
        obtain ⟨av, lv, vs, ls, ht⟩ := HT1.out.two
        have hcall := do_any w.heap.size w.heap.size b m rb av lv vs ls _ 50 l[i] wr ht (HO.out i hi6) (by omega) (HK.out _ (List.getElem_mem hlt))
        have hld := load_deed c0
        have hpl : playQ (l.take (i + 1)) q0 = doQ l[i] (playQ (l.take i) q0) := by rw [List.take_succ_eq_append_getElem hlt, playQ_snoc]
        rw [← hpl] at hcall
        unfold Dd.V at hcall
        clear hc e1 e2 e3 hpl c0 ht
        generalize l[i].vs.toArray = DV at *
        go_wp2_with (refine wpList_loads rfl 31 _ rfl _ (.agg DV) rfl hld ?_)
        refine hcall.mono ?_
        rintro e W2 ⟨rfl, hM⟩
        have HT2 : Hid3 (Mv w.heap.size w.heap.size w W2 b m rb (playQ (l.take (i + 1)) q0)) := ⟨⟨hM.two, HT1.out.below.trans hM.below⟩⟩
        clear hM hcall hld HT1
        go_wp2
        go_roundw
        case rel => exact ⟨i + 1, by omega, by omega, by go_num, HT2⟩
        case measure => simp [intOf]; omega
      · have h60z : ¬ (i : Int) < 50 := by omega
        have hi : i = 50 := by omega
        subst hi
        have HO2 := Hid3.mk (HO.out 50 (Nat.le_refl _))
        go_wp2
        go_ret3
        exact ⟨_, m, _, rfl, HT1.out, HO2.out⟩
    · have hltz : ¬ (i : Int) < (l.length : Int) := by omega
      have HTk : Hid3 (l.take 50 = l.take i) := ⟨by rw [List.take_of_length_le (by omega), List.take_of_length_le (by omega)]⟩
      have HO2 := Hid3.mk (HO.out 50 (Nat.le_refl _))
      go_wp2
      go_ret3
      refine ⟨b, m, rb, rfl, ?_, HO2.out⟩
      rw [HTk.out]
      exact HT1.out
end Go.Proofs.Ytpmndhbcohjboaa
