/- Deeds on both: the law's play. -/
import Derived.Test.YtboelnkeejmjnaaRgW
namespace Go.Proofs.Ytboelnkeejmjnaa
open Go.RowKit Go.Maps
set_option linter.unusedVariables false
set_option maxRecDepth 100000
theorem wpList_loads {ops : Array Oper} {rest : List Oper} {o : Oper} {a : Act} {w : World} {Q : Exit → Act → World → Prop} (hgd : o.guard = none) (ty : TypeId) (x : Operand) (ho : o.op = .load ty x) (v u : Value) (hx : a.eval x = v) (hL : (Instr.loadAt ty v).run Try.prog w = .ok u w)
    (h : wpList Try.prog ops Q rest (a.put o.dst u) w) : wpList Try.prog ops Q (o :: rest) a w :=
  wpList_plain hgd fun K hK => by
    unfold Oper.wp execOp
    simp only [ho, hx, Sem.run_bind, hL, Result.andThen_ok, Sem.run_pure]
    exact hK _ _ h
/-- A slice of deeds that can be read. -/
def Dds (w : World) (v : Value) (l : List Dd) : Prop := ∃ a cap, v = .slice a l.length cap ∧ ∀ (j : Nat) (d : Dd), l[j]? = some d → ∃ g off, a = some ⟨g, off, none⟩ ∧ ∀ i x, d.vs[i]? = some x → w.cell? ⟨g, off + j * 5 + i, none⟩ = some x
theorem Dds.below {w w' : World} {v : Value} {l : List Dd} (h : Dds w v l) (k : Below w.heap.size w w') : Dds w' v l := by
  obtain ⟨a, cap, rfl, hcell⟩ := h
  refine ⟨a, cap, rfl, fun j d hj => ?_⟩
  obtain ⟨g, off, rfl, c0⟩ := hcell j d hj
  exact ⟨g, off, rfl, fun i x hi => (k.cell (World.block_lt_of_cell? w _ (c0 i x hi))).trans (c0 i x hi)⟩
theorem sizD : (Try.prog.info? 44).map (·.size) = some 5 := by kernel_rfl
theorem load_deed {w : World} {g o : Nat} {d : Dd} (h : ∀ i x, d.vs[i]? = some x → w.cell? ⟨g, o + i, none⟩ = some x) : (Instr.loadAt 44 (.pointer (some ⟨g, o, none⟩))).run Try.prog w = .ok (.agg d.vs.toArray) w := by
  have hl' := run_loadCells_list (P := Try.prog) w ⟨g, o, none⟩ d.vs (fun j v hj => by
    rw [Addr.add_mid]
    exact h j v hj)
  rw [show d.vs.length = 5 from rfl] at hl'
  have hi := sizD
  rw [Option.map_eq_some_iff] at hi
  obtain ⟨i, hi, hs⟩ := hi
  simp [Instr.loadAt, Instr.sureAddr, loadVar, sizeOf, typeInfo, hi, hs, hl']
set_option maxHeartbeats 4000000 in
theorem play_any (v : Value) (l : List Dd) (w : World) (hd : Dds w v l) (hok : ∀ d ∈ l, d.Ok) : Calls Try.prog 7 #[v] w fun e w' => ∃ b rc rf rb, e = .returned (.tuple #[.pointer (some ⟨b, 0, none⟩), .pointer (some ⟨rb, 0, none⟩), .bool true]) ∧ Two w.heap.size w' b rc rf rb (playQ (l.take 50) q0) ∧ Below w.heap.size w w' := by
  obtain ⟨ad, cap, rfl, hcell⟩ := id hd
  have HD : Hid (Dds w (.slice ad l.length cap) l) := hd
  have HK : Hid (∀ d ∈ l, d.Ok) := hok
  have cN := new_any w
  clear hd hcell hok
  go_enter Try.func7, Try.ntmps7
  go_wp2_with fail
  refine cN.mono ?_
  rintro r W1 ⟨rfl, hR1, hB1⟩
  have HR1 := Hid3.mk hR1
  have HB1 := Hid3.mk hB1
  have cM := rnew_any W1
  clear cN hR1 hB1
  generalize w.heap.size + 1 + 1 = b at *
  generalize w.heap.size + 1 = rf at *
  obtain ⟨rc, hrc⟩ : ∃ rc, rc = w.heap.size := ⟨_, rfl⟩
  have HR1 : Hid3 (RgS w.heap.size W1 b rc rf q0) := ⟨by rw [hrc]; exact HR1.out⟩
  clear hrc
  go_wp2_with fail
  refine cM.mono ?_
  rintro r W2 ⟨rfl, hR2, hB2⟩
  have HT : Hid3 (Two w.heap.size W2 b rc rf W1.heap.size q0) := ⟨⟨HR1.out.below hB2, ⟨HB1.out.size, hR2.r⟩, ok0⟩⟩
  have HB : Hid3 (Below w.heap.size w W2) := ⟨HB1.out.trans (hB2.mono HB1.out.size)⟩
  clear cM hR2 hB2 HR1 HB1
  generalize W1.heap.size = rb at *
  go_wp2_with fail
  go_loopw [7] (fun sx wr => ∃ (i : Nat), i ≤ l.length ∧ i ≤ 50 ∧ sx = .int .i64 i ∧ Hid (Two w.heap.size wr b rc rf rb (playQ (l.take i) q0)) ∧ Hid (Below w.heap.size w wr)) (fun sx _ => 50 - (intOf sx).toNat)
  case atStart => exact ⟨0, Nat.zero_le _, by omega, rfl, HT.out, HB.out⟩
  case round =>
    obtain ⟨i, hil, hi6, rfl, HT1, HB1⟩ := hrel
    by_cases hlt : i < l.length
    · have hltz : (i : Int) < (l.length : Int) := by omega
      by_cases h60 : i < 50
      · have h60z : (i : Int) < 50 := by omega
        have hsz := HB1.out.size
        obtain ⟨_, _, e0, hc⟩ := HD.out.below HB1.out
        injection e0 with e1 e2 e3
        obtain ⟨g, off, e4, c0⟩ := hc i l[i] (List.getElem?_eq_getElem hlt)
        rw [← e1] at e4
        subst e4
        have hcall := do_any w.heap.size b rc rf rb _ l[i] wr HT1.out (HK.out _ (List.getElem_mem hlt))
        have hld := load_deed c0
        have hpl : playQ (l.take (i + 1)) q0 = doQ l[i] (playQ (l.take i) q0) := by rw [List.take_succ_eq_append_getElem hlt, playQ_snoc]
        rw [← hpl] at hcall
        unfold Dd.V at hcall
        clear hc e1 e2 e3 hpl c0
        generalize l[i].vs.toArray = DV at *
        go_wp2_with (refine wpList_loads rfl 44 _ rfl _ (.agg DV) rfl hld ?_)
        refine hcall.mono ?_
        rintro e W2 ⟨rfl, hM⟩
        have HT2 : Hid (Two w.heap.size W2 b rc rf rb (playQ (l.take (i + 1)) q0)) := hM.two
        have HB2 : Hid (Below w.heap.size w W2) := HB1.out.trans (hM.below HT1.out hsz)
        clear hM hcall hld
        go_wp2
        go_roundw
        case rel => exact ⟨i + 1, by omega, by omega, by go_num, HT2.out, HB2.out⟩
        case measure => simp [intOf]; omega
      · have h60z : ¬ (i : Int) < 50 := by omega
        have hi : i = 50 := by omega
        subst hi
        go_wp2
        go_ret3
        exact ⟨_, rc, rf, _, rfl, HT1.out, HB1.out⟩
    · have hltz : ¬ (i : Int) < (l.length : Int) := by omega
      have HTk : Hid (l.take 50 = l.take i) := by
        show _ = _
        rw [List.take_of_length_le (by omega), List.take_of_length_le (by omega)]
      go_wp2
      go_ret3
      refine ⟨b, rc, rf, rb, rfl, ?_, HB1.out⟩
      rw [HTk.out]
      exact HT1.out
end Go.Proofs.Ytboelnkeejmjnaa
