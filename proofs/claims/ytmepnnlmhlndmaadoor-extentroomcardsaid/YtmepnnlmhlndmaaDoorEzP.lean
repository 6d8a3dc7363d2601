/- Deeds on both; do both tell the same? -/
import Derived.Test.YtmepnnlmhlndmaaDoorEzN
namespace Go.Proofs.YtmepnnlmhlndmaaDoor
open Go.RowKit Go.Maps
set_option linter.unusedVariables false
set_option maxRecDepth 100000
def Dds (w : World) (v : Value) (l : List Dd) : Prop := ∃ a cap, v = .slice a l.length cap ∧ ∀ (j : Nat) (d : Dd), l[j]? = some d → ∃ g off, a = some ⟨g, off, none⟩ ∧ ∀ i x, d.vs[i]? = some x → w.cell? ⟨g, off + j * 9 + i, none⟩ = some x
theorem Dds.below {w w' : World} {v : Value} {l : List Dd} (h : Dds w v l) (k : Below w.heap.size w w') : Dds w' v l := by
  obtain ⟨a, cap, rfl, hcell⟩ := h
  refine ⟨a, cap, rfl, fun j d hj => ?_⟩
  obtain ⟨g, off, rfl, c0⟩ := hcell j d hj
  exact ⟨g, off, rfl, fun i x hi => (k.cell (World.block_lt_of_cell? w _ (c0 i x hi))).trans (c0 i x hi)⟩
theorem wpList_loads {ops : Array Oper} {rest : List Oper} {o : Oper} {a : Act} {w : World} {Q : Exit → Act → World → Prop} (hgd : o.guard = none) (ty : TypeId) (x : Operand) (ho : o.op = .load ty x) (v u : Value) (hx : a.eval x = v) (hL : (Instr.loadAt ty v).run Tryd.prog w = .ok u w)
    (h : wpList Tryd.prog ops Q rest (a.put o.dst u) w) : wpList Tryd.prog ops Q (o :: rest) a w :=
  wpList_plain hgd fun K hK => by
    unfold Oper.wp execOp
    simp only [ho, hx, Sem.run_bind, hL, Result.andThen_ok, Sem.run_pure]
    exact hK _ _ h
theorem sizD : (Tryd.prog.info? 58).map (·.size) = some 9 := by kernel_rfl
theorem load_deed {w : World} {g o : Nat} {d : Dd} (h : ∀ i x, d.vs[i]? = some x → w.cell? ⟨g, o + i, none⟩ = some x) : (Instr.loadAt 58 (.pointer (some ⟨g, o, none⟩))).run Tryd.prog w = .ok (.agg d.vs.toArray) w := by
  have hl' := run_loadCells_list (P := Tryd.prog) w ⟨g, o, none⟩ d.vs (fun j v hj => by
    rw [Addr.add_mid]
    exact h j v hj)
  rw [show d.vs.length = 9 from rfl] at hl'
  have hi := sizD
  rw [Option.map_eq_some_iff] at hi
  obtain ⟨i, hi, hs⟩ := hi
  simp [Instr.loadAt, Instr.sureAddr, loadVar, sizeOf, typeInfo, hi, hs, hl']
/-- Both, above a world, behind so many deeds. -/
structure Pl (w W : World) (T b : Nat) (L : Lo) (s : Xt) (k : Nat) : Prop where
  t : L.t = T
  m : Mx w.heap.size W L b s s
  bl : Below w.heap.size w W
  la : s.last ≤ k
  n : s.N = 20
theorem Pl.low {w W W' : World} {T b : Nat} {L : Lo} {s : Xt} {k : Nat} (h : Pl w W T b L s k) (q : Below W.heap.size W W') : Pl w W' T b L s k := ⟨h.t, h.m.low q, h.bl.trans (q.mono h.bl.size), h.la, h.n⟩
theorem Pl.step {w W W' : World} {T b : Nat} {L : Lo} {s s' : Xt} {k : Nat} (h : Pl w W T b L s k) (q : Mv w.heap.size W W' L b s' s') (n : Nx s s') : ∃ L', Pl w W' T b L' s' (k + 1) := by
  obtain ⟨L', e, hM, _⟩ := q.out
  exact ⟨L', e.trans h.t, hM, h.bl.trans (q.low h.m), by have := n.la; have := h.la; omega, n.N.trans h.n⟩
set_option maxHeartbeats 4000000 in
theorem play_any (v : Value) (l : List Dd) (w : World) (hd : Dds w v l) (hn : NTabs w) : Calls Tryd.prog 9 #[v] w fun e w' => ∃ T b L s, e = .returned (.tuple #[.pointer (some ⟨T, 0, none⟩), .pointer (some ⟨b, 0, none⟩), .bool true]) ∧ Pl w w' T b L s 40 := by
  obtain ⟨ad, cap, rfl, hcell⟩ := id hd
  have HD := Hid3.mk hd
  have HN := Hid3.mk hn
  have cN := new_ok 20 w (by decide) (by decide)
  clear hd hcell hn
  go_enter Tryd.func9, Tryd.ntmps9
  go_wp2_with fail
  refine cN.mono ?_
  rintro r W1 ⟨rfl, hR1, hB1⟩
  have HR1 := Hid3.mk (And.intro hR1 hB1)
  have cM := rnew_ok 20 W1 (by decide) (by decide)
  clear cN hR1 hB1
  obtain ⟨T, hT⟩ : ∃ T, w.heap.size + 1 = T := ⟨_, rfl⟩
  have HTE := Hid3.mk hT
  go_wp2_with fail
  refine cM.mono ?_
  rintro r W2 ⟨rfl, hR2, hB2⟩
  have HT : Hid3 (∃ L s, Pl w W2 T W1.heap.size L s 0) := ⟨⟨_, _, hT, ⟨HR1.out.1.below hB2, ⟨Nat.le_trans HR1.out.2.size hR2.g, hR2.ex, hR2.ok⟩, (Nt.new HN.out).to (HR1.out.2.trans (hB2.mono HR1.out.2.size))⟩, HR1.out.2.trans (hB2.mono HR1.out.2.size), Nat.le_refl _, rfl⟩⟩
  clear cM hR2 hB2 HR1
  generalize W1.heap.size = b at *
  go_wp2_with fail
  clear hT
  go_loopw [7] (fun sx wr => ∃ (i : Nat), i ≤ l.length ∧ i ≤ 40 ∧ sx = .int .i64 i ∧ Hid3 (∃ L s, Pl w wr T b L s i)) (fun sx _ => 40 - (intOf sx).toNat)
  case atStart => exact ⟨0, Nat.zero_le _, by omega, rfl, HT⟩
  case round =>
    obtain ⟨i, hil, hi6, rfl, HT1⟩ := hrel
    clear HT
    obtain ⟨L, s, hP⟩ := HT1.out
    have HT := Hid3.mk hP
    clear HT1 hP
    by_cases hgo : i < l.length ∧ i < 40
    · obtain ⟨hlt, h60⟩ := hgo
      have hltz : (i : Int) < (l.length : Int) := by omega
      have h60z : (i : Int) < 40 := by omega
      obtain ⟨_, _, e0, hc⟩ := HD.out.below HT.out.bl
      injection e0 with e1 e2 e3
      obtain ⟨g, off, e4, c0⟩ := hc i l[i] (List.getElem?_eq_getElem hlt)
      rw [← e1] at e4
      subst e4
      have hcall := do_any w.heap.size b L s l[i] wr HT.out.m (by have := HT.out.la; omega)
      rw [HT.out.t] at hcall
      have hld := load_deed c0
      unfold Dd.V at hcall
      clear hc e1 e2 e3 c0
      generalize l[i].vs.toArray = DV at *
      go_wp2_with (refine wpList_loads rfl 58 _ rfl _ (.agg DV) rfl hld ?_)
      refine hcall.mono ?_
      rintro e W2 ⟨rfl, s', hM, hN⟩
      have HT2 : Hid3 (∃ L s, Pl w W2 T b L s (i + 1)) := ⟨by obtain ⟨L', h⟩ := HT.out.step hM hN; exact ⟨L', s', h⟩⟩
      clear hM hN hcall hld HT
      go_wp2
      go_roundw
      case rel => exact ⟨i + 1, by omega, by omega, by go_num, HT2⟩
      case measure => simp [intOf]; omega
    · have hend : ¬ ((i : Int) < (l.length : Int)) ∨ ((i : Int) < (l.length : Int) ∧ ¬ (i : Int) < 40) := by omega
      rcases hend with hz | ⟨hz, hz4⟩
      all_goals
        go_wp2
        go_ret3
        exact ⟨_, _, rfl, L, s, HT.out.t, HT.out.m, HT.out.bl, Nat.le_trans HT.out.la hi6, HT.out.n⟩
/-- Both tell the same from here on. -/
structure Sm (B : Nat) (w W : World) (T b : Nat) (L : Lo) (s : Xt) : Prop where
  t : L.t = T
  m : Mx B W L b s s
  bl : Below w.heap.size w W
theorem Sm.low {B : Nat} {w W W' : World} {T b : Nat} {L : Lo} {s : Xt} (h : Sm B w W T b L s) (k : Below W.heap.size W W') : Sm B w W' T b L s := ⟨h.t, h.m.low k, h.bl.trans (k.mono h.bl.size)⟩
theorem room_same {s : Xt} {many r c r' c' : Int} (h : many < 1 ∧ r = 0 ∧ c = 2 ∨ 1 ≤ many ∧ RoomX s many r c) (h' : many < 1 ∧ r' = 0 ∧ c' = 2 ∨ 1 ≤ many ∧ RoomX s many r' c') : r = r' ∧ c = c' := by
  rcases h with ⟨h1, rfl, rfl⟩ | ⟨h1, h2⟩ <;> rcases h' with ⟨k1, rfl, rfl⟩ | ⟨k1, k2⟩
  · exact ⟨rfl, rfl⟩
  · omega
  · omega
  · exact h2.uniq k2
set_option maxHeartbeats 8000000 in
theorem same_both (B T b : Nat) (L : Lo) (s : Xt) (w : World) (h : Mx B w L b s s) (hT : L.t = T) : Calls Tryd.prog 11 #[.pointer (some ⟨T, 0, none⟩), .pointer (some ⟨b, 0, none⟩)] w fun r w' => r = .returned (.bool true) ∧ Below w.heap.size w w' := by
  have H0 : Hid3 (Sm B w w T b L s) := ⟨⟨hT, h, Below.refl _ _⟩⟩
  have eG := eqGuardE
  clear h hT
  go_enter Tryd.func11, Tryd.ntmps11
  go_wp2
  go_loopw [5] (fun i W => ∃ k : Nat, i = .int .i64 ((k : Int) - 1) ∧ k ≤ 22 ∧ Hid3 (Sm B w W T b L s)) (fun i _ => 22 - (intOf i + 1).toNat)
  case atStart => exact ⟨0, rfl, Nat.zero_le _, H0⟩
  case round =>
    obtain ⟨k, rfl, hk, HS⟩ := hrel
    clear H0
    obtain ⟨pk, hpk⟩ : ∃ pk : Int, pk = (k : Int) - 1 := ⟨_, rfl⟩
    have HPK := Hid3.mk hpk
    by_cases hk8 : k < 22
    · have hkz : pk ≤ 20 := by omega
      have hwk : IntKind.i64.wrap (pk + 1) = (k : Int) := by rw [IntKind.wrap_i64]; omega
      obtain ⟨x, hx⟩ : ∃ x, (fstO (s.l.find? (hasS pk))).1 = x := ⟨_, rfl⟩
      obtain ⟨o, ho⟩ : ∃ o, (fstO (s.l.find? (hasS pk))).2 = o := ⟨_, rfl⟩
      have c1 := p_at HS.out.m.t pk
      rw [hx, ho, HS.out.t] at c1
      have HX := Hid3.mk hx
      have HO := Hid3.mk ho
      rw [← hpk]
      clear hpk hx ho
      unfold exV at c1
      go_wp2_with fail
      refine c1.mono ?_
      rintro e W1 ⟨rfl, hB1⟩
      have HA := Hid3.mk (Cl.new W1 36 (exCs x))
      have HS1 := Hid3.mk (HS.out.low hB1)
      have hB2 := below_new W1 (.cells (exCs x).toArray 36)
      have HS2 := Hid3.mk (HS1.out.low hB2)
      obtain ⟨a2, cap2, hc2⟩ := HS2.out.m.r.c
      have c2 := rat_any b s a2 cap2 pk _ hc2
      rw [HX.out, HO.out] at c2
      unfold exV at c2
      rw [exs_agg] at HA HS2 c2
      clear c1 hB1 hB2 hc2
      go_wp2_with fail
      refine c2.mono ?_
      rintro e W2 ⟨rfl, hB2⟩
      have HA2 := Hid3.mk (HA.out.below hB2)
      have HS3 := Hid3.mk (HS2.out.low hB2)
      generalize W1.heap.size = qa at *
      have hB3 := below_new W2 (.cells (exCs x).toArray 36)
      have hC := Cl.new W2 36 (exCs x)
      rw [exs_agg] at hB3 hC
      have HA3 := Hid3.mk (HA2.out.below hB3)
      have HC := Hid3.mk hC
      have HS4 := Hid3.mk (HS3.out.low hB3)
      have c3 := p_room HS4.out.m.t pk
      rw [HS4.out.t] at c3
      clear c2 hB2 hB3 hC HA HA2 HS1 HS2 HS3
      go_wp2_with fail
      refine c3.mono ?_
      rintro e W3 ⟨r, c, rfl, hr, hB⟩
      have HR := Hid3.mk hr
      have HA4 := Hid3.mk (HA3.out.below hB)
      have HC4 := Hid3.mk (HC.out.below hB)
      have HS5 := Hid3.mk (HS4.out.low hB)
      generalize W2.heap.size = qc at *
      have c4 := rroom_any B b s pk W3 HS5.out.m.r
      clear c3 hr hB HA3 HC HS4
      go_wp2_with fail
      refine c4.mono ?_
      rintro e W4 ⟨r', c', rfl, hr', hB⟩
      obtain ⟨er, ec⟩ := room_same HR.out hr'
      subst er
      subst ec
      have hA5 := HA4.out.below hB
      have hC5 := HC4.out.below hB
      have HS6 := Hid3.mk (HS5.out.low hB)
      have x0 := hA5.cell 0
      have x1 := hA5.cell 1
      have x2 := hA5.cell 2
      have x3 := hA5.cell 3
      have x4 := hA5.cell 4
      have x5 := hA5.cell 5
      have y0 := hC5.cell 0
      have y1 := hC5.cell 1
      have y2 := hC5.cell 2
      have y3 := hC5.cell 3
      have y4 := hC5.cell 4
      have y5 := hC5.cell 5
      simp only [List.getElem?_cons_zero, List.getElem?_cons_succ, exCs] at x0 x1 x2 x3 x4 x5 y0 y1 y2 y3 y4 y5
      have hal := hA5.lt
      have hcl := hC5.lt
      have eM := fun W => eqE W x.id x.st x.ln x.ow x.nm x.rt.toNat
      have z1 : (o != o) = false := by simp
      have z2 : (r != r) = false := by simp
      have z3 : (c != c) = false := by simp
      clear c4 hr' hB HA4 HC4 HS5 hA5 hC5 HR
      go_wp2
      go_roundw
      case rel => exact ⟨k + 1, by show _ = _; congr 1; omega, by omega, HS6⟩
      case measure => simp [intOf]; have := HPK.out; omega
    · have hkz : ¬ pk ≤ 20 := by omega
      rw [← hpk]
      clear hpk
      go_wp2
      go_loopw [14] (fun i W => ∃ k : Nat, i = .int .u8 k ∧ k ≤ 7 ∧ Hid3 (Sm B w W T b L s)) (fun i _ => 7 - (intOf i).toNat)
      case atStart => exact ⟨0, rfl, Nat.zero_le _, HS⟩
      case round =>
        obtain ⟨q, rfl, hq, HQ⟩ := hrel
        clear HS
        by_cases hq7 : q < 7
        · have hqz : (q : Int) ≤ 6 := by omega
          have hwq : IntKind.u8.wrap ((q : Int) + 1) = ((q + 1 : Nat) : Int) := by rw [IntKind.wrap_u8]; omega
          have c1 := p_owned HQ.out.m.t q
          rw [HQ.out.t] at c1
          have hol : (ownL q s.l).length ≤ 1000 := by have := ownL_len q s.l; have := HQ.out.m.t.ok.len; omega
          have HOL := Hid3.mk hol
          clear hol
          go_wp2_with fail
          refine c1.mono ?_
          rintro e W1 ⟨v1, rfl, h1, hB⟩
          have HU := Hid3.mk (UR.of_own h1)
          have HQ1 := Hid3.mk (HQ.out.low hB)
          have c2 := rowned_any B b s q W1 HQ1.out.m.r
          clear c1 h1 hB
          go_wp2_with fail
          refine c2.mono ?_
          rintro e W2 ⟨v2, rfl, h2, hB⟩
          have HQ2 := Hid3.mk (HQ1.out.low hB)
          have c3 := sameids_any v1 v2 _ W2 (HU.out.low hB) (UR.of_own h2) HOL.out
          clear c2 h2 hB
          go_wp2_with fail
          refine c3.mono ?_
          rintro e W3 ⟨rfl, hB⟩
          have HQ3 := Hid3.mk (HQ2.out.low hB)
          clear c3 hB
          go_wp2
          go_roundw
          case rel => exact ⟨q + 1, by go_num, by omega, HQ3⟩
          case measure => simp [intOf]; omega
        · have hqz : ¬ (q : Int) ≤ 6 := by omega
          have c1 := p_list HQ.out.m.t
          rw [HQ.out.t] at c1
          have HLE : Hid3 (s.l.length ≤ 1000) := ⟨by have := HQ.out.m.t.ok.len; omega⟩
          go_wp2_with fail
          refine c1.mono ?_
          rintro e W1 ⟨v1, rfl, h1, hB⟩
          have HU := Hid3.mk (XR.of_own h1)
          have HQ1 := Hid3.mk (HQ.out.low hB)
          have c2 := rlist_any b s B W1 HQ1.out.m.r
          clear c1 h1 hB
          go_wp2_with fail
          refine c2.mono ?_
          rintro e W2 ⟨v2, rfl, h2, hB⟩
          have HQ2 := Hid3.mk (HQ1.out.low hB)
          have c3 := same_any v1 v2 _ W2 (HU.out.low hB) (XR.of_own h2) HLE.out
          clear c2 h2 hB
          go_wp2_with fail
          refine c3.mono ?_
          rintro e W3 ⟨rfl, hB⟩
          have HQ3 := Hid3.mk (HQ2.out.low hB)
          have c4 := p_left HQ3.out.m.t
          rw [HQ3.out.t] at c4
          obtain ⟨lf, hlf⟩ : ∃ lf : Int, (s.N : Int) - (lnS s.l : Int) = lf := ⟨_, rfl⟩
          have HLF := Hid3.mk hlf
          rw [hlf] at c4
          clear c3 hB hlf
          go_wp2_with fail
          refine c4.mono ?_
          rintro e W4 ⟨rfl, hB⟩
          have HQ4 := Hid3.mk (HQ3.out.low hB)
          have c5 := rleft_any B b s W4 HQ4.out.m.r
          rw [HLF.out] at c5
          have zz : (lf == lf) = true := by simp
          clear c4 hB
          go_wp2_with fail
          refine c5.mono ?_
          rintro e W5 ⟨rfl, hW5⟩
          rw [hW5]
          clear c5 hW5
          go_wp2
          go_ret
          exact ⟨rfl, HQ4.out.bl⟩
end Go.Proofs.YtmepnnlmhlndmaaDoor
