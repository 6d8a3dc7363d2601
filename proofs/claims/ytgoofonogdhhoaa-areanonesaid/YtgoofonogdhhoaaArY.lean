/- Deeds on both; whether both tell the same. -/
import Derived.Test.YtgoofonogdhhoaaArW
namespace Go.Proofs.Ytgoofonogdhhoaa
open Go.RowKit Go.Maps
set_option linter.unusedVariables false
set_option maxRecDepth 100000
theorem new_ex (s : Rg) (w : World) (B : Nat) (hB : B ≤ w.heap.size) : Calls Try.prog 25 #[s.V] w fun r w' => ∃ b, r = .returned (.pointer (some ⟨b, 0, none⟩)) ∧ Ac B w' b (ar0 s) ∧ Below w.heap.size w w' :=
  (new_any s w).mono (fun r w' ⟨h1, h2, h3⟩ => ⟨_, h1, ⟨by omega, h2.c, h2.ok⟩, h3⟩)
theorem rnew_ex (s : Rg) (w : World) (B : Nat) (hB : B ≤ w.heap.size) : Calls Try.prog 26 #[s.V] w fun r w' => ∃ b, r = .returned (.pointer (some ⟨b, 0, none⟩)) ∧ Rr B w' b (ar0 s) ∧ Below w.heap.size w w' :=
  (rnew_any s w).mono (fun r w' ⟨h1, h2, h3⟩ => ⟨_, h1, ⟨by omega, h2.c.elim fun v hv => ⟨v, hv.1, own_le hv.2 (by omega)⟩, h2.ok⟩, h3⟩)
abbrev SN (b : Nat) (s0 s1 s2 s3 s4 s5 s6 s7 s8 : Int) (W : World) : Prop := W.cell? ⟨b, 0, none⟩ = some (.int .u16 s0) ∧ W.cell? ⟨b, 1, none⟩ = some (.int .u16 s1) ∧ W.cell? ⟨b, 2, none⟩ = some (.int .u16 s2) ∧ W.cell? ⟨b, 3, none⟩ = some (.int .u16 s3) ∧ W.cell? ⟨b, 4, none⟩ = some (.int .u16 s4) ∧ W.cell? ⟨b, 5, none⟩ = some (.int .u16 s5) ∧ W.cell? ⟨b, 6, none⟩ = some (.int .u16 s6) ∧ W.cell? ⟨b, 7, none⟩ = some (.int .u16 s7) ∧ W.cell? ⟨b, 8, none⟩ = some (.int .u16 s8)
theorem SN.below {b : Nat} {s0 s1 s2 s3 s4 s5 s6 s7 s8 : Int} {W W' : World} (h : SN b s0 s1 s2 s3 s4 s5 s6 s7 s8 W) (k : Below W.heap.size W W') : SN b s0 s1 s2 s3 s4 s5 s6 s7 s8 W' := by
  have hb := k.block b (World.block_lt_of_cell? W _ h.1)
  obtain ⟨h0, h1, h2, h3, h4, h5, h6, h7, h8⟩ := h
  refine ⟨?_, ?_, ?_, ?_, ?_, ?_, ?_, ?_, ?_⟩ <;> (rw [World.cell?_of_block (w := W) hb]; assumption)
/-- A slice of deeds that can be read. -/
def Dds (w : World) (v : Value) (l : List Dd) : Prop := ∃ a cap, v = .slice a l.length cap ∧ ∀ (j : Nat) (d : Dd), l[j]? = some d → ∃ g off, a = some ⟨g, off, none⟩ ∧ ∀ i x, d.vs[i]? = some x → w.cell? ⟨g, off + j * 12 + i, none⟩ = some x
theorem Dds.below {w w' : World} {v : Value} {l : List Dd} (h : Dds w v l) (k : Below w.heap.size w w') : Dds w' v l := by
  obtain ⟨a, cap, rfl, hcell⟩ := h
  refine ⟨a, cap, rfl, fun j d hj => ?_⟩
  obtain ⟨g, off, rfl, c0⟩ := hcell j d hj
  exact ⟨g, off, rfl, fun i x hi => (k.cell (World.block_lt_of_cell? w _ (c0 i x hi))).trans (c0 i x hi)⟩
theorem sizD : (Try.prog.info? 37).map (·.size) = some 12 := by kernel_rfl
theorem load_deed {w : World} {g o : Nat} {d : Dd} (h : ∀ i x, d.vs[i]? = some x → w.cell? ⟨g, o + i, none⟩ = some x) : (Instr.loadAt 37 (.pointer (some ⟨g, o, none⟩))).run Try.prog w = .ok (.agg d.vs.toArray) w := by
  have hl' := run_loadCells_list (P := Try.prog) w ⟨g, o, none⟩ d.vs (fun j v hj => by
    rw [Addr.add_mid]
    exact h j v hj)
  rw [show d.vs.length = 12 from rfl] at hl'
  have hi := sizD
  rw [Option.map_eq_some_iff] at hi
  obtain ⟨i, hi, hs⟩ := hi
  simp [Instr.loadAt, Instr.sureAddr, loadVar, sizeOf, typeInfo, hi, hs, hl']
theorem Two.base {B B' : Nat} {w : World} {ab rb : Nat} {q : Ar} (h : Two B' w ab rb q) (hB : B ≤ B') : Two B w ab rb q :=
  ⟨⟨Nat.le_trans hB h.t.g, h.t.c, h.t.ok⟩, ⟨Nat.le_trans hB h.r.g, h.r.c.elim fun v hv => ⟨v, hv.1, own_le hv.2 hB⟩, h.r.ok⟩⟩
set_option maxHeartbeats 4000000 in
theorem play_any (s : Rg) (v : Value) (l : List Dd) (w : World) (hd : Dds w v l) (hok : ∀ d ∈ l, d.Ok) : Calls Try.prog 9 #[s.V, v] w fun e w' => ∃ ab rb, e = .returned (.tuple #[.pointer (some ⟨ab, 0, none⟩), .pointer (some ⟨rb, 0, none⟩), .bool true]) ∧ Two w.heap.size w' ab rb (playQ (l.take 40) (ar0 s)) ∧ Below w.heap.size w w' := by
  obtain ⟨ad, cap, rfl, hcell⟩ := id hd
  have HD : Hid (Dds w (.slice ad l.length cap) l) := hd
  have HK : Hid (∀ d ∈ l, d.Ok) := hok
  obtain ⟨s0, s1, s2, s3, s4, s5, s6, s7, s8⟩ := s
  have hX : Below w.heap.size w (w.alloc (.cells #[.int .u16 s0, .int .u16 s1, .int .u16 s2, .int .u16 s3, .int .u16 s4, .int .u16 s5, .int .u16 s6, .int .u16 s7, .int .u16 s8] 26)).drew := below_newd w _
  have HX := Hid3.mk hX
  have hSa : Hid3 (SN w.heap.size s0 s1 s2 s3 s4 s5 s6 s7 s8 (w.alloc (.cells #[.int .u16 s0, .int .u16 s1, .int .u16 s2, .int .u16 s3, .int .u16 s4, .int .u16 s5, .int .u16 s6, .int .u16 s7, .int .u16 s8] 26)).drew) := ⟨(Cl.new w 26 [.int .u16 s0, .int .u16 s1, .int .u16 s2, .int .u16 s3, .int .u16 s4, .int .u16 s5, .int .u16 s6, .int .u16 s7, .int .u16 s8]).cell 0, (Cl.new w 26 [.int .u16 s0, .int .u16 s1, .int .u16 s2, .int .u16 s3, .int .u16 s4, .int .u16 s5, .int .u16 s6, .int .u16 s7, .int .u16 s8]).cell 1, (Cl.new w 26 [.int .u16 s0, .int .u16 s1, .int .u16 s2, .int .u16 s3, .int .u16 s4, .int .u16 s5, .int .u16 s6, .int .u16 s7, .int .u16 s8]).cell 2, (Cl.new w 26 [.int .u16 s0, .int .u16 s1, .int .u16 s2, .int .u16 s3, .int .u16 s4, .int .u16 s5, .int .u16 s6, .int .u16 s7, .int .u16 s8]).cell 3, (Cl.new w 26 [.int .u16 s0, .int .u16 s1, .int .u16 s2, .int .u16 s3, .int .u16 s4, .int .u16 s5, .int .u16 s6, .int .u16 s7, .int .u16 s8]).cell 4, (Cl.new w 26 [.int .u16 s0, .int .u16 s1, .int .u16 s2, .int .u16 s3, .int .u16 s4, .int .u16 s5, .int .u16 s6, .int .u16 s7, .int .u16 s8]).cell 5, (Cl.new w 26 [.int .u16 s0, .int .u16 s1, .int .u16 s2, .int .u16 s3, .int .u16 s4, .int .u16 s5, .int .u16 s6, .int .u16 s7, .int .u16 s8]).cell 6, (Cl.new w 26 [.int .u16 s0, .int .u16 s1, .int .u16 s2, .int .u16 s3, .int .u16 s4, .int .u16 s5, .int .u16 s6, .int .u16 s7, .int .u16 s8]).cell 7, (Cl.new w 26 [.int .u16 s0, .int .u16 s1, .int .u16 s2, .int .u16 s3, .int .u16 s4, .int .u16 s5, .int .u16 s6, .int .u16 s7, .int .u16 s8]).cell 8⟩
  have cN : ∀ W, w.heap.size ≤ W.heap.size → Calls Try.prog 25 #[.agg #[.int .u16 s0, .int .u16 s1, .int .u16 s2, .int .u16 s3, .int .u16 s4, .int .u16 s5, .int .u16 s6, .int .u16 s7, .int .u16 s8]] W fun r w' => ∃ b, r = .returned (.pointer (some ⟨b, 0, none⟩)) ∧ Ac w.heap.size w' b (ar0 ⟨s0, s1, s2, s3, s4, s5, s6, s7, s8⟩) ∧ Below W.heap.size W w' := fun W hW => new_ex ⟨s0, s1, s2, s3, s4, s5, s6, s7, s8⟩ W w.heap.size hW
  have cR : ∀ W, w.heap.size ≤ W.heap.size → Calls Try.prog 26 #[.agg #[.int .u16 s0, .int .u16 s1, .int .u16 s2, .int .u16 s3, .int .u16 s4, .int .u16 s5, .int .u16 s6, .int .u16 s7, .int .u16 s8]] W fun r w' => ∃ b, r = .returned (.pointer (some ⟨b, 0, none⟩)) ∧ Rr w.heap.size w' b (ar0 ⟨s0, s1, s2, s3, s4, s5, s6, s7, s8⟩) ∧ Below W.heap.size W w' := fun W hW => rnew_ex ⟨s0, s1, s2, s3, s4, s5, s6, s7, s8⟩ W w.heap.size hW
  clear hd hcell hok hX
  change Calls _ _ #[.agg #[.int .u16 s0, .int .u16 s1, .int .u16 s2, .int .u16 s3, .int .u16 s4, .int .u16 s5, .int .u16 s6, .int .u16 s7, .int .u16 s8], _] _ _
  go_enter Try.func9, Try.ntmps9
  go_wp2_with fail
  go_cut [7, 8] (fun u7 u8 wx => ∃ ab rb W', W' = wx ∧ u7 = .pointer (some ⟨ab, 0, none⟩) ∧ u8 = .pointer (some ⟨rb, 0, none⟩) ∧ Hid3 (Two w.heap.size W' ab rb (ar0 ⟨s0, s1, s2, s3, s4, s5, s6, s7, s8⟩)) ∧ Hid3 (Below w.heap.size w W'))
  case first =>
   go_region_held3 (fun w' => w'.cell? ⟨w.heap.size, 0, none⟩ = some (.int .u16 s0) ∧ w'.cell? ⟨w.heap.size, 1, none⟩ = some (.int .u16 s1) ∧ w'.cell? ⟨w.heap.size, 2, none⟩ = some (.int .u16 s2) ∧ w'.cell? ⟨w.heap.size, 3, none⟩ = some (.int .u16 s3) ∧ w'.cell? ⟨w.heap.size, 4, none⟩ = some (.int .u16 s4) ∧ w'.cell? ⟨w.heap.size, 5, none⟩ = some (.int .u16 s5) ∧ w'.cell? ⟨w.heap.size, 6, none⟩ = some (.int .u16 s6) ∧ w'.cell? ⟨w.heap.size, 7, none⟩ = some (.int .u16 s7) ∧ w'.cell? ⟨w.heap.size, 8, none⟩ = some (.int .u16 s8)) (with_reducible (first | exact hSa.out | exact hSb.out | exact hSc.out)) ((first
    | (go_at_call 25; refine (cN (w.alloc (.cells #[.int .u16 s0, .int .u16 s1, .int .u16 s2, .int .u16 s3, .int .u16 s4, .int .u16 s5, .int .u16 s6, .int .u16 s7, .int .u16 s8] 26)).drew HX.out.size).mono ?_; rintro r W1 ⟨ab, rfl, hA, hB⟩; have hSb : Hid3 (SN w.heap.size s0 s1 s2 s3 s4 s5 s6 s7 s8 W1) := ⟨SN.below hSa.out hB⟩; have HA1 := Hid3.mk hA; have HB1 : Hid3 (Below w.heap.size w W1) := ⟨HX.out.trans (hB.mono HX.out.size)⟩; clear hA hB)
    | (go_at_call 26; refine (cR (w.alloc (.cells #[.int .u16 s0, .int .u16 s1, .int .u16 s2, .int .u16 s3, .int .u16 s4, .int .u16 s5, .int .u16 s6, .int .u16 s7, .int .u16 s8] 26)).drew HX.out.size).mono ?_; rintro r W1 ⟨rb, rfl, hA, hB⟩; have hSb : Hid3 (SN w.heap.size s0 s1 s2 s3 s4 s5 s6 s7 s8 W1) := ⟨SN.below hSa.out hB⟩; have HR1 := Hid3.mk hA; have HB1 : Hid3 (Below w.heap.size w W1) := ⟨HX.out.trans (hB.mono HX.out.size)⟩; clear hA hB)
    | (go_at_call 25; refine (cN W1 HB1.out.size).mono ?_; rintro r W2 ⟨ab, rfl, hA, hB⟩; have hSc : Hid3 (SN w.heap.size s0 s1 s2 s3 s4 s5 s6 s7 s8 W2) := ⟨SN.below hSb.out hB⟩; have HT : Hid3 (Two w.heap.size W2 ab rb (ar0 ⟨s0, s1, s2, s3, s4, s5, s6, s7, s8⟩)) := ⟨⟨hA, HR1.out.below hB⟩⟩; have HB2 : Hid3 (Below w.heap.size w W2) := ⟨HB1.out.trans (hB.mono HB1.out.size)⟩; clear hA hB)
    | (go_at_call 26; refine (cR W1 HB1.out.size).mono ?_; rintro r W2 ⟨rb, rfl, hA, hB⟩; have hSc : Hid3 (SN w.heap.size s0 s1 s2 s3 s4 s5 s6 s7 s8 W2) := ⟨SN.below hSb.out hB⟩; have HT : Hid3 (Two w.heap.size W2 ab rb (ar0 ⟨s0, s1, s2, s3, s4, s5, s6, s7, s8⟩)) := ⟨⟨HA1.out.below hB, hA⟩⟩; have HB2 : Hid3 (Below w.heap.size w W2) := ⟨HB1.out.trans (hB.mono HB1.out.size)⟩; clear hA hB)))
   all_goals
     go_wp2_with fail
     go_meet
     case rel => exact ⟨ab, rb, _, rfl, rfl, rfl, HT, HB2⟩
  case rest =>
    obtain ⟨ab, rb, W1, rfl, rfl, rfl, HT, HB⟩ := hcut
    clear hSa cN cR HX
    go_wp2_with fail
    go_loopw [9] (fun sx wr => ∃ (i : Nat), i ≤ l.length ∧ i ≤ 40 ∧ sx = .int .i64 i ∧ Hid (Two w.heap.size wr ab rb (playQ (l.take i) (ar0 ⟨s0, s1, s2, s3, s4, s5, s6, s7, s8⟩))) ∧ Hid (Below w.heap.size w wr)) (fun sx _ => 40 - (intOf sx).toNat)
    case atStart => exact ⟨0, Nat.zero_le _, by omega, rfl, HT.out, HB.out⟩
    case round =>
      obtain ⟨i, hil, hi6, rfl, HT1, HB1⟩ := hrel
      by_cases hlt : i < l.length
      · have hltz : (i : Int) < (l.length : Int) := by omega
        by_cases h60 : i < 40
        · have h60z : (i : Int) < 40 := by omega
          have hsz := HB1.out.size
          obtain ⟨_, _, e0, hc⟩ := HD.out.below HB1.out
          injection e0 with e1 e2 e3
          obtain ⟨g, off, e4, c0⟩ := hc i l[i] (List.getElem?_eq_getElem hlt)
          rw [← e1] at e4
          subst e4
          have hcall := do_any w.heap.size ab rb _ l[i] wr HT1.out (HK.out _ (List.getElem_mem hlt))
          have hld := load_deed c0
          have hpl : playQ (l.take (i + 1)) (ar0 ⟨s0, s1, s2, s3, s4, s5, s6, s7, s8⟩) = doQ l[i] (playQ (l.take i) (ar0 ⟨s0, s1, s2, s3, s4, s5, s6, s7, s8⟩)) := by rw [List.take_succ_eq_append_getElem hlt, playQ_snoc]
          rw [← hpl] at hcall
          unfold Dd.V at hcall
          clear hc e1 e2 e3 hpl c0
          generalize l[i].vs.toArray = DV at *
          go_wp2_with (refine wpList_loads rfl 37 _ rfl _ (.agg DV) rfl hld ?_)
          refine hcall.mono ?_
          rintro e W2 ⟨rfl, hM⟩
          have HT2 : Hid (Two w.heap.size W2 ab rb (playQ (l.take (i + 1)) (ar0 ⟨s0, s1, s2, s3, s4, s5, s6, s7, s8⟩))) := hM.two
          have HB2 : Hid (Below w.heap.size w W2) := HB1.out.trans (hM.below HT1.out hsz)
          clear hM hcall hld
          go_wp2
          go_roundw
          case rel => exact ⟨i + 1, by omega, by omega, by go_num, HT2.out, HB2.out⟩
          case measure => simp [intOf]; omega
        · have h60z : ¬ (i : Int) < 40 := by omega
          have hi : i = 40 := by omega
          subst hi
          go_wp2
          go_ret3
          exact ⟨_, _, rfl, HT1.out, HB1.out⟩
      · have hltz : ¬ (i : Int) < (l.length : Int) := by omega
        have HTk : Hid (l.take 40 = l.take i) := by
          show _ = _
          rw [List.take_of_length_le (by omega), List.take_of_length_le (by omega)]
        go_wp2
        go_ret3
        refine ⟨ab, rb, rfl, ?_, HB1.out⟩
        rw [HTk.out]
        exact HT1.out
theorem eqGuardR : Try.prog.eqGuardType Try.prog.depth 26 = false := by kernel_rfl
set_option maxHeartbeats 2000000 in
theorem eqArr8 (w : World) (a0 a1 a2 a3 a4 a5 a6 a7 : Int) : (Op.equalIn 9999 24 (.agg #[.int .u16 a0, .int .u16 a1, .int .u16 a2, .int .u16 a3, .int .u16 a4, .int .u16 a5, .int .u16 a6, .int .u16 a7]) (.agg #[.int .u16 a0, .int .u16 a1, .int .u16 a2, .int .u16 a3, .int .u16 a4, .int .u16 a5, .int .u16 a6, .int .u16 a7])).run Try.prog w = .ok true w := by
  have h5 : ∀ x y, (Op.equalIn 9998 23 (.int .u16 x) (.int .u16 y)).run Try.prog w = .ok (x == y) w := fun x y => run_equalIn_int w 9997 23 .u16 .u16 x y Try.underlying23
  show (Op.equalIn (9997 + 1 + 1) 24 _ _).run Try.prog w = _
  rw [Op.equalIn]
  simp only [Sem.run_bind, run_underlying Try.underlying24, Result.andThen_ok]
  simp [go_sem, List.range'_succ, h5]
set_option maxHeartbeats 2000000 in
theorem eqRgs (w : World) (s : Rg) : (Op.equalIn 10000 26 (.agg s.vs.toArray) (.agg s.vs.toArray)).run Try.prog w = .ok true w := by
  obtain ⟨pc, a0, a1, a2, a3, a4, a5, a6, a7⟩ := s
  have h8 := eqArr8
  unfold Rg.vs
  show (Op.equalIn (9998 + 1 + 1) 26 _ _).run Try.prog w = _
  rw [Op.equalIn]
  simp only [Sem.run_bind, run_underlying Try.underlying26, Result.andThen_ok]
  simp [go_sem, h8]
/-- Where an upcall comes to, on both. -/
theorem where_all (B ab rb : Nat) (q : Ar) (k : Nat) (w : World) (h : Two B w ab rb q) : ∃ x y, Calls Try.prog 14 #[.pointer (some ⟨ab, 0, none⟩), .int .u8 k] w (fun r w' => r = .returned (.tuple #[.int .u16 x, .bool y]) ∧ Below w.heap.size w w') ∧ ∀ W, Rr B W rb q → Calls Try.prog 27 #[.pointer (some ⟨rb, 0, none⟩), .int .u8 k] W (fun r w' => r = .returned (.tuple #[.int .u16 x, .bool y]) ∧ w' = W) := by
  by_cases hk : k < 5
  · exact ⟨_, _, where_ok B ab q ⟨k, hk⟩ w h.t, fun W hW => rwhere_ok B rb q ⟨k, hk⟩ W hW⟩
  · exact ⟨0, false, (where_bad ab k w (by omega)).mono (fun r w' ⟨h1, h2⟩ => ⟨h1, below_eq h2⟩), fun W hW => rwhere_bad rb k W (by omega)⟩
set_option maxHeartbeats 2000000 in
theorem same_any (B ab rb : Nat) (q : Ar) (w : World) (h : Two B w ab rb q) : Calls Try.prog 11 #[.pointer (some ⟨ab, 0, none⟩), .pointer (some ⟨rb, 0, none⟩)] w fun e w' => e = .returned (.bool true) ∧ Below w.heap.size w w' := by
  have HT : Hid (Two B w ab rb q) := h
  clear h
  go_enter Try.func11, Try.ntmps11
  go_wp2_with fail
  go_loopw [5] (fun s5 wr => ∃ k : Nat, k ≤ 6 ∧ s5 = .int .u8 k ∧ Hid (Below w.heap.size w wr)) (fun s5 _ => 6 - (intOf s5).toNat)
  case atStart => exact ⟨0, by omega, rfl, Below.refl _ _⟩
  case round =>
    obtain ⟨k, hk6, rfl, HB⟩ := hrel
    by_cases hlt : k ≤ 5
    · have hltz : (k : Int) ≤ 5 := by omega
      obtain ⟨x, y, cA, cB⟩ := where_all B ab rb q k wr (HT.out.below HB.out)
      have hxx : (x != x) = false := by simp
      have hyy : (y != y) = false := by simp
      go_wp2_with fail
      refine cA.mono ?_
      rintro e W1 ⟨rfl, hB1⟩
      have HB1 : Hid (Below w.heap.size w W1) := HB.out.trans (hB1.mono HB.out.size)
      have cB' := cB W1 (HT.out.below HB1.out).r
      clear cA cB hB1
      go_wp2_with fail
      refine cB'.mono ?_
      rintro e W2 ⟨rfl, hW⟩
      rw [hW]
      clear cB' hW
      go_wp2
      go_roundw
      case rel => exact ⟨k + 1, by omega, by go_num, HB1.out⟩
      case measure => simp [intOf]; omega
    · obtain rfl : k = 6 := by omega
      have cG := regs_any B ab q _ (HT.out.below HB.out).t
      have eG := eqGuardR
      have eM := fun w => eqRgs w q.s
      have cQ := fun W hW => rregs_any B rb q W hW
      unfold Rg.V at cG cQ
      generalize q.s.vs.toArray = GV at *
      have cD := fun W hW => depth_any B ab q W hW
      have cDr := fun W hW => rdepth_any B rb q W hW
      generalize ((q.kp.length : Nat) : Int) = nn at *
      have hnn : (nn == nn) = true := by simp
      have cE := fun W hW => entries_any B ab q W hW
      have cEr := fun W hW => rentries_any B rb q W hW
      have hll := enL_len q.en 5
      generalize enL q.en 5 = EL at *
      have cV := fun W hW => alive_any B ab q W hW
      have cVr := fun W hW => ralive_any B rb q W hW
      generalize q.al = al at *
      have haa : (al == al) = true := by simp
      go_wp2_with fail
      refine cG.mono ?_
      rintro e W1 ⟨rfl, hB1⟩
      have HB1 : Hid (Below w.heap.size w W1) := HB.out.trans (hB1.mono HB.out.size)
      clear cG hB1
      go_wp2_with fail
      refine (cQ W1 (HT.out.below HB1.out).r).mono ?_
      rintro e W2 ⟨rfl, hB2⟩
      have HB2 : Hid (Below w.heap.size w W2) := HB1.out.trans (hB2.mono HB1.out.size)
      clear cQ hB2
      go_wp2_with fail
      refine (cD W2 (HT.out.below HB2.out).t).mono ?_
      rintro e W3 ⟨rfl, hW⟩
      rw [hW]
      clear cD hW
      go_wp2_with fail
      refine (cDr W2 (HT.out.below HB2.out).r).mono ?_
      rintro e W3' ⟨rfl, hW⟩
      rw [hW]
      clear cDr hW
      go_wp2_with fail
      refine (cE W2 (HT.out.below HB2.out).t).mono ?_
      rintro e W4 ⟨v1, rfl, ho1, hB4⟩
      have HK1 := Hid3.mk (Kns.of_own ho1)
      have HB4 : Hid (Below w.heap.size w W4) := HB2.out.trans (hB4.mono HB2.out.size)
      clear cE ho1 hB4
      go_wp2_with fail
      refine (cEr W4 (HT.out.below HB4.out).r).mono ?_
      rintro e W5 ⟨v2, rfl, ho2, hB5⟩
      have cS := samekinds_any v1 v2 EL W5 (HK1.out.below hB5) (Kns.of_own ho2) (by omega)
      have HB5 : Hid (Below w.heap.size w W5) := HB4.out.trans (hB5.mono HB4.out.size)
      clear cEr ho2 hB5
      go_wp2_with fail
      refine cS.mono ?_
      rintro e W6 ⟨rfl, hB6⟩
      have HB6 : Hid (Below w.heap.size w W6) := HB5.out.trans (hB6.mono HB5.out.size)
      clear cS hB6
      go_wp2_with fail
      refine (cV W6 (HT.out.below HB6.out).t).mono ?_
      rintro e W7 ⟨rfl, hB7⟩
      have HB7 : Hid (Below w.heap.size w W7) := HB6.out.trans (hB7.mono HB6.out.size)
      clear cV hB7
      go_wp2_with fail
      refine (cVr W7 (HT.out.below HB7.out).r).mono ?_
      rintro e W8 ⟨rfl, hW⟩
      rw [hW]
      clear cVr hW
      go_wp2
      go_ret
      exact ⟨rfl, HB7.out⟩
end Go.Proofs.Ytgoofonogdhhoaa
