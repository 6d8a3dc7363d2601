/- The play on both tables; do both tell the same? -/
import Derived.Test.YtioinppclejbhaaDoorCaM
namespace Go.Proofs.YtioinppclejbhaaDoor
open Go.RowKit Go.Maps
set_option linter.unusedVariables false
set_option maxRecDepth 100000
theorem wpList_loads {ops : Array Oper} {rest : List Oper} {o : Oper} {a : Act} {w : World} {Q : Exit → Act → World → Prop} (hgd : o.guard = none) (ty : TypeId) (x : Operand) (ho : o.op = .load ty x) (v u : Value) (hx : a.eval x = v) (hL : (Instr.loadAt ty v).run Tryd.prog w = .ok u w)
    (h : wpList Tryd.prog ops Q rest (a.put o.dst u) w) : wpList Tryd.prog ops Q (o :: rest) a w :=
  wpList_plain hgd fun K hK => by
    unfold Oper.wp execOp
    simp only [ho, hx, Sem.run_bind, hL, Result.andThen_ok, Sem.run_pure]
    exact hK _ _ h
/-- A slice of deeds that can be read. -/
def Dds (w : World) (v : Value) (l : List Dd) : Prop := ∃ a cap, v = .slice a l.length cap ∧ ∀ (j : Nat) (d : Dd), l[j]? = some d → ∃ g off, a = some ⟨g, off, none⟩ ∧ ∀ i x, d.vs[i]? = some x → w.cell? ⟨g, off + j * 5 + i, none⟩ = some x
theorem Dds.below {w w' : World} {v : Value} {l : List Dd} (h : Dds w v l) (k : Below w.heap.size w w') : Dds w' v l := by
  obtain ⟨a, cap, rfl, hcell⟩ := h
  refine ⟨a, cap, rfl, fun j d hj => ?_⟩
  obtain ⟨g, off, rfl, c0⟩ := hcell j d hj
  exact ⟨g, off, rfl, fun i x hi => (k.cell (World.block_lt_of_cell? w _ (c0 i x hi))).trans (c0 i x hi)⟩
theorem sizD : (Tryd.prog.info? 39).map (·.size) = some 5 := by kernel_rfl
theorem load_deed {w : World} {g o : Nat} {d : Dd} (h : ∀ i x, d.vs[i]? = some x → w.cell? ⟨g, o + i, none⟩ = some x) : (Instr.loadAt 39 (.pointer (some ⟨g, o, none⟩))).run Tryd.prog w = .ok (.agg d.vs.toArray) w := by
  have hl' := run_loadCells_list (P := Tryd.prog) w ⟨g, o, none⟩ d.vs (fun j v hj => by
    rw [Addr.add_mid]
    exact h j v hj)
  rw [show d.vs.length = 5 from rfl] at hl'
  have hi := sizD
  rw [Option.map_eq_some_iff] at hi
  obtain ⟨i, hi, hs⟩ := hi
  simp [Instr.loadAt, Instr.sureAddr, loadVar, sizeOf, typeInfo, hi, hs, hl']
set_option maxHeartbeats 4000000 in
theorem play_any (v : Value) (l : List Dd) (w : World) (hd : Dds w v l) (hn : NTabs w) : Calls Tryd.prog 9 #[v] w fun e w' => ∃ b rb s, e = .returned (.tuple #[.pointer (some ⟨b, 0, none⟩), .pointer (some ⟨rb, 0, none⟩), .bool true]) ∧ Tw w.heap.size w' b rb s ∧ Below w.heap.size w w' := by
  obtain ⟨ad, cap, rfl, hcell⟩ := id hd
  have HD := Hid3.mk hd
  have HN := Hid3.mk hn
  have cN := new_any w w.heap.size (Nat.le_refl _)
  clear hd hcell hn
  go_enter Tryd.func9, Tryd.ntmps9
  go_wp2_with fail
  refine cN.mono ?_
  rintro r W1 ⟨rfl, hR1, hB1⟩
  have HR1 := Hid3.mk (And.intro hR1 hB1)
  have cM := rnew_any W1 w.heap.size hB1.size
  clear cN hR1 hB1
  obtain ⟨b, hb⟩ : ∃ b, b = w.heap.size := ⟨_, rfl⟩
  have HR2 : Hid3 (Tb 71 w.heap.size W1 b (fun _ => none) ∧ Below w.heap.size w W1) := ⟨by rw [hb]; exact HR1.out⟩
  go_wp2_with fail
  refine cM.mono ?_
  rintro r W2 ⟨rfl, hR2, hB2⟩
  have HT : Hid3 (∃ s, Tw w.heap.size W2 b W1.heap.size s ∧ Below w.heap.size w W2) := ⟨_, ⟨HR2.out.1.below hB2, hR2, (Nt.new HN.out).to (HR2.out.2.trans (hB2.mono HR2.out.2.size))⟩, HR2.out.2.trans (hB2.mono HR2.out.2.size)⟩
  clear cM hR2 hB2 HR1 HR2
  generalize W1.heap.size = rb at *
  rw [← hb]
  have HD2 : Hid3 (b = w.heap.size) := ⟨hb⟩
  clear hb
  go_wp2_with fail
  go_loopw [7] (fun sx wr => ∃ (i : Nat), i ≤ l.length ∧ i ≤ 40 ∧ sx = .int .i64 i ∧ Hid3 (∃ s, Tw w.heap.size wr b rb s ∧ Below w.heap.size w wr)) (fun sx _ => 40 - (intOf sx).toNat)
  case atStart => exact ⟨0, Nat.zero_le _, by omega, rfl, HT⟩
  case round =>
    obtain ⟨i, hil, hi6, rfl, HT1⟩ := hrel
    clear HT
    obtain ⟨s, hT, hB⟩ := HT1.out
    have HT := Hid3.mk (And.intro hT hB)
    clear HT1 hT hB
    by_cases hgo : i < l.length ∧ i < 40
    · obtain ⟨hlt, h60⟩ := hgo
      have hltz : (i : Int) < (l.length : Int) := by omega
      have h60z : (i : Int) < 40 := by omega
      obtain ⟨_, _, e0, hc⟩ := HD.out.below HT.out.2
      injection e0 with e1 e2 e3
      obtain ⟨g, off, e4, c0⟩ := hc i l[i] (List.getElem?_eq_getElem hlt)
      rw [← e1] at e4
      subst e4
      have hcall := do_any w.heap.size b rb s l[i] wr HT.out.1
      have hld := load_deed c0
      unfold Dd.V at hcall
      clear hc e1 e2 e3 c0
      generalize l[i].vs.toArray = DV at *
      go_wp2_with (refine wpList_loads rfl 39 _ rfl _ (.agg DV) rfl hld ?_)
      refine hcall.mono ?_
      rintro e W2 ⟨rfl, s', hT', hB'⟩
      have HT2 : Hid3 (∃ s, Tw w.heap.size W2 b rb s ∧ Below w.heap.size w W2) := ⟨_, hT', HT.out.2.trans hB'⟩
      clear hT' hB' hcall hld HT
      go_wp2
      go_roundw
      case rel => exact ⟨i + 1, by omega, by omega, by go_num, HT2⟩
      case measure => simp [intOf]; omega
    · have hend : ¬ ((i : Int) < (l.length : Int)) ∨ ((i : Int) < (l.length : Int) ∧ ¬ (i : Int) < 40) := by omega
      rcases hend with hz | ⟨hz, hz4⟩
      all_goals
        go_wp2
        go_ret3
        exact ⟨_, _, rfl, ⟨s, HT.out.1⟩, HT.out.2⟩
set_option maxHeartbeats 4000000 in
theorem same_any (B b rb : Nat) (s : Sl) (w : World) (h : Tw B w b rb s) : Calls Tryd.prog 11 #[.pointer (some ⟨b, 0, none⟩), .pointer (some ⟨rb, 0, none⟩)] w fun e w' => e = .returned (.bool true) ∧ Below w.heap.size w w' := by
  have HT := Hid3.mk h
  have eG := eqGuardC
  clear h
  go_enter Tryd.func11, Tryd.ntmps11
  go_wp2_with fail
  go_loopw [5] (fun s5 wr => ∃ i : Int, -1 ≤ i ∧ i ≤ 13 ∧ s5 = .int .i64 i ∧ Hid3 (Below w.heap.size w wr)) (fun s5 _ => (13 - intOf s5).toNat)
  case atStart => exact ⟨-1, by omega, by omega, rfl, ⟨Below.refl _ _⟩⟩
  case round =>
    obtain ⟨i, hi0, hi1, rfl, HB⟩ := hrel
    by_cases hle : i ≤ 12
    · have hwi : IntKind.i64.wrap (i + 1) = i + 1 := by rw [IntKind.wrap_i64]; omega
      obtain ⟨c, e, _, _, _, hG, hR⟩ := get_both s i
      have eM := fun w => eqC w c.1 c.1 c.2.toNat c.2.toNat
      rw [show (c.1.toList == c.1.toList && ((c.2.toNat : Nat) : Int) == ((c.2.toNat : Nat) : Int)) = true by simp] at eM
      have c1 := hG B b wr (HT.out.low HB.out).t
      have hRR := fun W hW => hR B rb W hW
      have hee : (e != e) = false := by simp
      clear hG hR
      generalize c.1 = n at *
      generalize ((c.2.toNat : Nat) : Int) = r at *
      go_wp2_with fail
      refine c1.mono ?_
      rintro o W1 ⟨rfl, hB1⟩
      have hX1 := hB1.alloc hB1.size (.cells #[.string n, .int .u8 r] 31)
      have hT1 := Two.new W1 31 (.string n) (.int .u8 r)
      have hs1 : W1.heap.size < (W1.alloc (.cells #[.string n, .int .u8 r] 31)).heap.size := by simp
      have c2 := hRR _ ((HT.out.low HB.out).low hX1).r
      have HB1 := Hid3.mk (HB.out.trans (hX1.mono HB.out.size))
      clear c1 hRR hB1 hX1
      go_wp2_with fail
      generalize (W1.alloc (.cells #[.string n, .int .u8 r] 31)) = V1 at *
      generalize W1.heap.size = z1 at *
      refine c2.mono ?_
      rintro o W2 ⟨rfl, hB2⟩
      have hT2 := hT1.below hB2 hs1
      have hX2 := below_new W2 (.cells #[.string n, .int .u8 r] 31)
      have hz2 : z1 < W2.heap.size := Nat.lt_of_lt_of_le hs1 hB2.size
      have hT3 := hT2.below hX2 hz2
      have hU3 := Two.new W2 31 (.string n) (.int .u8 r)
      have d0 := hT3.c0
      have d1 := hT3.c1
      have u0 := hU3.c0
      have u1 := hU3.c1
      have hB3 := hB2.trans (hX2.mono hB2.size)
      have HB3 := Hid3.mk (HB1.out.trans (hB3.mono HB1.out.size))
      clear c2 hB2 hX2 hT1 hT2 hT3 hU3 hB3 HB1 HB
      go_wp2_with fail
      go_wp2
      go_roundw
      case rel => exact ⟨i + 1, by omega, by omega, by go_num, HB3⟩
      case measure => simp [intOf]; omega
    · have cR := room_any B b s wr (HT.out.low HB.out).t
      have cQ := fun W hW => rroom_any B rb s W hW
      have cS := fun W hW => slots_any B b s W hW
      have cT := fun W hW => rslots_any B rb s W hW
      have hll : ((slotsL s).map (·.1)).length ≤ 1000 := by rw [List.length_map]; have := thL_len (fun k => (s k).isSome) 12; unfold slotsL; omega
      have HLL := Hid3.mk hll
      clear hll
      generalize (roomO s).1 = y1 at *
      generalize (roomO s).2 = y2 at *
      generalize slotsL s = L at *
      have HT0 := Hid3.mk (HT.out.low HB.out)
      clear HT
      go_wp2_with fail
      refine cR.mono ?_
      rintro o W1 ⟨rfl, hB1⟩
      have HT1 := Hid3.mk (HT0.out.low hB1)
      have HB1 := Hid3.mk (HB.out.trans (hB1.mono HB.out.size))
      clear cR hB1 HT0 HB
      go_wp2_with fail
      refine (cQ W1 HT1.out.r).mono ?_
      rintro o W2 ⟨rfl, hB2⟩
      have HT2 := Hid3.mk (HT1.out.low hB2)
      have HB2 := Hid3.mk (HB1.out.trans (hB2.mono HB1.out.size))
      clear cQ hB2 HT1 HB1
      go_wp2_with fail
      refine (cS W2 HT2.out.t).mono ?_
      rintro o W3 ⟨v1, rfl, hr1, hB3⟩
      have HI1 := Hid3.mk (slots_ints hr1).1
      have HT3 := Hid3.mk (HT2.out.low hB3)
      have HB3 := Hid3.mk (HB2.out.trans (hB3.mono HB2.out.size))
      clear cS hB3 hr1 HT2 HB2
      go_wp2_with fail
      refine (cT W3 HT3.out.r).mono ?_
      rintro o W4 ⟨v2, rfl, hr2, hB4⟩
      have HI2 := Hid3.mk (slots_ints hr2).1
      have HI3 := Hid3.mk (HI1.out.below hB4)
      have HB4 := Hid3.mk (HB3.out.trans (hB4.mono HB3.out.size))
      have c3 := sameints_any v1 v2 _ W4 HI3.out HI2.out HLL.out
      clear cT hB4 hr2 HT3 HB3 HI1
      go_wp2_with fail
      refine c3.mono ?_
      rintro o W5 ⟨rfl, hB5⟩
      have HB5 := Hid3.mk (HB4.out.trans (hB5.mono HB4.out.size))
      clear c3 hB5 HB4
      go_wp2
      go_ret
      exact ⟨rfl, HB5.out⟩
end Go.Proofs.YtioinppclejbhaaDoor
