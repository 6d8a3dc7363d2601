/- Deeds on both pipes: play; PipePlays, PipeForks, PipeNone: the walks. -/
import Derived.Test.YtpjnadgjohbhbaaPiT
namespace Go.Proofs.Ytpjnadgjohbhbaa
open Go.RowKit Go.Maps
set_option linter.unusedVariables false
set_option maxRecDepth 100000
/-- A slice of deeds that can be read. -/
def Dds (w : World) (v : Value) (l : List Dd) : Prop := ∃ a cap, v = .slice a l.length cap ∧ ∀ (j : Nat) (d : Dd), l[j]? = some d → ∃ g off, a = some ⟨g, off, none⟩ ∧ w.cell? ⟨g, off + j * 4, none⟩ = some (.int .i64 d.k) ∧ w.cell? ⟨g, off + j * 4 + 1, none⟩ = some (.int .i64 d.n) ∧ w.cell? ⟨g, off + j * 4 + 2, none⟩ = some (.bool d.on) ∧ w.cell? ⟨g, off + j * 4 + 3, none⟩ = some (.string ⟨d.s.toArray⟩)
theorem Dds.below {w w' : World} {v : Value} {l : List Dd} (h : Dds w v l) (k : Below w.heap.size w w') : Dds w' v l := by
  obtain ⟨a, cap, rfl, hcell⟩ := h
  refine ⟨a, cap, rfl, fun j d hj => ?_⟩
  obtain ⟨g, off, rfl, c0, c1, c2, c3⟩ := hcell j d hj
  have hb := k.block g (World.block_lt_of_cell? w _ c0)
  refine ⟨g, off, rfl, ?_, ?_, ?_, ?_⟩ <;> (rw [World.cell?_of_block (w := w) hb]; assumption)
/-- Both, whatever is in them, above a world. -/
structure Bo (w W : World) (b rb : Nat) : Prop where
  ex : ∃ T rd wr, Two w.heap.size W b rb T rd wr
  bl : Below w.heap.size w W
theorem Bo.step {w W W' : World} {b rb : Nat} {T : List UInt8} {rd wr : Nat} (h : Bo w W b rb) (k : Mv w.heap.size W W' b rb T rd wr) : Bo w W' b rb := ⟨⟨_, _, _, k.two⟩, h.bl.trans (k.below h.bl.size)⟩
set_option maxHeartbeats 1000000 in
theorem play_any (v : Value) (l : List Dd) (w : World) (hd : Dds w v l) : Calls Try.prog 9 #[v] w fun e w' => ∃ b rb, e = .returned (.tuple #[.pointer (some ⟨b, 0, none⟩), .pointer (some ⟨rb, 0, none⟩), .bool true]) ∧ Bo w w' b rb := by
  have cN := new_any w
  obtain ⟨ad, cap, rfl, hcell⟩ := id hd
  have HD := Hid3.mk hd
  clear hd hcell
  go_enter Try.func9, Try.ntmps9
  go_wp2_with fail
  refine cN.mono ?_
  rintro e W0 ⟨rfl, hO, hB0⟩
  have cR := rnew_any W0
  go_wp2_with fail
  refine cR.mono ?_
  rintro e W1 ⟨rfl, hO2, hB1⟩
  have HT : Hid3 (Bo w W1 w.heap.size W0.heap.size) := ⟨⟨⟨_, _, _, hO.below hB1, ⟨Nat.le_trans hB0.size hO2.g, hO2.t, hO2.hr, hO2.hw, hO2.c⟩⟩, hB0.trans (hB1.mono hB0.size)⟩⟩
  clear hO hO2 hB0 hB1 cN cR
  generalize W0.heap.size = rb at *
  go_wp2_with fail
  go_loopw [7] (fun s7 wr => ∃ (i : Nat), i ≤ l.length ∧ i ≤ 130 ∧ s7 = .int .i64 i ∧ Hid3 (Bo w wr w.heap.size rb)) (fun s7 _ => 130 - (intOf s7).toNat)
  case atStart => exact ⟨0, Nat.zero_le _, by omega, rfl, HT⟩
  case round =>
    obtain ⟨i, hil, hi6, rfl, HT1⟩ := hrel
    by_cases hlt : i < l.length
    · have hltz : (i : Int) < (l.length : Int) := by omega
      by_cases h60 : i < 130
      · have h60z : (i : Int) < 130 := by omega
        obtain ⟨_, _, e0, hc⟩ := HD.out.below HT1.out.bl
        injection e0 with e1 e2 e3
        obtain ⟨g, off, e4, c0, c1, c2, c3⟩ := hc i l[i] (List.getElem?_eq_getElem hlt)
        rw [← e1] at e4
        subst e4
        obtain ⟨T, rd, wr', hTw⟩ := HT1.out.ex
        have hcall := do_any w.heap.size w.heap.size rb T rd wr' l[i] _ hTw
        unfold ddV at hcall
        clear hc e1 e2 e3 hTw
        generalize l[i] = d at *
        obtain ⟨d0, d1, d2, d3⟩ := d
        simp only at c0 c1 c2 c3 hcall
        go_wp2_with fail
        refine hcall.mono ?_
        rintro e W2 ⟨rfl, T', rd', wr2, hM⟩
        have HT2 : Hid3 (Bo w W2 w.heap.size rb) := ⟨HT1.out.step hM⟩
        clear hM hcall c0 c1 c2 c3
        go_wp2
        go_roundw
        case rel => exact ⟨i + 1, by omega, by omega, by go_num, HT2⟩
        case measure => simp [intOf]; omega
      · have h60z : ¬ (i : Int) < 130 := by omega
        have hi : i = 130 := by omega
        subst hi
        go_wp2
        go_ret3
        exact ⟨_, _, rfl, HT1.out⟩
    · have hltz : ¬ (i : Int) < (l.length : Int) := by omega
      go_wp2
      go_ret3
      exact ⟨_, _, rfl, HT1.out⟩
set_option maxHeartbeats 1000000 in
theorem plays_law (v : Value) (l : List Dd) (w : World) (hd : Dds w v l) : Calls Try.prog 3 #[v] w fun r w' => r = .returned (.bool true) ∧ Below w.heap.size w w' := by
  have cP := play_any v l w hd
  obtain ⟨ad, cap, rfl, _⟩ := id hd
  clear hd
  go_enter Try.func3, Try.ntmps3
  go_wp2_with fail
  refine cP.mono ?_
  rintro r W1 ⟨b, rb, rfl, hBo⟩
  have HB := Hid3.mk hBo
  have cL := live_any W1
  clear cP hBo
  go_wp2_with fail
  refine cL.mono ?_
  rintro r W2 ⟨rfl, hb⟩
  obtain ⟨T, rd, wr, hT⟩ := HB.out.ex
  have cS := same_any _ b rb T rd wr W2 (hT.below hb)
  have HB2 := Hid3.mk (HB.out.bl.trans (hb.mono HB.out.bl.size))
  clear cL hb hT
  go_wp2_with fail
  refine cS.mono ?_
  rintro r W3 ⟨rfl, hb⟩
  have HB3 := Hid3.mk (HB2.out.trans (hb.mono HB2.out.size))
  clear cS hb
  go_wp2
  go_ret
  exact ⟨rfl, HB3.out⟩
set_option maxHeartbeats 2000000 in
theorem none_law (d : Dd) (w : World) : Calls Try.prog 8 #[ddV d] w fun r w' => r = .returned (.bool true) ∧ Below w.heap.size w w' := by
  obtain ⟨k, n, on, s⟩ := d
  unfold ddV
  simp only
  have hX := below_new w (.cells #[.int .i64 k, .int .i64 n, .bool on, .string ⟨s.toArray⟩] 47)
  have hbx := heap_alloc_new w (.cells #[.int .i64 k, .int .i64 n, .bool on, .string ⟨s.toArray⟩] 47)
  have cL := live_any (w.alloc (.cells #[.int .i64 k, .int .i64 n, .bool on, .string ⟨s.toArray⟩] 47))
  have HX := Hid3.mk hX
  have HBX := Hid3.mk hbx
  have cW := fun W => none_write ⟨s.toArray⟩ W
  have cR := fun W => none_read n W
  clear hX hbx
  go_enter Try.func8, Try.ntmps8
  go_wp2_with fail
  refine (cW _).mono ?_
  rintro r W ⟨rfl, hW⟩
  rw [hW]
  clear cW hW
  go_wp2_with fail
  refine (cR _).mono ?_
  rintro r W ⟨rfl, hW⟩
  rw [hW]
  clear cR hW
  go_wp2_with fail
  refine cL.mono ?_
  rintro r W2 ⟨rfl, hb⟩
  have x2 : W2.cell? ⟨w.heap.size, 2, none⟩ = some (.bool on) := by
    rw [hb.cell (by simp), Lib.cell_of_heap HBX.out]; rfl
  have HB := Hid3.mk (HX.out.trans (hb.mono HX.out.size))
  have c1 := none_open on W2
  have c2 := none_close on W2
  have c3 := none_count on W2
  have c4 := none_text W2
  have c5 := none_fork W2
  clear cL hb
  go_wp2_with fail
  refine c1.mono ?_
  rintro r W ⟨rfl, hW⟩
  rw [hW]
  clear c1 hW
  go_wp2_with fail
  refine c2.mono ?_
  rintro r W ⟨rfl, hW⟩
  rw [hW]
  clear c2 hW
  go_wp2_with fail
  refine c3.mono ?_
  rintro r W ⟨rfl, hW⟩
  rw [hW]
  clear c3 hW
  go_wp2_with fail
  refine c4.mono ?_
  rintro r W ⟨rfl, hW⟩
  rw [hW]
  clear c4 hW
  go_wp2_with fail
  refine c5.mono ?_
  rintro r W ⟨rfl, hW⟩
  rw [hW]
  clear c5 hW
  go_wp2
  go_ret
  exact ⟨rfl, HB.out⟩
end Go.Proofs.Ytpjnadgjohbhbaa
