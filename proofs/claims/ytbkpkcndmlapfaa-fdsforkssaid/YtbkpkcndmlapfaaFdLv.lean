/- What must be whatever is asked; deeds on both. -/
import Derived.Test.YtbkpkcndmlapfaaFdP
namespace Go.Proofs.Ytbkpkcndmlapfaa
open Go.RowKit Go.Maps
set_option linter.unusedVariables false
set_option maxRecDepth 100000
def ls1 : Fs := begS fs0 0
def ls2 : Fs := opnS ls1 0 0 ⟨1, 3, 0⟩
def ls3 : Fs := setFd ls2 0 1 1
def ls4 : Fs := setO ls3 1 (movO ls3 1 5)
def ls5 : Fs := setFd ls4 0 0 0
/-- The program's table above a world. -/
structure Lt (w W : World) (tb : Nat) (s : Fs) : Prop where
  ex : ∃ L, L.t = tb ∧ Ft w.heap.size W L s
  bl : Below w.heap.size w W
theorem Lt.step {w W W' : World} {tb : Nat} {L : Lo} {s s' : Fs} (e : L.t = tb) (h : Ft w.heap.size W L s) (hb : Below w.heap.size w W) (k : FStp w.heap.size W W' L s s') : Lt w W' tb s' :=
  ⟨k.out.elim fun L' hL => ⟨L', hL.1.trans e, hL.2.1⟩, hb.trans (k.low h hb.size)⟩
theorem Lt.low {w W W' : World} {tb : Nat} {s : Fs} (h : Lt w W tb s) (k : Below W.heap.size W W') : Lt w W' tb s := ⟨h.ex.elim fun L hL => ⟨L, hL.1, hL.2.below k⟩, h.bl.trans (k.mono h.bl.size)⟩
theorem lq0 : leastF (ls1.fd 0) = some 0 := by decide +kernel
theorem lq1 : leastF (ls2.fd 0) = some 1 := by decide +kernel
theorem lq2 : ls2.fd 0 0 = 1 := by decide +kernel
theorem lq3 : ls3.fd 0 1 = 1 := by decide +kernel
theorem lq4 : ls4.fd 0 0 = 1 := by decide +kernel
theorem lq5 : getO ls4 1 = ⟨1, 3, 5⟩ := by decide +kernel
theorem lq6 : cntN ls4.fd 1 = 2 := by decide +kernel
theorem lq7 : lsL (ls5.fd 0) 8 = [1] := by decide +kernel
theorem lh : ls1.has 0 = true ∧ ls2.has 0 = true ∧ ls3.has 0 = true ∧ ls4.has 0 = true ∧ ls5.has 0 = true := by decide +kernel
set_option maxHeartbeats 2000000 in
theorem live_any (w : World) : Calls Try.prog 10 #[] w fun r w' => r = .returned (.bool true) ∧ Below w.heap.size w w' := by
  have cN := new_any w
  go_enter Try.func10, Try.ntmps10
  go_wp2_with fail
  refine cN.mono ?_
  rintro r W0 ⟨rfl, ⟨L, eL, hF, _⟩, hB0⟩
  rw [← eL]
  have c1 := begin_ok w.heap.size L fs0 0 W0 hF hB0.size rfl
  have HB := Hid3.mk (And.intro eL (And.intro hF hB0))
  clear cN hF hB0 eL
  go_wp2_with fail
  refine c1.mono ?_
  rintro r W1 ⟨rfl, hs⟩
  obtain ⟨⟨L1, e1, hF1⟩, hB1⟩ := Lt.step (s' := ls1) rfl HB.out.2.1 HB.out.2.2 hs
  rw [← e1]
  have c2 := open_ok w.heap.size L1 ls1 0 0 ⟨1, 3, 0⟩ W1 hF1 hB1.size lh.1 (.inl rfl) lq0 (by decide +kernel)
  have HB1 := Hid3.mk (And.intro hF1 hB1)
  unfold opC at c2
  clear c1 hs hF1 hB1 e1 HB
  go_wp2_with fail
  refine c2.mono ?_
  rintro r W2 ⟨rfl, hs⟩
  obtain ⟨⟨L2, e2, hF2⟩, hB2⟩ := Lt.step (s' := ls2) rfl HB1.out.1 HB1.out.2 hs
  rw [← e2]
  have c3 := dup_ok w.heap.size L2 ls2 0 0 1 W2 hF2 lh.2.1 (by rw [lq2]; decide) lq1 (by decide +kernel)
  rw [lq2] at c3
  have HB2 := Hid3.mk (And.intro hF2 hB2)
  clear c2 hs hF2 hB2 e2 HB1
  go_wp2_with fail
  refine c3.mono ?_
  rintro r W3 ⟨rfl, hs⟩
  obtain ⟨⟨L3, e3, hF3⟩, hB3⟩ := Lt.step (s' := ls3) rfl HB2.out.1 HB2.out.2 hs
  rw [← e3]
  have c4 := move_ok w.heap.size L3 ls3 0 1 5 W3 hF3 lh.2.2.1 (by rw [lq3]; decide)
  rw [lq3] at c4
  have HB3 := Hid3.mk (And.intro hF3 hB3)
  clear c3 hs hF3 hB3 e3 HB2
  go_wp2_with fail
  refine c4.mono ?_
  rintro r W4 ⟨rfl, hs⟩
  obtain ⟨⟨L4, e4, hF4⟩, hB4⟩ := Lt.step (s' := ls4) rfl HB3.out.1 HB3.out.2 hs
  rw [← e4]
  have c5 := get_ok w.heap.size L4 ls4 0 0 W4 hF4 lh.2.2.2.1 (by rw [lq4]; decide)
  rw [lq4, lq5] at c5
  have HB4 := Hid3.mk (And.intro hF4 hB4)
  unfold opC at c5
  clear c4 hs hF4 hB4 e4 HB3
  go_wp2_with fail
  refine c5.mono ?_
  rintro r W5 ⟨rfl, hb⟩
  have hX5 := below_new W5 (.cells #[.int .u8 1, .int .i64 3, .int .i64 5] 32)
  have hbx := heap_alloc_new W5 (.cells #[.int .u8 1, .int .i64 3, .int .i64 5] 32)
  have hF5 := (HB4.out.1.below hb).below hX5
  have hB5 : Below w.heap.size w (W5.alloc (.cells #[.int .u8 1, .int .i64 3, .int .i64 5] 32)) := (HB4.out.2.trans (hb.mono HB4.out.2.size)).trans (hX5.mono (Nat.le_trans HB4.out.2.size hb.size))
  have c6 := close_ok w.heap.size L4 ls4 0 0 _ hF5 lh.2.2.2.1 (by rw [lq4]; decide)
  rw [lq4, lq5, lq6] at c6
  have HB5 := Hid3.mk (And.intro hF5 hB5)
  unfold opC at c6
  clear c5 hb hF5 hB5 hX5 HB4
  simp only [Nat.succ_ne_self, decide_false] at c6
  go_wp2_with fail
  refine c6.mono ?_
  rintro r W6 ⟨rfl, hs⟩
  have hx6 : ¬ XF L4 ls4 W5.heap.size := fun e => by
    rcases e with e | ⟨p, hp, e⟩ | ⟨n, hn, e⟩
    · have := HB5.out.1.t
      rw [← e] at this
      have := this.symm.trans hbx
      injection this with this
      injection this with _ this
      exact absurd this (by decide)
    · have := (HB5.out.1.b.rg p hp).2
      rw [← e] at this
      have := this.symm.trans hbx
      injection this with this
      injection this with _ this
      exact absurd this (by decide)
    · have := (HB5.out.1.b.og n hn).2
      rw [← e] at this
      have := this.symm.trans hbx
      injection this with this
      injection this with _ this
      exact absurd this (by decide)
  have hb6 := (hs.ap.block W5.heap.size (by simp) hx6).trans hbx
  have q2 : W6.cell? ⟨W5.heap.size, 2, none⟩ = some (.int .i64 5) := by rw [Lib.cell_of_heap hb6]; rfl
  have hl6 : W5.heap.size < W6.heap.size := (Array.getElem?_eq_some_iff.1 hb6).1
  obtain ⟨⟨L6, e6, hF6⟩, hB6⟩ := Lt.step (s' := ls5) rfl HB5.out.1 HB5.out.2 hs
  rw [← e6]
  have hX6 := below_new W6 (.cells #[.int .u8 1, .int .i64 3, .int .i64 5] 32)
  have c7 := lst_ok w.heap.size L6 ls5 0 _ (hF6.below hX6) lh.2.2.2.2
  rw [lq7] at c7
  have HB6 : Hid3 (Below w.heap.size w (W6.alloc (.cells #[.int .u8 1, .int .i64 3, .int .i64 5] 32))) := ⟨hB6.trans (hX6.mono hB6.size)⟩
  clear c6 hs hF6 hB6 hX6 e6 HB5 hbx hb6 hx6
  go_wp2_with fail
  refine c7.mono ?_
  rintro r W7 ⟨v, rfl, hown, hb⟩
  obtain ⟨a, cap, rfl⟩ := slice_of hown
  have HB7 := Hid3.mk (HB6.out.trans (hb.mono HB6.out.size))
  clear c7 hown hb
  go_wp2
  go_ret
  exact ⟨rfl, HB7.out⟩
/-- A slice of deeds that can be read. -/
def Dds (w : World) (v : Value) (l : List Dd) : Prop := ∃ a cap, v = .slice a l.length cap ∧ (∀ d ∈ l, 0 ≤ d.o.k) ∧ ∀ (j : Nat) (d : Dd), l[j]? = some d → ∃ g off, a = some ⟨g, off, none⟩ ∧ w.cell? ⟨g, off + j * 7, none⟩ = some (.int .i64 d.k) ∧ w.cell? ⟨g, off + j * 7 + 1, none⟩ = some (.int .i64 d.p) ∧ w.cell? ⟨g, off + j * 7 + 2, none⟩ = some (.int .i64 d.q) ∧ w.cell? ⟨g, off + j * 7 + 3, none⟩ = some (.int .i64 d.n) ∧ w.cell? ⟨g, off + j * 7 + 4, none⟩ = some (.int .u8 d.o.k) ∧ w.cell? ⟨g, off + j * 7 + 5, none⟩ = some (.int .i64 d.o.r) ∧ w.cell? ⟨g, off + j * 7 + 6, none⟩ = some (.int .i64 d.o.p)
theorem Dds.below {w w' : World} {v : Value} {l : List Dd} (h : Dds w v l) (k : Below w.heap.size w w') : Dds w' v l := by
  obtain ⟨a, cap, rfl, h0, hcell⟩ := h
  refine ⟨a, cap, rfl, h0, fun j d hj => ?_⟩
  obtain ⟨g, off, rfl, c0, c1, c2, c3, c4, c5, c6⟩ := hcell j d hj
  have hb := k.block g (World.block_lt_of_cell? w _ c0)
  refine ⟨g, off, rfl, ?_, ?_, ?_, ?_, ?_, ?_, ?_⟩ <;> (rw [World.cell?_of_block (w := w) hb]; assumption)
/-- Both, whatever is in them, above a world. -/
structure Pb (w W : World) (tb b n : Nat) : Prop where
  ex : ∃ L s, L.t = tb ∧ Two w.heap.size W L b s ∧ s.all.length ≤ n
  bl : Below w.heap.size w W
theorem Pb.step {w W W' : World} {L : Lo} {s s' : Fs} {tb b n : Nat} (e : L.t = tb) (h : Two w.heap.size W L b s) (hb : Below w.heap.size w W) (k : Mv w.heap.size W W' L b s s') (hn : s'.all.length ≤ n) : Pb w W' tb b n :=
  ⟨k.out.elim fun L' hL => ⟨L', s', hL.1.trans e, hL.2.1, hn⟩, hb.trans (k.low h hb.size)⟩
theorem Pb.low {w W W' : World} {tb b n : Nat} (h : Pb w W tb b n) (k : Below W.heap.size W W') : Pb w W' tb b n := ⟨h.ex.elim fun L hL => hL.elim fun s hs => ⟨L, s, hs.1, hs.2.1.below k, hs.2.2⟩, h.bl.trans (k.mono h.bl.size)⟩
set_option maxHeartbeats 2000000 in
theorem play_any (v : Value) (l : List Dd) (w : World) (hd : Dds w v l) : Calls Try.prog 9 #[v] w fun e w' => ∃ tb b, e = .returned (.tuple #[.pointer (some ⟨tb, 0, none⟩), .pointer (some ⟨b, 0, none⟩), .bool true]) ∧ Pb w w' tb b 60 := by
  have cN := new_any w
  obtain ⟨ad, cap, rfl, hk0, hcell⟩ := id hd
  have HD := Hid3.mk hd
  have HK := Hid3.mk hk0
  clear hd hcell hk0
  go_enter Try.func9, Try.ntmps9
  go_wp2_with fail
  refine cN.mono ?_
  rintro e W0 ⟨rfl, ⟨L, eL, hO, _⟩, hB0⟩
  have cR := rnew_any W0
  go_wp2_with fail
  refine cR.mono ?_
  rintro e W1 ⟨rfl, hO2, hB1⟩
  have hT : Two w.heap.size W1 L W0.heap.size fs0 := ⟨hO.below hB1, ⟨Nat.le_trans hB0.size hO2.g, hO2.ex, hO2.ok⟩⟩
  have hBB : Below w.heap.size w W1 := hB0.trans (hB1.mono hB0.size)
  have c0 := do_any w.heap.size W0.heap.size L fs0 ⟨0, 0, 0, 0, op0⟩ W1 hT hBB.size (Nat.zero_le _) (by decide)
  have HT := Hid3.mk (And.intro hT hBB)
  have HE := Hid3.mk eL
  unfold ddV at c0
  rw [eL] at c0
  clear hO hO2 hB0 hB1 cN cR hT hBB eL
  generalize W0.heap.size = rb at *
  simp only [op0] at c0
  go_wp2_with fail
  refine c0.mono ?_
  rintro e W2 ⟨rfl, s', hM, hl1⟩
  have HP : Hid3 (Pb w W2 w.heap.size rb 1) := ⟨Pb.step HE.out HT.out.1 HT.out.2 hM hl1⟩
  clear c0 hM hl1 HT
  go_wp2_with fail
  go_loopw [7] (fun s7 wr => ∃ (i : Nat), i ≤ l.length ∧ i ≤ 50 ∧ s7 = .int .i64 i ∧ Hid3 (Pb w wr w.heap.size rb (i + 1))) (fun s7 _ => 50 - (intOf s7).toNat)
  case atStart => exact ⟨0, Nat.zero_le _, by omega, rfl, HP⟩
  case round =>
    obtain ⟨i, hil, hi6, rfl, HT1⟩ := hrel
    clear HP
    by_cases hlt : i < l.length
    · have hltz : (i : Int) < (l.length : Int) := by omega
      by_cases h60 : i < 50
      · have h60z : (i : Int) < 50 := by omega
        obtain ⟨_, _, e0, _, hc⟩ := HD.out.below HT1.out.bl
        injection e0 with e1 e2 e3
        obtain ⟨g, off, e4, c0, c1, c2, c3, c4, c5, c6⟩ := hc i l[i] (List.getElem?_eq_getElem hlt)
        rw [← e1] at e4
        subst e4
        obtain ⟨L1, s1, eL1, hTw, hl1⟩ := HT1.out.ex
        have hcall := do_any w.heap.size rb L1 s1 l[i] _ hTw HT1.out.bl.size (by omega) (HK.out _ (List.getElem_mem hlt))
        have HTw := Hid3.mk (And.intro eL1 (And.intro hTw hl1))
        unfold ddV at hcall
        rw [eL1] at hcall
        clear hc e1 e2 e3 hTw eL1 hl1
        generalize l[i] = d at *
        obtain ⟨d0, d1, d2, d3, d4, d5, d6⟩ := d
        simp only at c0 c1 c2 c3 c4 c5 c6 hcall
        go_wp2_with fail
        refine hcall.mono ?_
        rintro e W3 ⟨rfl, s2, hM, hl2⟩
        have HT2 : Hid3 (Pb w W3 w.heap.size rb (i + 1 + 1)) := ⟨Pb.step HTw.out.1 HTw.out.2.1 HT1.out.bl hM (by have := HTw.out.2.2; omega)⟩
        clear hM hcall c0 c1 c2 c3 c4 c5 c6 hl2 HTw
        go_wp2
        go_roundw
        case rel => exact ⟨i + 1, by omega, by omega, by go_num, HT2⟩
        case measure => simp [intOf]; omega
      · have h60z : ¬ (i : Int) < 50 := by omega
        have hi : i = 50 := by omega
        subst hi
        go_wp2
        go_ret3
        exact ⟨_, _, rfl, ⟨HT1.out.ex.elim fun L hL => hL.elim fun s hs => ⟨L, s, hs.1, hs.2.1, by have := hs.2.2; omega⟩, HT1.out.bl⟩⟩
    · have hltz : ¬ (i : Int) < (l.length : Int) := by omega
      go_wp2
      go_ret3
      exact ⟨_, _, rfl, ⟨HT1.out.ex.elim fun L hL => hL.elim fun s hs => ⟨L, s, hs.1, hs.2.1, by have := hs.2.2; omega⟩, HT1.out.bl⟩⟩
end Go.Proofs.Ytbkpkcndmlapfaa
