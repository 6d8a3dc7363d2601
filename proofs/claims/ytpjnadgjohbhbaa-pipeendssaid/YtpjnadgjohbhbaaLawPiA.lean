/- PipeEnds, PipeForks: the walks. -/
import Derived.Test.YtpjnadgjohbhbaaPiU
namespace Go.Proofs.Ytpjnadgjohbhbaa
open Go.RowKit Go.Maps
set_option linter.unusedVariables false
set_option maxRecDepth 100000
/-- A pipe above a world, and the world below as it was. -/
structure Po (w W : World) (b : Nat) (T : List UInt8) (rd wr : Nat) : Prop where
  p : Pp w.heap.size W b T rd wr
  bl : Below w.heap.size w W
theorem Po.step {w W W' : World} {b : Nat} {T T' : List UInt8} {rd wr rd' wr' : Nat} (h : Po w W b T rd wr) (k : PStp w.heap.size W W' b T' rd' wr') : Po w W' b T' rd' wr' := ⟨k.p, h.bl.trans (k.below (w := w) h.bl.size)⟩
theorem Po.low {w W W' : World} {b : Nat} {T : List UInt8} {rd wr : Nat} (h : Po w W b T rd wr) (k : Below W.heap.size W W') : Po w W' b T rd wr := ⟨h.p.below k, h.bl.trans (k.mono h.bl.size)⟩
def cntAt (W : World) (b j : Nat) : Nat := match W.cell? ⟨b, j, none⟩ with
  | some (.int _ x) => x.toNat
  | _ => 0
theorem cntAt_26 {B : Nat} {W : World} {b : Nat} {T : List UInt8} {rd wr : Nat} (h : Pp B W b T rd wr) : cntAt W b 26 = rd := by
  obtain ⟨f, hc⟩ := h.cells
  unfold cntAt
  rw [hc.c26]
  simp
theorem cntAt_27 {B : Nat} {W : World} {b : Nat} {T : List UInt8} {rd wr : Nat} (h : Pp B W b T rd wr) : cntAt W b 27 = wr := by
  obtain ⟨f, hc⟩ := h.cells
  unfold cntAt
  rw [hc.c27]
  simp
set_option maxHeartbeats 4000000 in
theorem ends_law (v : Value) (l : List Dd) (w : World) (hd : Dds w v l) : Calls Try.prog 6 #[v] w fun r w' => r = .returned (.bool true) ∧ Below w.heap.size w w' := by
  have cP := play_any v l w hd
  obtain ⟨ad, cap, rfl, _⟩ := id hd
  clear hd
  go_enter Try.func6, Try.ntmps6
  go_wp2_with fail
  refine cP.mono ?_
  rintro r W1 ⟨b, rb, rfl, hBo⟩
  have HB := Hid3.mk hBo
  have cL := live_any W1
  clear cP hBo
  go_wp2_with fail
  refine cL.mono ?_
  rintro r W2 ⟨rfl, hb⟩
  obtain ⟨T, rd, wn, hT⟩ := HB.out.ex
  have HP : Hid3 (Po w W2 b T rd wn) := ⟨⟨hT.p.below hb, HB.out.bl.trans (hb.mono HB.out.bl.size)⟩⟩
  have hwn := hT.p.hw
  have hrd := hT.p.hr
  have hTl := hT.p.len
  clear cL hb hT HB
  go_wp2_with fail
  go_loopw [] (fun wq => ∃ k : Nat, k ≤ 100 ∧ Hid3 (Po w wq b T rd k)) (fun wq => cntAt wq b 27)
  case atStart => exact ⟨wn, hwn, HP⟩
  case round =>
    obtain ⟨k, hk, HQ⟩ := hrel
    clear HP
    have cC := count_any _ b T rd k true _ HQ.out.p
    rw [show cnt true rd k = k from rfl] at cC
    by_cases hz : k = 0
    · subst hz
      go_wp2_with fail
      refine cC.mono ?_
      rintro r W6 ⟨rfl, hW⟩
      rw [hW]
      clear cC hW
      have c1 := text_any _ b T rd 0 _ HQ.out.p
      go_wp2_with fail
      refine c1.mono ?_
      rintro r W7 ⟨rfl, hb⟩
      have HQ2 : Hid3 (Po w W7 b T rd 0) := ⟨HQ.out.low hb⟩
      have c2 := read_any _ b T rd 0 24 _ HQ2.out.p
      rw [show rdE T.length 0 24 = 0 by simp [rdE], show List.take (24 : Int).toNat T = T from List.take_of_length_le hTl, show List.drop (24 : Int).toNat T = [] from List.drop_of_length_le hTl] at c2
      clear c1 hb HQ
      go_wp2_with fail
      refine c2.mono ?_
      rintro r W8 ⟨rfl, hS⟩
      have HQ3 : Hid3 (Po w W8 b [] rd 0) := ⟨HQ2.out.step hS⟩
      have c3 := read_any _ b [] rd 0 5 _ HQ3.out.p
      rw [show rdE ([] : List UInt8).length 0 5 = 0 by simp [rdE], show List.take (5 : Int).toNat ([] : List UInt8) = [] from rfl, show List.drop (5 : Int).toNat ([] : List UInt8) = [] from rfl] at c3
      clear c2 hS HQ2
      go_wp2_with fail
      refine c3.mono ?_
      rintro r W9 ⟨rfl, hS⟩
      have HP : Hid3 (Po w W9 b [] rd 0) := ⟨HQ3.out.step hS⟩
      have hTT : (T == T) = true := by simp
      clear c3 hS HQ3 hwn
      go_wp2_with fail
      go_loopw [] (fun wq => ∃ k : Nat, k ≤ 100 ∧ Hid3 (Po w wq b [] k 0)) (fun wq => cntAt wq b 26)
      case atStart => exact ⟨rd, hrd, HP⟩
      case round =>
        obtain ⟨k, hk, HQ⟩ := hrel
        clear HP
        have cC := count_any _ b [] k 0 false _ HQ.out.p
        rw [show cnt false k 0 = k from rfl] at cC
        by_cases hz : k = 0
        · subst hz
          go_wp2_with fail
          refine cC.mono ?_
          rintro r W6 ⟨rfl, hW⟩
          rw [hW]
          clear cC hW
          have c1 := write_any _ b [] 0 0 [120] (by decide) _ HQ.out.p
          rw [show wrN ([] : List UInt8).length 0 ([120] : List UInt8).length = 0 from rfl, show wrE ([] : List UInt8).length 0 ([120] : List UInt8).length = 9 from rfl, show ([] : List UInt8) ++ List.take 0 [120] = [] from rfl] at c1
          go_wp2_with fail
          refine c1.mono ?_
          rintro r W7 ⟨rfl, hS⟩
          have HQ2 : Hid3 (Po w W7 b [] 0 0) := ⟨HQ.out.step hS⟩
          have c2 := close_any _ b [] 0 0 true _ HQ2.out.p
          rw [show closeE (cnt true 0 0) = 9 from rfl, show setR true 0 (cnt true 0 0 - 1) = 0 from rfl, show setW true 0 (cnt true 0 0 - 1) = 0 from rfl] at c2
          clear c1 hS HQ
          go_wp2_with fail
          refine c2.mono ?_
          rintro r W8 ⟨rfl, hS⟩
          have HQ3 : Hid3 (Po w W8 b [] 0 0) := ⟨HQ2.out.step hS⟩
          clear c2 hS HQ2
          go_wp2
          go_ret
          exact ⟨rfl, HQ3.out.bl⟩
        · have hkz : (0 : Int) < (k : Int) := by omega
          have cX := close_any _ b [] k 0 false _ HQ.out.p
          rw [show closeE (cnt false k 0) = 0 from if_neg hz, show setR false k (cnt false k 0 - 1) = k - 1 from rfl, show setW false 0 (cnt false k 0 - 1) = 0 from rfl] at cX
          go_wp2_with fail
          refine cC.mono ?_
          rintro r W6 ⟨rfl, hW⟩
          rw [hW]
          clear cC hW
          go_wp2_with fail
          refine cX.mono ?_
          rintro r W7 ⟨rfl, hS⟩
          have HM : Hid3 (cntAt W7 b 26 < cntAt wr b 26) := ⟨by rw [cntAt_26 hS.p, cntAt_26 HQ.out.p]; omega⟩
          have HQ2 : Hid3 (Po w W7 b [] (k - 1) 0) := ⟨HQ.out.step hS⟩
          clear cX hS
          go_wp2
          go_roundw
          case rel => exact ⟨k - 1, by omega, HQ2⟩
          case measure => exact HM.out
    · have hkz : (0 : Int) < (k : Int) := by omega
      have cX := close_any _ b T rd k true _ HQ.out.p
      rw [show closeE (cnt true rd k) = 0 from if_neg hz, show setR true rd (cnt true rd k - 1) = rd from rfl, show setW true k (cnt true rd k - 1) = k - 1 from rfl] at cX
      go_wp2_with fail
      refine cC.mono ?_
      rintro r W6 ⟨rfl, hW⟩
      rw [hW]
      clear cC hW
      go_wp2_with fail
      refine cX.mono ?_
      rintro r W7 ⟨rfl, hS⟩
      have HM : Hid3 (cntAt W7 b 27 < cntAt wr b 27) := ⟨by rw [cntAt_27 hS.p, cntAt_27 HQ.out.p]; omega⟩
      have HQ2 : Hid3 (Po w W7 b T rd (k - 1)) := ⟨HQ.out.step hS⟩
      clear cX hS
      go_wp2
      go_roundw
      case rel => exact ⟨k - 1, by omega, HQ2⟩
      case measure => exact HM.out
/-- Both pairs of pipes. -/
structure Fk (w W : World) (b rb fb gb : Nat) (T : List UInt8) (rd wr : Nat) : Prop where
  a : Two w.heap.size W b rb T rd wr
  f : ∃ T' rd' wr', Two w.heap.size W fb gb T' rd' wr'
  n1 : b ≠ fb
  n2 : rb ≠ gb
  bl : Below w.heap.size w W
theorem Two.cross {B B' : Nat} {w : World} {b rb fb gb : Nat} {T T' : List UInt8} {rd wr rd' wr' : Nat} (h : Two B w b rb T rd wr) (k : Two B' w fb gb T' rd' wr') : b ≠ gb := by
  obtain ⟨C, f, h1, h2⟩ := h.p.ex
  exact h1.ne k.r.c (by decide)
theorem Fk.step {w W W' : World} {b rb fb gb : Nat} {T : List UInt8} {rd wr : Nat} (h : Fk w W b rb fb gb T rd wr) {T' : List UInt8} {rd' wr' : Nat} (k : Mv w.heap.size W W' fb gb T' rd' wr') : Fk w W' b rb fb gb T rd wr := by
  obtain ⟨T1, r1, w1, hf⟩ := h.f
  exact ⟨h.a.stay k.ap (fun e => e.elim h.n1 (h.a.cross hf)) (fun e => e.elim (fun e => hf.cross h.a e.symm) h.n2), ⟨_, _, _, k.two⟩, h.n1, h.n2, h.bl.trans (k.below h.bl.size)⟩
set_option maxHeartbeats 4000000 in
theorem forks_law (v u : Value) (l m : List Dd) (w : World) (hd : Dds w v l) (hm : Dds w u m) : Calls Try.prog 7 #[v, u] w fun r w' => r = .returned (.bool true) ∧ Below w.heap.size w w' := by
  have cP := play_any v l w hd
  obtain ⟨ad, cap, rfl, _⟩ := id hd
  obtain ⟨ae, cae, rfl, _⟩ := id hm
  have HD := Hid3.mk hm
  clear hd hm
  go_enter Try.func7, Try.ntmps7
  go_wp2_with fail
  refine cP.mono ?_
  rintro r W1 ⟨b, rb, rfl, hBo⟩
  have HB := Hid3.mk hBo
  have cL := live_any W1
  clear cP hBo
  go_wp2_with fail
  refine cL.mono ?_
  rintro r W2 ⟨rfl, hb⟩
  obtain ⟨T, rd, wn, hT⟩ := HB.out.ex
  have HT := Hid3.mk (hT.below hb)
  have HL := Hid3.mk (HB.out.bl.trans (hb.mono HB.out.bl.size))
  have cF := fork_any _ b T rd wn W2 HT.out.p HL.out.size
  clear cL hb hT HB
  go_wp2_with fail
  refine cF.mono ?_
  rintro r W3 ⟨rfl, hP3, hb⟩
  have HT3 := Hid3.mk (HT.out.below hb)
  have HP3 := Hid3.mk hP3
  have HL3 := Hid3.mk (HL.out.trans (hb.mono HL.out.size))
  have hl1 := HT.out.p.lt
  have hl2 := HT.out.r.lt
  have hs3 := hb.size
  have cG := rfork_any _ rb T rd wn W3 HT3.out.r HL3.out.size
  clear cF hb hP3 HT
  go_wp2_with fail
  refine cG.mono ?_
  rintro r W4 ⟨rfl, hR4, hb⟩
  have HK : Hid3 (Fk w W4 b rb W2.heap.size W3.heap.size T rd wn) := ⟨⟨HT3.out.below hb, ⟨_, _, _, HP3.out.below hb, hR4⟩, by omega, by omega, HL3.out.trans (hb.mono HL3.out.size)⟩⟩
  clear cG hb hR4 HL3 HT3 HP3 HL hl1 hl2 hs3
  generalize W2.heap.size = fb at *
  generalize W3.heap.size = gb at *
  go_wp2_with fail
  go_loopw [10] (fun s7 wq => ∃ (i : Nat), i ≤ m.length ∧ i ≤ 14 ∧ s7 = .int .i64 i ∧ Hid3 (Fk w wq b rb fb gb T rd wn)) (fun s7 _ => 14 - (intOf s7).toNat)
  case atStart => exact ⟨0, Nat.zero_le _, by omega, rfl, HK⟩
  case round =>
    obtain ⟨i, hil, hi6, rfl, HT1⟩ := hrel
    clear HK
    by_cases hlt : i < m.length
    · have hltz : (i : Int) < (m.length : Int) := by omega
      by_cases h60 : i < 14
      · have h60z : (i : Int) < 14 := by omega
        obtain ⟨_, _, e0, hc⟩ := HD.out.below HT1.out.bl
        injection e0 with e1 e2 e3
        obtain ⟨g, off, e4, c0, c1, c2, c3⟩ := hc i m[i] (List.getElem?_eq_getElem hlt)
        rw [← e1] at e4
        subst e4
        obtain ⟨T1, rd1, wr1, hTw⟩ := HT1.out.f
        have hcall := do_any w.heap.size fb gb T1 rd1 wr1 m[i] _ hTw
        unfold ddV at hcall
        clear hc e1 e2 e3 hTw
        generalize m[i] = d at *
        obtain ⟨d0, d1, d2, d3⟩ := d
        simp only at c0 c1 c2 c3 hcall
        go_wp2_with fail
        refine hcall.mono ?_
        rintro e W2 ⟨rfl, T', rd', wr2, hM⟩
        have HT2 : Hid3 (Fk w W2 b rb fb gb T rd wn) := ⟨HT1.out.step hM⟩
        clear hM hcall c0 c1 c2 c3
        go_wp2
        go_roundw
        case rel => exact ⟨i + 1, by omega, by omega, by go_num, HT2⟩
        case measure => simp [intOf]; omega
      · have h60z : ¬ (i : Int) < 14 := by omega
        have hi : i = 14 := by omega
        subst hi
        have c1 := same_any _ b rb T rd wn _ HT1.out.a
        go_wp2_with fail
        refine c1.mono ?_
        rintro r W6 ⟨rfl, hb⟩
        obtain ⟨T1, rd1, wr1, hTw⟩ := HT1.out.f
        have c2 := same_any _ fb gb T1 rd1 wr1 _ (hTw.below hb)
        have HL := Hid3.mk (HT1.out.bl.trans (hb.mono HT1.out.bl.size))
        clear c1 hb hTw
        go_wp2_with fail
        refine c2.mono ?_
        rintro r W7 ⟨rfl, hb⟩
        have HL2 := Hid3.mk (HL.out.trans (hb.mono HL.out.size))
        clear c2 hb
        go_wp2
        go_ret
        exact ⟨rfl, HL2.out⟩
    · have hltz : ¬ (i : Int) < (m.length : Int) := by omega
      have c1 := same_any _ b rb T rd wn _ HT1.out.a
      go_wp2_with fail
      refine c1.mono ?_
      rintro r W6 ⟨rfl, hb⟩
      obtain ⟨T1, rd1, wr1, hTw⟩ := HT1.out.f
      have c2 := same_any _ fb gb T1 rd1 wr1 _ (hTw.below hb)
      have HL := Hid3.mk (HT1.out.bl.trans (hb.mono HT1.out.bl.size))
      clear c1 hb hTw
      go_wp2_with fail
      refine c2.mono ?_
      rintro r W7 ⟨rfl, hb⟩
      have HL2 := Hid3.mk (HL.out.trans (hb.mono HL.out.size))
      clear c2 hb
      go_wp2
      go_ret
      exact ⟨rfl, HL2.out⟩
end Go.Proofs.Ytpjnadgjohbhbaa
