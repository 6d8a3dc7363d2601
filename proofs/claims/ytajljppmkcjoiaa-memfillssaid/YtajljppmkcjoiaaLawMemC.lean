/- MemFills: the walk. -/
import Derived.Test.YtajljppmkcjoiaaLawMemA
namespace Go.Proofs.Ytajljppmkcjoiaa
open Go.RowKit Go.Maps
set_option linter.unusedVariables false
set_option maxRecDepth 100000
theorem Byts.len {B : Nat} {w : World} {v : Value} {bs : List Int} (h : Byts B w v bs) : ∃ a cap, v = .slice a bs.length cap := by
  obtain ⟨a, cap, e, _⟩ := h
  exact ⟨a, cap, e⟩
theorem Byts.at_ {B : Nat} {w : World} {a : Option Addr} {n cap : Nat} {bs : List Int} (h : Byts B w (.slice a n cap) bs) (i : Nat) (hi : i < bs.length) : ∃ g off, a = some ⟨g, off, none⟩ ∧ w.cell? ⟨g, off + i, none⟩ = some (.int .u8 bs[i]) := by
  obtain ⟨a2, cap2, e, _, _, hc⟩ := h
  injection e with e1 e2 e3
  obtain ⟨g, off, e4, _, c⟩ := hc i bs[i] (List.getElem?_eq_getElem hi)
  exact ⟨g, off, e1.trans e4, c⟩
set_option maxHeartbeats 8000000 in
theorem fills_no (sv : Value) (l : List Dm) (v u : Value) (vs : List Int) (p0 p1 F O : Int) (w : World) (hd : Dds w.heap.size w sv l) (cW : ∀ W, Calls Try.prog 18 #[v] W fun e w' => e = .returned u ∧ w' = W) (hu : Byts w.heap.size w u vs) (h0 : 0 ≤ p0 ∧ p0 ≤ 255) (h1 : 0 ≤ p1 ∧ p1 ≤ 255) (hF : p0 % 6 = F) (hO : p1 % 32 = O) (f0 : 0 ≤ F) (f1 : F < 6) (o0 : 0 ≤ O) (o1 : O < 32) (hs : vs.length ≤ 200) (q : (6 - F) * 32 - O < (vs.length : Int)) : Calls Try.prog 6 #[sv, .agg #[.int .u8 p0, .int .u8 p1], v] w fun e w' => e = .returned (.bool true) ∧ Below w.heap.size w w' := by
  have hw0 : Below w.heap.size w (w.alloc (.cells #[.int .u8 p0, .int .u8 p1] 42)) := (Below.refl _ w).alloc (Nat.le_refl _) _
  have cP := play_any 5 6 sv l (w.alloc (.cells #[.int .u8 p0, .int .u8 p1] 42)) (hd.grow hw0.size hw0) (by decide) (by decide) (by decide) (by decide)
  have hbx : Hid3 ((w.alloc (.cells #[.int .u8 p0, .int .u8 p1] 42)).heap[w.heap.size]? = some (.cells #[.int .u8 p0, .int .u8 p1] 42)) := ⟨heap_alloc_last w _⟩
  have HW0 : Hid3 (Below w.heap.size w (w.alloc (.cells #[.int .u8 p0, .int .u8 p1] 42))) := ⟨hw0⟩
  have HU0 : Hid3 (Byts w.heap.size (w.alloc (.cells #[.int .u8 p0, .int .u8 p1] 42)) u vs) := ⟨hu.below hw0⟩
  have HS0 : Hid3 ((w.alloc (.cells #[.int .u8 p0, .int .u8 p1] 42)).heap.size = w.heap.size + 1) := ⟨by simp⟩
  obtain ⟨ua, ucap, rfl⟩ := hu.len
  clear hd hw0 hu
  generalize playL (6 : Nat) (l.take 30) zeroL = L at *
  go_enter Try.func6, Try.ntmps6
  go_wp2_with fail
  refine cP.mono ?_
  rintro e W1 ⟨b, rb, g, rfl, hT, hB1⟩
  have cL := mlive_any W1
  clear cP
  go_wp2_with fail
  refine cL.mono ?_
  rintro e W2 ⟨rfl, hB2⟩
  clear cL
  have hs1 := hB1.size
  have hs2 := hB2.size
  have HS := HS0.out
  have HM2 : Hid3 (Mem W2 b 6 L) := ⟨hT.p.below hB2⟩
  have hbb : w.heap.size + 1 ≤ b := by have := hT.bB; omega
  have hy2 := (hB2.block w.heap.size (by omega)).trans ((hB1.block w.heap.size (by omega)).trans hbx.out)
  have HW2 : Hid3 (Below w.heap.size w W2) := ⟨(HW0.out.trans (hB1.mono HW0.out.size)).trans (hB2.mono (Nat.le_trans HW0.out.size hB1.size))⟩
  have HU2 : Hid3 (Byts w.heap.size W2 (.slice ua vs.length ucap) vs) := ⟨(HU0.out.below (hB1.mono (by omega))).below (hB2.mono (by omega))⟩
  have cS := fun W L (h : Mem W b 6 L) => size_ok b 6 L W h
  clear hT hB1 hB2 hbx HW0 HU0 HS0 HS hs1 hs2
  obtain ⟨z0, z1⟩ := b2m hy2
  clear hy2
  go_wp2_with fail
  refine (cW _).mono ?_
  rintro e W3 ⟨rfl, rfl⟩
  go_wp2_with fail
  have cSn := fun n => size_ok b 6 L (W3.drewN n) (HM2.out.below (Below.drewN (Below.refl _ W3) n))
  go_quiet ((go_at_call 16; exact Calls.quiet_of_same (cSn _)))
  rw [hF, hO]
  have HMd : Hid3 (Mem (W3.drewN nq) b 6 L) := ⟨HM2.out.below (Below.drewN (Below.refl _ W3) nq)⟩
  have HWd : Hid3 (Below w.heap.size w (W3.drewN nq)) := ⟨Below.drewN HW2.out nq⟩
  have HUd : Hid3 (Byts w.heap.size (W3.drewN nq) (.slice ua vs.length ucap) vs) := ⟨HU2.out.below (Below.drewN (Below.refl _ W3) nq)⟩
  clear cSn HM2 HW2 HU2 z0 z1
  generalize W3.drewN nq = WD at *
  have c2 := fill_any w.heap.size b 6 F O L vs (.slice ua vs.length ucap) WD HMd.out HUd.out (by omega) (by omega)
  have hin : inB 6 F O 1 = true := decide_eq_true ⟨f0, f1, o0, by omega⟩
  have hB : flB 6 F O vs.length = false := by unfold flB; rw [hin, decide_eq_false (by omega)]; rfl
  rw [show flE 6 F O vs.length = 2 by unfold flE; rw [hB]; rfl, show flL 6 L F O vs = L by unfold flL; rw [hB]; rfl] at c2
  clear hB hin
  go_wp2_with fail
  refine c2.mono ?_
  rintro e W4 ⟨rfl, hM4, hO4⟩
  have c3 := size_ok b 6 L W4 hM4
  have HW4 : Hid3 (Below w.heap.size w W4) := ⟨HWd.out.trans (hO4.below w.heap.size (by omega) HWd.out.size)⟩
  clear c2
  go_wp2_with fail
  refine c3.mono ?_
  rintro e W5 ⟨rfl, rfl⟩
  clear c3
  go_wp2
  go_ret
  exact ⟨rfl, HW4.out⟩
set_option maxHeartbeats 8000000 in
theorem fills_yes (sv : Value) (l : List Dm) (v u : Value) (vs : List Int) (p0 p1 F O : Int) (w : World) (hd : Dds w.heap.size w sv l) (cW : ∀ W, Calls Try.prog 18 #[v] W fun e w' => e = .returned u ∧ w' = W) (hu : Byts w.heap.size w u vs) (h0 : 0 ≤ p0 ∧ p0 ≤ 255) (h1 : 0 ≤ p1 ∧ p1 ≤ 255) (hF : p0 % 6 = F) (hO : p1 % 32 = O) (f0 : 0 ≤ F) (f1 : F < 6) (o0 : 0 ≤ O) (o1 : O < 32) (hs : vs.length ≤ 200) (q : (vs.length : Int) ≤ (6 - F) * 32 - O) : Calls Try.prog 6 #[sv, .agg #[.int .u8 p0, .int .u8 p1], v] w fun e w' => e = .returned (.bool true) ∧ Below w.heap.size w w' := by
  have hw0 : Below w.heap.size w (w.alloc (.cells #[.int .u8 p0, .int .u8 p1] 42)) := (Below.refl _ w).alloc (Nat.le_refl _) _
  have cP := play_any 5 6 sv l (w.alloc (.cells #[.int .u8 p0, .int .u8 p1] 42)) (hd.grow hw0.size hw0) (by decide) (by decide) (by decide) (by decide)
  have hbx : Hid3 ((w.alloc (.cells #[.int .u8 p0, .int .u8 p1] 42)).heap[w.heap.size]? = some (.cells #[.int .u8 p0, .int .u8 p1] 42)) := ⟨heap_alloc_last w _⟩
  have HW0 : Hid3 (Below w.heap.size w (w.alloc (.cells #[.int .u8 p0, .int .u8 p1] 42))) := ⟨hw0⟩
  have HU0 : Hid3 (Byts w.heap.size (w.alloc (.cells #[.int .u8 p0, .int .u8 p1] 42)) u vs) := ⟨hu.below hw0⟩
  have HS0 : Hid3 ((w.alloc (.cells #[.int .u8 p0, .int .u8 p1] 42)).heap.size = w.heap.size + 1) := ⟨by simp⟩
  obtain ⟨ua, ucap, rfl⟩ := hu.len
  clear hd hw0 hu
  generalize playL (6 : Nat) (l.take 30) zeroL = L at *
  go_enter Try.func6, Try.ntmps6
  go_wp2_with fail
  refine cP.mono ?_
  rintro e W1 ⟨b, rb, g, rfl, hT, hB1⟩
  have cL := mlive_any W1
  clear cP
  go_wp2_with fail
  refine cL.mono ?_
  rintro e W2 ⟨rfl, hB2⟩
  clear cL
  have hs1 := hB1.size
  have hs2 := hB2.size
  have HS := HS0.out
  have HM2 : Hid3 (Mem W2 b 6 L) := ⟨hT.p.below hB2⟩
  have hbb : w.heap.size + 1 ≤ b := by have := hT.bB; omega
  have hy2 := (hB2.block w.heap.size (by omega)).trans ((hB1.block w.heap.size (by omega)).trans hbx.out)
  have HW2 : Hid3 (Below w.heap.size w W2) := ⟨(HW0.out.trans (hB1.mono HW0.out.size)).trans (hB2.mono (Nat.le_trans HW0.out.size hB1.size))⟩
  have HU2 : Hid3 (Byts w.heap.size W2 (.slice ua vs.length ucap) vs) := ⟨(HU0.out.below (hB1.mono (by omega))).below (hB2.mono (by omega))⟩
  have cS := fun W L (h : Mem W b 6 L) => size_ok b 6 L W h
  clear hT hB1 hB2 hbx HW0 HU0 HS0 HS hs1 hs2
  obtain ⟨z0, z1⟩ := b2m hy2
  clear hy2
  go_wp2_with fail
  refine (cW _).mono ?_
  rintro e W3 ⟨rfl, rfl⟩
  go_wp2_with fail
  have cSn := fun n => size_ok b 6 L (W3.drewN n) (HM2.out.below (Below.drewN (Below.refl _ W3) n))
  go_quiet ((go_at_call 16; exact Calls.quiet_of_same (cSn _)))
  rw [hF, hO]
  have HMd : Hid3 (Mem (W3.drewN nq) b 6 L) := ⟨HM2.out.below (Below.drewN (Below.refl _ W3) nq)⟩
  have HWd : Hid3 (Below w.heap.size w (W3.drewN nq)) := ⟨Below.drewN HW2.out nq⟩
  have HUd : Hid3 (Byts w.heap.size (W3.drewN nq) (.slice ua vs.length ucap) vs) := ⟨HU2.out.below (Below.drewN (Below.refl _ W3) nq)⟩
  clear cSn HM2 HW2 HU2 z0 z1
  generalize W3.drewN nq = WD at *
  have c2 := fill_any w.heap.size b 6 F O L vs (.slice ua vs.length ucap) WD HMd.out HUd.out (by omega) (by omega)
  have hin : inB 6 F O 1 = true := decide_eq_true ⟨f0, f1, o0, by omega⟩
  have hB : flB 6 F O vs.length = true := by unfold flB; rw [hin, decide_eq_true q]; rfl
  rw [show flE 6 F O vs.length = 0 by unfold flE; rw [hB]; rfl, show flL 6 L F O vs = putL L (plc F O) vs by unfold flL; rw [hB]; rfl] at c2
  clear hB hin
  go_wp2_with fail
  refine c2.mono ?_
  rintro e W4 ⟨rfl, hM4, hO4⟩
  have HW4 : Hid3 (Below w.heap.size w W4) := ⟨HWd.out.trans (hO4.below w.heap.size (by omega) HWd.out.size)⟩
  have HU4 : Hid3 (Byts w.heap.size W4 (.slice ua vs.length ucap) vs) := ⟨HUd.out.only hO4 (by omega)⟩
  have hpl : Hid3 (plc F O + vs.length ≤ L.length) := ⟨by rw [HMd.out.len]; unfold plc; omega⟩
  have HM4 : Hid3 (Mem W4 b 6 (putL L (plc F O) vs)) := ⟨hM4⟩
  clear c2 hM4 hO4 cW HUd
  go_wp2
  go_loopw [12] (fun s12 wr => ∃ i : Nat, i ≤ vs.length ∧ s12 = .int .i64 i ∧ wr = W4) (fun s12 _ => vs.length - (intOf s12).toNat)
  case atStart => exact ⟨0, Nat.zero_le _, rfl, rfl⟩
  case round =>
    obtain ⟨i, hi, rfl, rfl⟩ := hrel
    by_cases hlt : i < vs.length
    · have hltz : (i : Int) < (vs.length : Int) := by omega
      obtain ⟨Q, hQ⟩ : ∃ Q, (O + (i : Int)) / 32 = Q := ⟨_, rfl⟩
      obtain ⟨R, hR⟩ : ∃ R, (O + (i : Int)) % 32 = R := ⟨_, rfl⟩
      have hQ0 : 0 ≤ Q ∧ Q ≤ 300 := by omega
      have hR0 : 0 ≤ R ∧ R < 32 := by omega
      have hQt : (O + (i : Int)).tdiv 32 = Q := by rw [Int.tdiv_eq_ediv_of_nonneg (by omega)]; exact hQ
      have hRt : (O + (i : Int)).tmod 32 = R := by rw [Int.tmod_eq_emod_of_nonneg (by omega)]; exact hR
      have hG : F + Q < 6 := by omega
      have hin2 : inB 6 (F + Q) R 1 = true := decide_eq_true ⟨by omega, hG, hR0.1, by omega⟩
      have c3 := byte_any b 6 (F + Q) R _ wr HM4.out
      have ep : plc (F + Q) R = plc F O + i := by unfold plc; omega
      rw [if_pos hin2, show inE 6 (F + Q) R 1 = 0 by unfold inE; rw [if_pos hin2], ep, putL_in hpl.out hlt, List.getD_eq_getElem?_getD, List.getElem?_eq_getElem hlt, Option.getD_some] at c3
      obtain ⟨sg, off, rfl, hy⟩ := HU4.out.at_ i hlt
      generalize vs[i] = Y at *
      clear ep hin2
      go_wp2_with fail
      refine c3.mono ?_
      rintro e W5 ⟨rfl, rfl⟩
      clear c3
      go_wp2
      go_roundw
      case rel => exact ⟨i + 1, by omega, by go_num, trivial⟩
      case measure => simp [intOf]; omega
    · have hltz : ¬ (i : Int) < (vs.length : Int) := by omega
      have c3 := size_ok b 6 _ wr HM4.out
      go_wp2_with fail
      refine c3.mono ?_
      rintro e W5 ⟨rfl, rfl⟩
      clear c3
      go_wp2
      go_ret
      exact ⟨rfl, HW4.out⟩
theorem fills_law (sv : Value) (l : List Dm) (p0 p1 : Int) (v : Value) (bs : List Int) (w : World) (hd : Dds w.heap.size w sv l) (hv : Byts w.heap.size w v bs) (hs : bs.length ≤ 9223372036854775807) (h0 : 0 ≤ p0 ∧ p0 ≤ 255) (h1 : 0 ≤ p1 ∧ p1 ≤ 255) : Calls Try.prog 6 #[sv, .agg #[.int .u8 p0, .int .u8 p1], v] w fun e w' => e = .returned (.bool true) ∧ Below w.heap.size w w' := by
  obtain ⟨u, hu, cW⟩ := hv.few hs
  have hl : (bs.take 200).length ≤ 200 := by rw [List.length_take]; omega
  by_cases q : ((bs.take 200).length : Int) ≤ (6 - p0 % 6) * 32 - p1 % 32
  · exact fills_yes sv l v u _ p0 p1 _ _ w hd cW hu h0 h1 rfl rfl (by omega) (by omega) (by omega) (by omega) hl q
  · exact fills_no sv l v u _ p0 p1 _ _ w hd cW hu h0 h1 rfl rfl (by omega) (by omega) (by omega) (by omega) hl (by omega)
end Go.Proofs.Ytajljppmkcjoiaa
