/- MemPlays, MemForks: the walks. -/
import Derived.Test.YtajljppmkcjoiaaMemO
namespace Go.Proofs.Ytajljppmkcjoiaa
open Go.RowKit Go.Maps
set_option linter.unusedVariables false
set_option maxRecDepth 100000
set_option maxHeartbeats 4000000 in
theorem plays_law (fr : Int) (v : Value) (l : List Dm) (w : World) (hd : Dds w.heap.size w v l) (hf : 0 ≤ fr ∧ fr ≤ 255) : Calls Try.prog 3 #[.int .u8 fr, v] w fun e w' => e = .returned (.bool true) ∧ Below w.heap.size w w' := by
  obtain ⟨N, hN⟩ : ∃ N : Nat, fr % 6 + 1 = (N : Int) := ⟨(fr % 6 + 1).toNat, by omega⟩
  have cP := play_any fr N v l w hd hN (by omega) (by omega) hf
  clear hd
  generalize playL N (l.take 30) zeroL = L at *
  go_enter Try.func3, Try.ntmps3
  go_wp2_with fail
  refine cP.mono ?_
  rintro e W1 ⟨b, rb, g, rfl, hT, hB1⟩
  have cL := mlive_any W1
  clear cP
  go_wp2_with fail
  refine cL.mono ?_
  rintro e W2 ⟨rfl, hB2⟩
  clear cL
  have hB := hB1.trans (hB2.mono hB1.size)
  have cS := same_any _ b rb g N L W2 (hT.below hB2)
  clear hT hB1 hB2
  go_wp2_with fail
  refine cS.mono ?_
  rintro e W3 ⟨rfl, hB3⟩
  clear cS
  go_wp2
  go_ret
  exact ⟨rfl, hB.trans (hB3.mono hB.size)⟩
set_option maxHeartbeats 8000000 in
theorem forks_law (fr : Int) (v : Value) (l : List Dm) (v2 : Value) (l2 : List Dm) (w : World) (hd : Dds w.heap.size w v l) (hd2 : Dds w.heap.size w v2 l2) (hf : 0 ≤ fr ∧ fr ≤ 255) : Calls Try.prog 8 #[.int .u8 fr, v, v2] w fun e w' => e = .returned (.bool true) ∧ Below w.heap.size w w' := by
  obtain ⟨N, hN⟩ : ∃ N : Nat, fr % 6 + 1 = (N : Int) := ⟨(fr % 6 + 1).toNat, by omega⟩
  have hN1 : 1 ≤ N := by omega
  have cP := play_any fr N v l w hd hN (by omega) (by omega) hf
  generalize playL N (l.take 30) zeroL = L at *
  obtain ⟨ad, cap, rfl, hll, hcell⟩ := id hd2
  have HD : Hid3 (Dds w.heap.size w (.slice ad l2.length cap) l2) := ⟨hd2⟩
  clear hd hd2 hcell hN
  go_enter Try.func8, Try.ntmps8
  go_wp2_with fail
  refine cP.mono ?_
  rintro e W1 ⟨b, rb, g, rfl, hT, hB1⟩
  have cL := mlive_any W1
  clear cP
  go_wp2_with fail
  refine cL.mono ?_
  rintro e W2 ⟨rfl, hB2⟩
  clear cL
  have HB2 : Hid3 (Below w.heap.size w W2) := ⟨hB1.trans (hB2.mono hB1.size)⟩
  have HT2 : Hid3 (Both w.heap.size W2 b rb g N L) := ⟨hT.below hB2⟩
  have c1 := fork_ok b N L W2 HT2.out.p
  clear hT hB1 hB2
  go_wp2_with fail
  refine c1.mono ?_
  rintro e W3 ⟨rfl, hM3, hB3⟩
  clear c1
  have HT3 : Hid3 (Both w.heap.size W3 b rb g N L) := ⟨HT2.out.below hB3⟩
  have HB3 : Hid3 (Below w.heap.size w W3) := ⟨HB2.out.trans (hB3.mono HB2.out.size)⟩
  have c2 := rfork_any rb g (32 * N) L W3 HT3.out.r (by omega)
  have hs3 := hB3.size
  have hl3 := hM3.lt
  clear hB3
  go_wp2_with fail
  refine c2.mono ?_
  rintro e W4 ⟨⟨rb2, g2, rfl, hM4, hr4, hg4⟩, hB4⟩
  clear c2
  have hz2 := HB2.out.size
  have b1 := HT2.out.p.lt
  have b2 := HT2.out.r.lt
  have b3 := HT2.out.r.ltg
  have HA : Hid3 ((Both w.heap.size W4 W2.heap.size rb2 g2 N (playL N (l2.take 0) L) ∧ Both w.heap.size W4 b rb g N L) ∧ (W2.heap.size ≠ b ∧ W2.heap.size ≠ rb ∧ W2.heap.size ≠ g ∧ g2 ≠ b ∧ g2 ≠ rb ∧ g2 ≠ g)) := ⟨⟨by rw [playL_nil]; exact ⟨hM3.below hB4, hM4, by omega, by omega, by omega, by omega, by omega, HT2.out.by_⟩, HT3.out.below hB4⟩, by omega, by omega, by omega, by omega, by omega, by omega⟩
  have HB4 : Hid3 (Below w.heap.size w W4) := ⟨HB3.out.trans (hB4.mono HB3.out.size)⟩
  clear hM3 hM4 hB4 HT2 HT3 HB2 HB3 b1 b2 b3 hz2 hs3 hl3 hr4 hg4
  generalize W2.heap.size = fb at *
  go_wp2_with fail
  go_loopw [12] (fun s12 wr => ∃ i : Nat, i ≤ l2.length ∧ i ≤ 12 ∧ s12 = .int .i64 i ∧ Hid3 ((Both w.heap.size wr fb rb2 g2 N (playL N (l2.take i) L) ∧ Both w.heap.size wr b rb g N L) ∧ (fb ≠ b ∧ fb ≠ rb ∧ fb ≠ g ∧ g2 ≠ b ∧ g2 ≠ rb ∧ g2 ≠ g)) ∧ Hid3 (Below w.heap.size w wr)) (fun s12 _ => 12 - (intOf s12).toNat)
  case atStart => exact ⟨0, Nat.zero_le _, by omega, rfl, HA, HB4⟩
  case round =>
    obtain ⟨i, hil, hi2, rfl, HA1, HB1⟩ := hrel
    by_cases hgo : i < l2.length ∧ i < 12
    · obtain ⟨hlt, h12⟩ := hgo
      have hltz : (i : Int) < (l2.length : Int) := by omega
      have h12z : (i : Int) < 12 := by omega
      have hsz := HB1.out.size
      obtain ⟨_, _, e0, _, hc⟩ := HD.out.below HB1.out
      injection e0 with e1 e2 e3
      obtain ⟨ok, gg, off, e4, hg, c0, c1, c2, c3, c4⟩ := hc i l2[i] (List.getElem?_eq_getElem hlt)
      rw [← e1] at e4
      subst e4
      have hcall := do_any w.heap.size fb rb2 g2 N l2[i].k l2[i].f l2[i].o l2[i].x l2[i].v l2[i].bs _ wr HA1.out.1.1 hsz ok.x ok.b ok.s
      have hpl : playL N (l2.take (i + 1)) L = doL N l2[i].k l2[i].f l2[i].o l2[i].x l2[i].bs (playL N (l2.take i) L) := by rw [List.take_succ_eq_append_getElem hlt, playL_snoc]; rfl
      rw [← hpl] at hcall
      clear hc e1 e3 hpl ok
      generalize l2[i] = d at *
      obtain ⟨d0, d1, d2, d3, d4, d5⟩ := d
      simp only at c0 c1 c2 c3 c4 hcall
      go_wp2_with fail
      refine hcall.mono ?_
      rintro e W2 ⟨rfl, hT2, hO2⟩
      have HA2 : Hid3 ((Both w.heap.size W2 fb rb2 g2 N (playL N (l2.take (i + 1)) L) ∧ Both w.heap.size W2 b rb g N L) ∧ (fb ≠ b ∧ fb ≠ rb ∧ fb ≠ g ∧ g2 ≠ b ∧ g2 ≠ rb ∧ g2 ≠ g)) := by
        obtain ⟨n1, n2, n3, n4, n5, n6⟩ := HA1.out.2
        exact ⟨⟨hT2, HA1.out.1.2.other hO2 n1.symm n4.symm n2.symm n5.symm n3.symm n6.symm⟩, n1, n2, n3, n4, n5, n6⟩
      have HB2 : Hid3 (Below w.heap.size w W2) := ⟨HB1.out.trans (hO2.below w.heap.size hT2.bB hT2.gB hsz)⟩
      clear hT2 hO2 hcall c0 c1 c2 c3 c4
      go_wp2
      go_roundw
      case rel => exact ⟨i + 1, by omega, by omega, by go_num, HA2, HB2⟩
      case measure => simp [intOf]; omega
    · have cS := same_any _ b rb g N L wr HA1.out.1.2
      by_cases hlt : i < l2.length
      all_goals
        first
        | (have hltz : (i : Int) < (l2.length : Int) := by omega
           have h12z : ¬ (i : Int) < 12 := by omega)
        | have hltz : ¬ (i : Int) < (l2.length : Int) := by omega
        go_wp2_with fail
        refine cS.mono ?_
        rintro e W5 ⟨rfl, hB5⟩
        have cT := same_any _ fb rb2 g2 N _ W5 (HA1.out.1.1.below hB5)
        have HB5 : Hid3 (Below w.heap.size w W5) := ⟨HB1.out.trans (hB5.mono HB1.out.size)⟩
        clear cS hB5
        go_wp2_with fail
        refine cT.mono ?_
        rintro e W6 ⟨rfl, hB6⟩
        have HB6 : Hid3 (Below w.heap.size w W6) := ⟨HB5.out.trans (hB6.mono HB5.out.size)⟩
        clear cT hB6
        go_wp2
        go_ret
        exact ⟨rfl, HB6.out⟩
end Go.Proofs.Ytajljppmkcjoiaa
