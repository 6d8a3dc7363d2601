/- same; QuantaPlays, QuantaForks: the walks. -/
import Derived.Test.YtgfiliodbggahaaQuZ
namespace Go.Proofs.Ytgfiliodbggahaa
open Go.RowKit Go.Maps
set_option linter.unusedVariables false
set_option maxRecDepth 100000
set_option maxHeartbeats 1000000 in
theorem same_any (B vb pb rb : Nat) (q : Qs) (w : World) (h : Two B w vb pb rb q) : Calls Try.prog 11 #[.pointer (some ⟨vb, 0, none⟩), .pointer (some ⟨rb, 0, none⟩)] w fun e w' => e = .returned (.bool true) ∧ Below w.heap.size w w' := by
  have HT : Hid (Two B w vb pb rb q) := h
  clear h
  go_enter Try.func11, Try.ntmps11
  go_wp2_with fail
  go_loopw [5] (fun s5 wr => ∃ i : Int, -1 ≤ i ∧ i ≤ 9 ∧ s5 = .int .i64 i ∧ Hid (Below w.heap.size w wr)) (fun s5 _ => (9 - intOf s5).toNat)
  case atStart => exact ⟨-1, by omega, by omega, rfl, Below.refl _ _⟩
  case round =>
    obtain ⟨i, hi0, hi9, rfl, HB⟩ := hrel
    by_cases hlt : i ≤ 8
    · obtain ⟨a, b, cA, cB⟩ := vat_any vb pb q i wr (HT.out.below HB.out).t.c
      have haa : (a != a) = false := by simp
      have hbb : (b != b) = false := by simp
      go_wp2_with fail
      refine cA.mono ?_
      rintro e W1 ⟨rfl, hB1⟩
      have HB1 : Hid (Below w.heap.size w W1) := HB.out.trans (hB1.mono HB.out.size)
      have cB' := cB B rb W1 (HT.out.below HB1.out).r
      clear cA cB hB1
      go_wp2_with fail
      refine cB'.mono ?_
      rintro e W2 ⟨rfl, rfl⟩
      clear cB'
      go_wp2
      go_roundw
      case rel => exact ⟨i + 1, by omega, by omega, by go_num, HB1.out⟩
      case measure => simp [intOf]; omega
    · obtain rfl : i = 9 := by omega
      go_wp2_with fail
      go_loopw [10] (fun s10 wr2 => ∃ e : Nat, e ≤ 7 ∧ s10 = .int .u8 e ∧ Hid (Below w.heap.size w wr2)) (fun s10 _ => 7 - (intOf s10).toNat)
      case atStart => exact ⟨0, by omega, rfl, HB.out⟩
      case round =>
        obtain ⟨e, he7, rfl, HB2⟩ := hrel
        by_cases hle : e ≤ 6
        · have hlez : (e : Int) ≤ 6 := by omega
          rename World => wq
          obtain ⟨L, hL, cA, cB⟩ := vplaces_all vb pb q e _ (HT.out.below HB2.out).t.c (by omega)
          go_wp2_with fail
          refine cA.mono ?_
          rintro r W1 ⟨v1, rfl, hI1, hB1⟩
          have HB3 : Hid (Below w.heap.size w W1) := HB2.out.trans (hB1.mono HB2.out.size)
          have cB' := cB B rb W1 (HT.out.below HB3.out).r
          have HI1 : Hid (Ints W1 v1 L) := hI1
          clear cA cB hB1 hI1
          go_wp2_with fail
          refine cB'.mono ?_
          rintro r W2 ⟨v2, rfl, hI2, hB2⟩
          have HB4 : Hid (Below w.heap.size w W2) := HB3.out.trans (hB2.mono HB3.out.size)
          have cS := sameints_any v1 v2 L W2 (HI1.out.below hB2) hI2 (by omega)
          clear cB' hI2 hB2
          go_wp2_with fail
          refine cS.mono ?_
          rintro r W3 ⟨rfl, hB3⟩
          have HB5 : Hid (Below w.heap.size w W3) := HB4.out.trans (hB3.mono HB4.out.size)
          obtain ⟨m, cP, cQ⟩ := vpen_all vb pb q e W3 (HT.out.below HB5.out).t.c (by omega)
          have cQ' := cQ B rb W3 (HT.out.below HB5.out).r
          have hmm : (m != m) = false := by simp
          clear cS cQ hB3
          go_wp2_with fail
          refine cP.mono ?_
          rintro r W4 ⟨rfl, rfl⟩
          clear cP
          go_wp2_with fail
          refine cQ'.mono ?_
          rintro r W5 ⟨rfl, rfl⟩
          clear cQ'
          go_wp2
          go_roundw
          case rel => exact ⟨e + 1, by omega, by go_num, HB5.out⟩
          case measure => simp [intOf]; omega
        · obtain rfl : e = 7 := by omega
          have cN := vnow_any vb pb q _ (HT.out.below HB2.out).t.c
          have cR := rnow_any B rb q _ (HT.out.below HB2.out).r
          generalize ((q.now.1 : Nat) : Int) = m at *
          have hmm : (m == m) = true := by simp
          go_wp2_with fail
          refine cN.mono ?_
          rintro r W4 ⟨rfl, hW⟩
          rw [hW]
          clear cN hW
          go_wp2_with fail
          refine cR.mono ?_
          rintro r W5 ⟨rfl, hW⟩
          rw [hW]
          clear cR hW
          go_wp2
          go_ret
          exact ⟨rfl, HB2.out⟩
set_option maxHeartbeats 1000000 in
theorem plays_law (v : Value) (l : List Dd) (w : World) (hd : Dds w v l) (hok : ∀ d ∈ l, DdOk d) : Calls Try.prog 3 #[v] w fun e w' => e = .returned (.bool true) ∧ Below w.heap.size w w' := by
  have cP := play_any v l w hd hok
  generalize playQ (l.take 60) q0 = q at *
  clear hd hok
  go_enter Try.func3, Try.ntmps3
  go_wp2_with fail
  refine cP.mono ?_
  rintro e W1 ⟨vb, pb, rb, rfl, hT, hB1⟩
  have cL := live_any W1
  have HT1 : Hid (Two w.heap.size W1 vb pb rb q) := hT
  clear cP hT
  go_wp2_with fail
  refine cL.mono ?_
  rintro e W2 ⟨rfl, hB2⟩
  have cS := same_any _ vb pb rb q W2 (HT1.out.below hB2)
  have HB2 : Hid (Below w.heap.size w W2) := hB1.trans (hB2.mono hB1.size)
  clear cL hB2 hB1
  go_wp2_with fail
  refine cS.mono ?_
  rintro e W3 ⟨rfl, hB3⟩
  clear cS
  go_wp2
  go_ret
  exact ⟨rfl, HB2.out.trans (hB3.mono HB2.out.size)⟩
end Go.Proofs.Ytgfiliodbggahaa
