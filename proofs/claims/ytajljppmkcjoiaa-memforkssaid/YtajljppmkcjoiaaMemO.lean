/- Do both tell the same? -/
import Derived.Test.YtajljppmkcjoiaaMemN
namespace Go.Proofs.Ytajljppmkcjoiaa
open Go.RowKit Go.Maps
set_option linter.unusedVariables false
set_option maxRecDepth 100000
set_option maxHeartbeats 8000000 in
theorem same_any (B b rb g N : Nat) (L : List Int) (w : World) (h : Both B w b rb g N L) : Calls Try.prog 11 #[.pointer (some ⟨b, 0, none⟩), .pointer (some ⟨rb, 0, none⟩)] w fun e w' => e = .returned (.bool true) ∧ Below w.heap.size w w' := by
  have hN : (N : Int) ≤ 64 := h.p.hi
  have HB : Hid3 (Both B w b rb g N L) := ⟨h⟩
  clear h
  go_enter Try.func11, Try.ntmps11
  go_wp2_with fail
  go_loopw [5] (fun s5 wr => ∃ i : Int, -1 ≤ i ∧ i ≤ N + 1 ∧ s5 = .int .i64 i ∧ Below w.heap.size w wr) (fun s5 _ => (N + 1 - intOf s5).toNat)
  case atStart => exact ⟨-1, by omega, by omega, rfl, Below.refl _ _⟩
  case round =>
    obtain ⟨i, hi1, hi2, rfl, hB⟩ := hrel
    have hsb := hB.size
    have hT := HB.out.below hB
    have HT : Hid3 (Both B wr b rb g N L) := ⟨hT⟩
    have cS := rsize_any rb g (32 * N) N L wr hT.r rfl
    clear hT
    by_cases hle : i ≤ N
    · have cF := frame_any b N i L wr HT.out.p
      obtain ⟨E, hE⟩ : ∃ E, inE N i 0 1 = E := ⟨_, rfl⟩
      rw [hE] at cF
      have HE : Hid3 (inE N i 0 1 = E) := ⟨hE⟩
      clear hE
      generalize hfT : fT L N i = T at *
      have HfT : Hid3 (fT L N i = T) := ⟨hfT⟩
      clear hfT
      have hi64 : -1 ≤ i ∧ i ≤ 64 := by omega
      go_wp2_with fail
      refine cS.mono ?_
      rintro e W0 ⟨rfl, rfl⟩
      clear cS
      go_wp2_with fail
      refine cF.mono ?_
      rintro e W1 ⟨⟨va, rfl, hva⟩, hB1⟩
      clear cF
      have hs1 := hB1.size
      have HT1 : Hid3 (Both B W1 b rb g N L) := ⟨HT.out.below hB1⟩
      have cG := rframe_any rb g (32 * N) N i L W1 HT1.out.r rfl
      rw [HfT.out, HE.out] at cG
      go_wp2_with fail
      refine cG.mono ?_
      rintro e W2 ⟨⟨vb, rfl, hvb⟩, hB2⟩
      clear cG
      have hs2 := hB2.size
      have k1 := hva W2 hB2
      have k2 := hvb W2 (Below.refl _ _)
      have HT2 : Hid3 (Both B W2 b rb g N L) := ⟨HT1.out.below hB2⟩
      have HW2 : Hid3 (Below w.heap.size w W2) := ⟨(hB.trans (hB1.mono hsb)).trans (hB2.mono (by omega))⟩
      have c1 := clean_any b N i L W2 HT2.out.p
      clear hva hvb hB1 hB2
      go_wp2_with fail
      refine c1.mono ?_
      rintro e W3 ⟨rfl, rfl⟩
      clear c1 k1 k2
      have c2 := rclean_any rb g (32 * N) N i L W3 HT2.out.r rfl HT2.out.by_
      generalize clB L N i = q at *
      go_wp2_with fail
      refine c2.mono ?_
      rintro e W4 ⟨rfl, hB4⟩
      clear c2
      have HT4 : Hid3 (Both B W4 b rb g N L) := ⟨HT2.out.below hB4⟩
      have HW4 : Hid3 (Below w.heap.size w W4) := ⟨HW2.out.trans (hB4.mono HW2.out.size)⟩
      have c3 := msame_any b N i L W4 HT4.out.p
      clear hB4
      go_wp2_with fail
      refine c3.mono ?_
      rintro e W5 ⟨⟨v1, rfl, hn1⟩, hB5⟩
      clear c3
      have HT5 : Hid3 (Both B W5 b rb g N L) := ⟨HT4.out.below hB5⟩
      have HW5 : Hid3 (Below w.heap.size w W5) := ⟨HW4.out.trans (hB5.mono HW4.out.size)⟩
      have c4 := rsame_any rb g (32 * N) N i L W5 HT5.out.r rfl HT5.out.by_
      clear hB5
      go_wp2_with fail
      refine c4.mono ?_
      rintro e W6 ⟨⟨v2, rfl, hn2⟩, hB6⟩
      clear c4
      have HW6 : Hid3 (Below w.heap.size w W6) := ⟨HW5.out.trans (hB6.mono HW5.out.size)⟩
      have c5 := sameints_any v1 v2 (smO L N i) W6 (hn1.below hB6) hn2 (by have := smO_len L N i; omega)
      clear hB6 hn1 hn2
      go_wp2_with fail
      refine c5.mono ?_
      rintro e W7 ⟨rfl, hB7⟩
      clear c5
      have HW7 : Hid3 (Below w.heap.size w W7) := ⟨HW6.out.trans (hB7.mono HW6.out.size)⟩
      clear hB7
      go_wp2
      go_roundw
      case rel => exact ⟨i + 1, by omega, by omega, by go_num, HW7.out⟩
      case measure => simp [intOf]; omega
    · have hle' : ¬ i ≤ (N : Int) := hle
      have c1 := size_ok b N L wr HT.out.p
      go_wp2_with fail
      refine cS.mono ?_
      rintro e W0 ⟨rfl, rfl⟩
      go_wp2_with fail
      refine c1.mono ?_
      rintro e W0 ⟨rfl, rfl⟩
      go_wp2_with fail
      refine cS.mono ?_
      rintro e W0 ⟨rfl, rfl⟩
      clear cS c1
      go_wp2
      go_ret
      exact ⟨rfl, hB⟩
end Go.Proofs.Ytajljppmkcjoiaa
