/- VmForks: the walk. -/
import Derived.Test.YtfmcoibpbcheiaaVrY
import Derived.Test.YtfmcoibpbcheiaaVmYf
import Derived.Test.YtfmcoibpbcheiaaVmN
namespace Go.Proofs.Ytfmcoibpbcheiaa
open Go.RowKit Go.Maps
set_option linter.unusedVariables false
set_option maxRecDepth 100000
/-- Both, and what was copied of both. -/
structure Tw (w W : World) (vb rb fb gb N c : Nat) : Prop where
  ex : ∃ S1 S2, Bo w.heap.size W vb rb N 704 S1 ∧ Bo w.heap.size W fb gb N c S2 ∧ ∀ k, S1 k → ¬ S2 k
  bl : Below w.heap.size w W
theorem Tw.low {w W W' : World} {vb rb fb gb N c : Nat} (h : Tw w W vb rb fb gb N c) (k : Below W.heap.size W W') : Tw w W' vb rb fb gb N c := by
  obtain ⟨S1, S2, h1, h2, h3⟩ := h.ex
  exact ⟨⟨S1, S2, h1.below k, h2.below k, h3⟩, h.bl.trans (k.mono h.bl.size)⟩
theorem tw_do {w W : World} {vb rb fb gb N c : Nat} (h : Tw w W vb rb fb gb N c) (hc : c ≤ 80000) (k p q n b : Int) (a : Option Addr) (cap : Nat) (bs : List Int) (hb : Byts w.heap.size W (.slice a bs.length cap) bs) : Calls Try.prog 18 #[.pointer (some ⟨fb, 0, none⟩), .pointer (some ⟨gb, 0, none⟩), .agg #[.int .i64 k, .int .i64 p, .int .i64 q, .int .i64 n, .int .u8 b, .slice a bs.length cap]] W fun r w' => r = .returned (.bool true) ∧ Tw w w' vb rb fb gb N (c + 16) := by
  obtain ⟨S1, S2, h1, h2, h3⟩ := h.ex
  refine (do_any w.heap.size fb gb N c S2 k p q n b a cap bs W h2 h.bl.size hc hb).mono ?_
  rintro r w' ⟨rfl, S3, k1, k2, k3⟩
  refine ⟨rfl, ⟨S1, S3, h1.keep k3 h3, k1, fun j hj hx => ?_⟩, h.bl.trans (k3.below w.heap.size (fun j hj => (h2.g j hj).1) h.bl.size)⟩
  rcases k2 j hx with e | e
  · exact h3 j hj e
  · have := (h1.g j hj).2
    omega
theorem tw_copy {w W : World} {vb rb N : Nat} (h : Pb w W vb rb N 704) : Calls Try.prog 14 #[.pointer (some ⟨vb, 0, none⟩)] W fun r W1 => ∃ fb, r = .returned (.pointer (some ⟨fb, 0, none⟩)) ∧ Calls Try.prog 17 #[.pointer (some ⟨rb, 0, none⟩)] W1 fun r W2 => ∃ gb, r = .returned (.pointer (some ⟨gb, 0, none⟩)) ∧ Tw w W2 vb rb fb gb N 704 := by
  obtain ⟨S, hS⟩ := h.ex
  obtain ⟨l, s, V, o, L, h1, h2, h3, h4, h5, h6, h7, h8⟩ := hS.ex
  have cC := vcopy_any _ _ _ W h1.v
  rw [h1.e] at cC
  refine cC.mono ?_
  rintro r W1 ⟨l', rfl, hV, hB⟩
  refine ⟨_, rfl, ?_⟩
  have r1 := h3.below hB
  have cR := rvcopy_any _ _ _ _ _ W1 r1 h1.i.fr.lo
  rw [h2] at cR
  refine cR.mono ?_
  rintro r W2 ⟨o', rfl, hR, hB2⟩
  have hB3 : Below W.heap.size W W2 := hB.trans (hB2.mono hB.size)
  have hv2 := hV.below hB2
  have hbl := h.bl
  have hs := hbl.size
  have hs1 := hB.size
  refine ⟨_, rfl, ⟨S, fun k => XV l' s k ∨ XR o' k, hS.below hB3, ⟨⟨l', s, V, o', L, ⟨rfl, ⟨Nat.le_trans hs hv2.g, Nat.le_trans hs hv2.gm, hv2.c, hv2.m, hv2.len, fun p hp => ⟨Nat.le_trans hs (hv2.sp p hp).1, (hv2.sp p hp).2⟩, hv2.inj⟩, h1.i, h1.cp⟩, rfl, hR.lower (by omega), h4, h5, fun _ => .inl, fun _ => .inr, fun k hk hx => ?_⟩, fun k hk => ?_⟩, fun k hk hx => ?_⟩, hbl.trans (hB3.mono hs)⟩
  · have := hV.lts k hk
    have := hR.ge hx
    omega
  · rcases hk with e | e
    · exact ⟨Nat.le_trans hs (hv2.ge e), hv2.lts k e⟩
    · exact ⟨Nat.le_trans (by omega) (hR.ge e), hR.lts e⟩
  · have := (hS.g k hk).2
    rcases hx with e | e
    · have := hv2.ge e
      omega
    · have := hR.ge e
      omega
theorem tw_same {w W : World} {vb rb fb gb N c : Nat} (h : Tw w W vb rb fb gb N c) : Calls Try.prog 9 #[.pointer (some ⟨vb, 0, none⟩), .pointer (some ⟨rb, 0, none⟩)] W (fun r w' => r = .returned (.bool true) ∧ Below W.heap.size W w') ∧ Calls Try.prog 9 #[.pointer (some ⟨fb, 0, none⟩), .pointer (some ⟨gb, 0, none⟩)] W (fun r w' => r = .returned (.bool true) ∧ Below W.heap.size W w') := by
  obtain ⟨S1, S2, h1, h2, _⟩ := h.ex
  exact ⟨same_any _ _ _ _ _ _ W h1, same_any _ _ _ _ _ _ W h2⟩
theorem Tw.up {w W : World} {vb rb fb gb N c c' : Nat} (h : Tw w W vb rb fb gb N c) (hc : c ≤ c') : Tw w W vb rb fb gb N c' := by
  obtain ⟨S1, S2, h1, h2, h3⟩ := h.ex
  exact ⟨⟨S1, S2, h1, h2.up hc, h3⟩, h.bl⟩
set_option maxHeartbeats 4000000 in
theorem forks_law (x0 : Nat) (v : Value) (l : List Dv) (v2 : Value) (l2 : List Dv) (h0 : x0 ≤ 255) (w : World) (hd : Dvs w.heap.size w v l) (hd2 : Dvs w.heap.size w v2 l2) : Calls Try.prog 6 #[.int .u8 x0, v, v2] w fun r w' => r = .returned (.bool true) ∧ Below w.heap.size w w' := by
  have cP := play_any x0 v l h0 w hd
  obtain ⟨ad, cap, rfl, _⟩ := id hd2
  have HD : Hid3 (Dvs w.heap.size w (.slice ad l2.length cap) l2) := ⟨hd2⟩
  clear hd hd2
  generalize x0 % 8 + 1 = N at *
  go_enter Try.func6, Try.ntmps6
  go_wp2_with fail
  refine cP.mono ?_
  rintro r W1 ⟨vb, rb, rfl, hPb⟩
  have HB := Hid3.mk hPb
  have cL := live_ok W1
  clear cP hPb
  go_wp2_with fail
  refine cL.mono ?_
  rintro r W2 ⟨rfl, hb⟩
  have HB2 := Hid3.mk (HB.out.low hb)
  clear cL hb HB
  have cC := tw_copy HB2.out
  go_wp2_with fail
  refine cC.mono ?_
  rintro r W3 ⟨fb, rfl, cR⟩
  clear cC
  go_wp2_with fail
  refine cR.mono ?_
  rintro r W4 ⟨gb, rfl, hT⟩
  have HT := Hid3.mk hT
  clear cR hT HB2
  go_wp2_with fail
  go_loopw [12] (fun i W => ∃ k : Nat, k ≤ 14 ∧ k ≤ l2.length ∧ i = .int .i64 (k : Int) ∧ Hid3 (Tw w W vb rb fb gb N (704 + 16 * k))) (fun i _ => 15 - (intOf i).toNat)
  case atStart => exact ⟨0, by omega, Nat.zero_le _, rfl, HT⟩
  case round =>
    obtain ⟨k, hk40, hkl, rfl, HK⟩ := hrel
    clear HT
    have hw1 : IntKind.i64.wrap ((k : Int) + 1) = ((k + 1 : Nat) : Int) := by rw [IntKind.wrap_i64]; omega
    by_cases hgo : k < l2.length ∧ k < 14
    · obtain ⟨hlt, h40⟩ := hgo
      have hltz : (k : Int) < (l2.length : Int) := by omega
      have h40z : (k : Int) < 14 := by omega
      obtain ⟨_, _, e0, _, hc⟩ := HD.out.below HK.out.bl
      injection e0 with e1 e2 e3
      obtain ⟨ok, g, off, e4, hg, c0, c1, c2, c3, c4, c5⟩ := hc k l2[k] (List.getElem?_eq_getElem hlt)
      rw [← e1] at e4
      subst e4
      clear hc e1 e3
      generalize l2[k] = d at *
      obtain ⟨dk, dp, dq, dm, dc, dv, dbs⟩ := d
      obtain ⟨sa, scap, hdv, _⟩ := ok.b
      simp only at c0 c1 c2 c3 c4 c5 hdv
      have okb := ok.b
      simp only at okb
      subst hdv
      have cD := tw_do HK.out (by omega) dk dp dq dm dc sa scap dbs okb
      clear ok okb
      go_wp2_with fail
      refine cD.mono ?_
      rintro r W5 ⟨rfl, hP⟩
      have HK2 : Hid3 (Tw w W5 vb rb fb gb N (704 + 16 * (k + 1))) := ⟨by rw [show 704 + 16 * (k + 1) = 704 + 16 * k + 16 by omega]; exact hP⟩
      clear hP cD c0 c1 c2 c3 c4 c5
      go_wp2
      go_roundw
      case rel => exact ⟨k + 1, by omega, by omega, by first | rfl | trivial, HK2⟩
      case measure => simp [intOf]; omega
    · have HR : Hid3 (Tw w wr vb rb fb gb N 928) := ⟨HK.out.up (by omega)⟩
      clear HK
      have cS := (tw_same HR.out).1
      have HS : Hid3 (∀ W, Below wr.heap.size wr W → Tw w W vb rb fb gb N 928 ∧ Calls Try.prog 9 #[.pointer (some ⟨fb, 0, none⟩), .pointer (some ⟨gb, 0, none⟩)] W (fun r w' => r = .returned (.bool true) ∧ Below W.heap.size W w')) := ⟨fun W j => ⟨HR.out.low j, (tw_same (HR.out.low j)).2⟩⟩
      have hx : ((k : Int) < (l2.length : Int) ∧ ¬ (k : Int) < 14) ∨ ¬ (k : Int) < (l2.length : Int) := by omega
      generalize (k : Int) = kk at *
      clear hgo
      rcases hx with ⟨hx1, hx2⟩ | hx1
      all_goals
        go_wp2_with fail
        refine cS.mono ?_
        rintro r W6 ⟨rfl, hb6⟩
        obtain ⟨t6, cS2⟩ := HS.out W6 hb6
        have HT6 := Hid3.mk t6
        clear cS hb6 t6
        go_wp2_with fail
        refine cS2.mono ?_
        rintro r W7 ⟨rfl, hb7⟩
        have HB7 := Hid3.mk (HT6.out.low hb7).bl
        clear cS2 hb7
        go_wp2
        go_ret
        exact ⟨rfl, HB7.out⟩
end Go.Proofs.Ytfmcoibpbcheiaa
