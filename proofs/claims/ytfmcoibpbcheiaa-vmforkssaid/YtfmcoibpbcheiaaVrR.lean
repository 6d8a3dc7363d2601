/- The document's vm: Fill, where the bytes lie within a space. -/
import Derived.Test.YtfmcoibpbcheiaaVrQ
namespace Go.Proofs.Ytfmcoibpbcheiaa
open Go.RowKit Go.Maps
set_option linter.unusedVariables false
set_option maxRecDepth 100000
/-- What the first loop meets at a byte. -/
structure FlB (B : Nat) (o : Ro) (N : Nat) (s : Vs) (L : List Int) (p : Nat) (a k : Nat) (f : Int) (w : World) : Prop where
  cA : ∀ W, Below w.heap.size w W → Calls Try.prog 62 #[.pointer (some ⟨o.b, 0, none⟩), .int .i64 p, .int .i64 ((a + k : Nat) : Int)] W fun r w' => r = .returned (.int .i64 0) ∧ w' = W
  cN : ∀ W, Below w.heap.size w W → Calls Try.prog 74 #[.pointer (some ⟨o.b, 0, none⟩), .agg #[.bool true, .int .i64 (f + 1)]] W fun r w' => r = .returned (.bool (!ownB s f)) ∧ Below W.heap.size W w'
  c1 : ∀ W, Below w.heap.size w W → W.cell? ⟨o.b, 7 + p * 32 + (a + k) / 32 * 2, none⟩ = some (.bool true) ∧ W.cell? ⟨o.b, 7 + p * 32 + (a + k) / 32 * 2 + 1, none⟩ = some (.int .i64 (f + 1))
theorem flb_mk {B : Nat} {o : Ro} {N : Nat} {s : Vs} {L : List Int} {p : Fin 6} {a k : Nat} {f : Int} {w : World} (h : Rb B w o N s L) (hF : Fr N s) (hp : s.has p = true) (ha : a + k < 512) (hk : s.pg p (((a + k) / 32 : Nat) : Int) = some f) : FlB B o N s L p.1 a k f w := by
  refine ⟨fun W kb => ?_, fun W kb => rneeds_any B o N s L p ((a + k) / 32) f W (h.below kb) hF hk, fun W kb => ?_⟩
  · have := rat_any B o N s L p.1 ((a + k : Nat) : Int) W (h.below kb)
    rw [at_in hp ha hk] at this
    exact this
  · obtain ⟨x, y, _⟩ := (h.below kb).pg p ((a + k) / 32) (by omega)
    rw [hk] at x y
    exact ⟨x, y⟩
theorem flb_no {B : Nat} {o : Ro} {N : Nat} {s : Vs} {L : List Int} {p : Fin 6} {a k : Nat} {w : World} (h : Rb B w o N s L) (hp : s.has p = true) (ha : a + k < 512) (hk : s.pg p (((a + k) / 32 : Nat) : Int) = none) (W : World) (kb : Below w.heap.size w W) : Calls Try.prog 62 #[.pointer (some ⟨o.b, 0, none⟩), .int .i64 p.1, .int .i64 ((a + k : Nat) : Int)] W fun r w' => r = .returned (.int .i64 10) ∧ w' = W := by
  have := rat_any B o N s L p.1 ((a + k : Nat) : Int) W (h.below kb)
  have e1 : inA ((a + k : Nat) : Int) 1 = true := by
    unfold inA
    rw [decide_eq_true (by omega), decide_eq_true (by omega), decide_eq_true (by omega)]
    rfl
  have e : atE s p.1 ((a + k : Nat) : Int) = 10 := by
    unfold atE
    rw [prc_has0 s p hp]
    simp only [e1, Bool.true_eq_false, if_false, Int.toNat_natCast, hk, if_true]
  rw [e] at this
  exact this
theorem fl_ar (a k : Nat) (h : a + k < 512) : IntKind.i64.wrap ((a : Int) + (k : Int)) = ((a + k : Nat) : Int) ∧ (a : Int) + (k : Int) = ((a + k : Nat) : Int) ∧ Int.tdiv ((a + k : Nat) : Int) 32 = (((a + k) / 32 : Nat) : Int) ∧ Int.tmod ((a + k : Nat) : Int) 32 = (((a + k) % 32 : Nat) : Int) ∧ ((a + k : Nat) : Int) / 32 = (((a + k) / 32 : Nat) : Int) ∧ ((a + k : Nat) : Int) % 32 = (((a + k) % 32 : Nat) : Int) ∧ (((a + k) / 32 : Nat) : Int) < 16 := by
  refine ⟨by rw [IntKind.wrap_i64]; omega, by omega, by rw [Int.tdiv_eq_ediv_of_nonneg (by omega)]; omega, by rw [Int.tmod_eq_emod_of_nonneg (by omega)]; omega, by omega, by omega, by omega⟩
theorem fl_nd {s : Vs} {p : Fin 6} {a k : Nat} {f : Int} (hk : s.pg p (((a + k) / 32 : Nat) : Int) = some f) : (k = 0 ∨ (a + k) % 32 = 0 → ndT s p (a / 32) (pcn a (k + 1)) = ndT s p (a / 32) (pcn a k) + ndI s f) ∧ (k ≠ 0 → (a + k) % 32 ≠ 0 → ndT s p (a / 32) (pcn a (k + 1)) = ndT s p (a / 32) (pcn a k)) := by
  refine ⟨fun c => ?_, fun c1 c2 => by rw [(pcn_old c1 c2).1]⟩
  obtain ⟨e1, e2⟩ := pcn_new c
  rw [e2, ndT_succ, e1]
  unfold nd
  rw [hk]
  rfl
theorem fl_pgs {s : Vs} {p : Fin 6} {a k : Nat} (h : ∀ j, j < pcn a k → s.pg p ((a / 32 + j : Nat) : Int) ≠ none) (hk : s.pg p (((a + k) / 32 : Nat) : Int) ≠ none) : ∀ j, j < pcn a (k + 1) → s.pg p ((a / 32 + j : Nat) : Int) ≠ none := fun j hj => by
  by_cases c : k = 0 ∨ (a + k) % 32 = 0
  · obtain ⟨e1, e2⟩ := pcn_new c
    by_cases d : j = pcn a k
    · rw [d, e1]; exact hk
    · exact h j (by omega)
  · exact h j (by rw [(pcn_old (fun e => c (.inl e)) (fun e => c (.inr e))).1] at hj; exact hj)
theorem fl_gapE {s : Vs} {p : Fin 6} {a k m : Nat} (hk : k < m) (h : s.pg p (((a + k) / 32 : Nat) : Int) = none) : gap s p (a / 32) (pcs a m) = true := by
  obtain ⟨j, h1, h2⟩ := pcn_in (a := a) (i := k)
  have := pcn_le a (by omega : k + 1 ≤ m)
  rw [pcn_pos (by omega : m ≠ 0)] at this
  exact gap_mk j (by omega) (by rw [h2]; exact h)
theorem fl_gapN {s : Vs} {p : Fin 6} {a m : Nat} (hm : m ≠ 0) (h : ∀ j, j < pcn a m → s.pg p ((a / 32 + j : Nat) : Int) ≠ none) : gap s p (a / 32) (pcs a m) = false := by
  rw [pcn_pos hm] at h
  cases e : gap s p (a / 32) (pcs a m) with
  | false => rfl
  | true =>
    obtain ⟨j, h1, h2, _⟩ := gap_yes e
    exact absurd h2 (h j h1)
theorem fl_n16 (s : Vs) (p : Fin 6) {a k m : Nat} (hk : k ≤ m) (hm : a + m ≤ 512) : 0 ≤ ndT s p (a / 32) (pcn a k) ∧ ndT s p (a / 32) (pcn a k) ≤ 16 := by
  have h1 := ndT_le s p (a / 32) (pcn a k)
  have h2 : pcn a k ≤ 16 := by
    by_cases c : k = 0
    · unfold pcn; rw [if_pos c]; omega
    · rw [pcn_pos c]
      have := (pcs_ar (by omega : 1 ≤ k) (by omega : a + k ≤ 512)).1
      omega
  omega
set_option maxHeartbeats 4000000 in
theorem rfill_in (B : Nat) (o : Ro) (N : Nat) (s : Vs) (L : List Int) (V : Fin 6 → Nat → Int) (p : Fin 6) (a m cap : Nat) (x : Option Addr) (b : Nat → Int) (w : World) (h : Rb B w o N s L) (hF : Fr N s) (hV : Vw s.pg L V) (hL : L.length = 2048) (hcp : 0 ≤ s.cp ∧ s.cp ≤ 80000) (hp : s.has p = true) (ha : a < 512) (hm : a + m ≤ 512) (hb : Bts w x m b (XR o)) :
    Calls Try.prog 53 #[.pointer (some ⟨o.b, 0, none⟩), .int .i64 p.1, .int .i64 (a : Nat), .slice x m cap] w fun r w' => r = .returned (.int .i64 (fillE N s p.1 (a : Int) m)) ∧ (∃ L', Rb B w' o N (fillS N s p.1 (a : Int) m b) L' ∧ L'.length = 2048 ∧ Vw (fillS N s p.1 (a : Int) m b).pg L' (fillV N s V p.1 (a : Int) m b)) ∧ Apart (XR o) w w' := by
  have cM := rmay_any B o N s L p.1 w h
  have em : mayE s p.1 = 0 := by unfold mayE; rw [prc_has0 s p hp]
  rw [em] at cM
  have hN := hF.hi
  have h7 : IntKind.i64.wrap (512 - (a : Int)) = 512 - (a : Int) := by rw [IntKind.wrap_i64]; omega
  have h8 : ¬ (a : Int) < 0 := by omega
  have h9 : ¬ (512 : Int) ≤ (a : Int) := by omega
  have h10 : ¬ (512 - (a : Int) < (m : Int)) := by omega
  have HNo := Hid3.mk (fun k (hk : k < m) (e : s.pg p (((a + k) / 32 : Nat) : Int) = none) W kb => flb_no (w := w) h hp (by omega : a + k < 512) e W kb)
  have HYes := Hid3.mk (fun k (hk : k < m) f (e : s.pg p (((a + k) / 32 : Nat) : Int) = some f) => flb_mk h hF hp (by omega : a + k < 512) e)
  have HLf := Hid3.mk (fun W (kb : Below w.heap.size w W) => rleft_any B o N s L W (h.below kb) hF)
  have HStep := Hid3.mk (fun (hg : gap s p (a / 32) (pcs a m) = false) (hz : ndT s p (a / 32) (pcs a m) ≤ zr N s) k (hk : k < m) W (hK : FlK B W o N s V p a b k) => fl_step B o N s V p a m k b W hF hcp hp hm hk hg hz hK)
  have HErr := Hid3.mk (fun (he : fillE N s p.1 (a : Int) m ≠ 0) W (kb : Below w.heap.size w W) => And.intro (fl_err (b := b) he (h.below kb) hL hV) (Apart.of_below (X := XR o) kb))
  have HEnd := Hid3.mk (fun W (he : fillE N s p.1 (a : Int) m = 0) (hK : FlK B W o N s V p a b m) => fl_end hp he hK)
  have H0 := Hid3.mk (fun W (kb : Below w.heap.size w W) => (⟨L, h.below kb, hL, hV⟩ : FlK B W o N s V p a b 0))
  have HE := Hid3.mk (fillE_in (N := N) hp ha hm)
  have HB0 := Hid3.mk hb
  have HZ := Hid3.mk (zrs_le (fun k => s.rf.getD k 0) N)
  have HND := Hid3.mk (fun k => ndT_le s p (a / 32) k)
  have hao : a < 512 := ha
  generalize hE : fillE N s p.1 (a : Int) m = E at *
  clear hE h hF hV hL hp em hb hcp
  obtain ⟨p, hp6⟩ := p
  have h5 : (p : Int) < 6 := by omega
  simp only at *
  go_enter Try.func53, Try.ntmps53
  go_wp2_with fail
  refine cM.mono ?_
  rintro r0 W ⟨rfl, hW⟩
  rw [hW]
  clear cM hW
  go_wp2_with fail
  go_loopw [10, 11] (fun n i W => ∃ k : Nat, k ≤ m ∧ i = .int .i64 (k : Int) ∧ n = .int .i64 (ndT s ⟨p, hp6⟩ (a / 32) (pcn a k)) ∧ Hid3 (Below w.heap.size w W ∧ ∀ j, j < pcn a k → s.pg ⟨p, hp6⟩ ((a / 32 + j : Nat) : Int) ≠ none)) (fun _ i _ => m - (intOf i).toNat)
  case atStart => exact ⟨0, Nat.zero_le _, rfl, rfl, ⟨Below.refl _ _, fun j hj => absurd hj (Nat.not_lt_zero j)⟩⟩
  case round =>
    obtain ⟨k, hk, rfl, rfl, HK⟩ := hrel
    have HKB : Hid3 (Below w.heap.size w wr) := ⟨HK.out.1⟩
    have HP : Hid3 (∀ j, j < pcn a k → s.pg ⟨p, hp6⟩ ((a / 32 + j : Nat) : Int) ≠ none) := ⟨HK.out.2⟩
    obtain ⟨n0, n16⟩ := fl_n16 s ⟨p, hp6⟩ hk hm
    clear HK
    by_cases hkm : k < m
    · have hkz : (k : Int) < (m : Int) := by omega
      obtain ⟨w1, w2, q1, q2, q3, q4, q5⟩ := fl_ar a k (by omega)
      have hw1 : IntKind.i64.wrap ((k : Int) + 1) = ((k + 1 : Nat) : Int) := by rw [IntKind.wrap_i64]; omega
      cases e : s.pg ⟨p, hp6⟩ (((a + k) / 32 : Nat) : Int) with
      | none =>
        have cA := HNo.out k hkm e wr HKB.out
        have HG := Hid3.mk (fl_gapE hkm e)
        generalize ndT s ⟨p, hp6⟩ (a / 32) (pcn a k) = n at *
        generalize ((a + k : Nat) : Int) = ak at *
        clear e HYes HNo
        go_wp2_with fail
        refine cA.mono ?_
        rintro r0 W ⟨rfl, hW⟩
        rw [hW]
        clear cA hW
        go_wp2
        go_ret
        have e10 : E = 10 := by rw [HE.out, if_neg (by omega), if_pos HG.out]
        rw [e10]
        exact ⟨rfl, HErr.out (by rw [e10]; omega) _ HKB.out⟩
      | some f =>
        obtain ⟨cA, cN, c1⟩ := HYes.out k hkm f e
        have cA := cA wr HKB.out
        obtain ⟨p1, p2⟩ := c1 wr HKB.out
        obtain ⟨d1, d2⟩ := fl_nd e
        have HP2 : Hid3 (∀ j, j < pcn a (k + 1) → s.pg ⟨p, hp6⟩ ((a / 32 + j : Nat) : Int) ≠ none) := ⟨fl_pgs HP.out (by rw [e]; simp)⟩
        have hlb := World.block_lt_of_cell? wr _ p1
        by_cases hk0 : k = 0
        · subst hk0
          have D := d1 (.inl rfl)
          rw [Nat.add_zero] at e cA p1 p2 q1 q2 q3 q4 q5 w1 w2
          have wa : IntKind.i64.wrap (a : Int) = (a : Int) := by rw [IntKind.wrap_i64]; omega
          generalize hn : ndT s ⟨p, hp6⟩ (a / 32) (pcn a 0) = n at *
          rcases nd_cases s f with ⟨n1, n2⟩ | ⟨n1, n2⟩
          · rw [n1] at D
            rw [n2] at cN
            have HD := Hid3.mk D
            clear D d1 d2 hn e HYes HNo HP c1 n1 n2 w1 w2 hk hkm
            generalize a / 32 = d at *
            go_wp2_with fail
            refine cA.mono ?_
            rintro r0 W ⟨rfl, hW⟩
            rw [hW]
            clear cA hW
            go_wp2_with fail
            refine (cN _ HKB.out).mono ?_
            rintro r0 W2 ⟨rfl, hB2⟩
            have HB2 : Hid3 (Below w.heap.size w W2) := ⟨HKB.out.trans (hB2.mono HKB.out.size)⟩
            clear hB2 p1 p2 cN
            go_wp2
            go_roundw
            case rel => exact ⟨1, by omega, by first | rfl | trivial, by rw [HD.out]; simp, ⟨HB2.out, HP2.out⟩⟩
            case measure => simp [intOf]; omega
          · rw [n1] at D
            rw [n2] at cN
            have HD := Hid3.mk D
            clear D d1 d2 hn e HYes HNo HP c1 n1 n2 w1 w2 hk hkm
            generalize a / 32 = d at *
            go_wp2_with fail
            refine cA.mono ?_
            rintro r0 W ⟨rfl, hW⟩
            rw [hW]
            clear cA hW
            go_wp2_with fail
            refine (cN _ HKB.out).mono ?_
            rintro r0 W2 ⟨rfl, hB2⟩
            have HB2 : Hid3 (Below w.heap.size w W2) := ⟨HKB.out.trans (hB2.mono HKB.out.size)⟩
            clear hB2 p1 p2 cN
            go_wp2
            go_roundw
            case rel => exact ⟨1, by omega, by first | rfl | trivial, by rw [HD.out], ⟨HB2.out, HP2.out⟩⟩
            case measure => simp [intOf]; omega
        · have hkn : ¬ (k : Int) = 0 := by omega
          by_cases hmod : (a + k) % 32 = 0
          · have D := d1 (.inr hmod)
            rw [hmod] at q2 q4
            generalize hn : ndT s ⟨p, hp6⟩ (a / 32) (pcn a k) = n at *
            rcases nd_cases s f with ⟨n1, n2⟩ | ⟨n1, n2⟩
            · rw [n1] at D
              rw [n2] at cN
              have HD := Hid3.mk D
              clear D d1 d2 hn e HYes HNo HP c1 n1 n2 hmod
              generalize ((a + k : Nat) : Int) = ak at *
              generalize (a + k) / 32 = d at *
              go_wp2_with fail
              refine cA.mono ?_
              rintro r0 W ⟨rfl, hW⟩
              rw [hW]
              clear cA hW
              go_wp2_with fail
              refine (cN _ HKB.out).mono ?_
              rintro r0 W2 ⟨rfl, hB2⟩
              have HB2 : Hid3 (Below w.heap.size w W2) := ⟨HKB.out.trans (hB2.mono HKB.out.size)⟩
              clear hB2 p1 p2 cN
              go_wp2
              go_roundw
              case rel => exact ⟨k + 1, by omega, by first | rfl | trivial, by rw [HD.out]; simp, ⟨HB2.out, HP2.out⟩⟩
              case measure => simp [intOf]; omega
            · rw [n1] at D
              rw [n2] at cN
              have HD := Hid3.mk D
              clear D d1 d2 hn e HYes HNo HP c1 n1 n2 hmod
              generalize ((a + k : Nat) : Int) = ak at *
              generalize (a + k) / 32 = d at *
              go_wp2_with fail
              refine cA.mono ?_
              rintro r0 W ⟨rfl, hW⟩
              rw [hW]
              clear cA hW
              go_wp2_with fail
              refine (cN _ HKB.out).mono ?_
              rintro r0 W2 ⟨rfl, hB2⟩
              have HB2 : Hid3 (Below w.heap.size w W2) := ⟨HKB.out.trans (hB2.mono HKB.out.size)⟩
              clear hB2 p1 p2 cN
              go_wp2
              go_roundw
              case rel => exact ⟨k + 1, by omega, by first | rfl | trivial, by rw [HD.out], ⟨HB2.out, HP2.out⟩⟩
              case measure => simp [intOf]; omega
          · have D := d2 hk0 hmod
            have HD := Hid3.mk D
            have hr : ¬ (((a + k) % 32 : Nat) : Int) = 0 := by omega
            generalize hn : ndT s ⟨p, hp6⟩ (a / 32) (pcn a k) = n at *
            clear D d1 d2 hn hmod e HYes HNo HP c1 cN p1 p2
            generalize ((a + k : Nat) : Int) = ak at *
            generalize (((a + k) % 32 : Nat) : Int) = r at *
            generalize (((a + k) / 32 : Nat) : Int) = d at *
            go_wp2_with fail
            refine cA.mono ?_
            rintro r0 W ⟨rfl, hW⟩
            rw [hW]
            clear cA hW
            go_wp2
            go_roundw
            case rel => exact ⟨k + 1, by omega, by first | rfl | trivial, by rw [HD.out], ⟨HKB.out, HP2.out⟩⟩
            case measure => simp [intOf]; omega
    · have hkz : ¬ (k : Int) < (m : Int) := by omega
      have hkm2 : k = m := by omega
      have cL := HLf.out wr HKB.out
      have hz64 := HZ.out
      have HPm : Hid3 (∀ j, j < pcn a m → s.pg ⟨p, hp6⟩ ((a / 32 + j : Nat) : Int) ≠ none) := ⟨by rw [← hkm2]; exact HP.out⟩
      have HN2 : Hid3 (ndT s ⟨p, hp6⟩ (a / 32) (pcn a k) = ndT s ⟨p, hp6⟩ (a / 32) (pcn a m)) := ⟨by rw [hkm2]⟩
      rw [HN2.out] at n0 n16 ⊢
      have HM : Hid3 (m ≠ 0 → ndT s ⟨p, hp6⟩ (a / 32) (pcn a m) = ndT s ⟨p, hp6⟩ (a / 32) (pcs a m)) := ⟨fun c => by rw [pcn_pos c]⟩
      have HM0 : Hid3 (m = 0 → ndT s ⟨p, hp6⟩ (a / 32) (pcn a m) = 0) := ⟨fun c => by rw [c]; rfl⟩
      generalize ndT s ⟨p, hp6⟩ (a / 32) (pcn a m) = n at *
      clear hkm2 hk HNo HYes HN2 HP
      generalize (k : Int) = kk at *
      by_cases hgt : ((zr N s : Nat) : Int) < n
      · have e4 : E = 4 := by
          have hm0 : m ≠ 0 := fun c => by have := HM0.out c; omega
          rw [HE.out, if_neg hm0, fl_gapN hm0 HPm.out, if_neg (by simp), ← HM.out hm0, if_pos hgt]
        have HE4 := Hid3.mk e4
        have HR := Hid3.mk (HErr.out (by rw [e4]; omega) _ HKB.out)
        clear e4
        generalize ((zr N s : Nat) : Int) = zz at *
        go_wp2_with fail
        refine cL.mono ?_
        rintro r0 W ⟨rfl, hW⟩
        rw [hW]
        clear cL hW
        go_wp2
        go_ret
        rw [HE4.out]
        exact ⟨rfl, HR.out⟩
      · have e0 : E = 0 := by
          by_cases hm0 : m = 0
          · rw [HE.out, if_pos hm0]
          · rw [HE.out, if_neg hm0, fl_gapN hm0 HPm.out, if_neg (by simp), ← HM.out hm0, if_neg hgt]
        have HS2 : Hid3 (∀ k, k < m → ∀ W, FlK B W o N s V ⟨p, hp6⟩ a b k → Calls Try.prog 52 #[.pointer (some ⟨o.b, 0, none⟩), .int .i64 p, .int .i64 ((a + k : Nat) : Int), .int .u8 (b k)] W fun r w' => (∃ e, r = .returned (.int .i64 e)) ∧ FlK B w' o N s V ⟨p, hp6⟩ a b (k + 1) ∧ Apart (XR o) W w') := ⟨fun k hk W hK => HStep.out (fl_gapN (by omega) HPm.out) (by rw [← HM.out (by omega)]; omega) k hk W hK⟩
        have HEnd2 := Hid3.mk (fun W => HEnd.out W e0)
        have HF0 : Hid3 (FlK B wr o N s V ⟨p, hp6⟩ a b 0 ∧ Apart (XR o) w wr) := ⟨H0.out wr HKB.out, Apart.of_below HKB.out⟩
        have HE0 := Hid3.mk e0
        clear e0 HStep HEnd HErr HE HPm HM HM0
        generalize ((zr N s : Nat) : Int) = zz at *
        go_wp2_with fail
        refine cL.mono ?_
        rintro r0 W ⟨rfl, hW⟩
        rw [hW]
        clear cL hW HKB HLf H0
        go_wp2_with fail
        go_loopw [13] (fun i W => ∃ k : Nat, k ≤ m ∧ i = .int .i64 (k : Int) ∧ Hid3 (FlK B W o N s V ⟨p, hp6⟩ a b k ∧ Apart (XR o) w W)) (fun i _ => m - (intOf i).toNat)
        case atStart => exact ⟨0, Nat.zero_le _, rfl, HF0⟩
        case round =>
          clear HF0
          obtain ⟨j, hj, rfl, HK⟩ := hrel
          by_cases hjm : j < m
          · have hjz : (j : Int) < (m : Int) := by omega
            have hw1 : IntKind.i64.wrap ((j : Int) + 1) = ((j + 1 : Nat) : Int) := by rw [IntKind.wrap_i64]; omega
            obtain ⟨w1, w2, _⟩ := fl_ar a j (by omega)
            have cP := HS2.out j hjm _ HK.out.1
            rcases HB0.out with c | ⟨gb, off, hx, hlt, hxr, hc⟩
            · omega
            · subst hx
              rename_i wr2
              have hbc := (World.cell?_of_block (HK.out.2.block gb hlt hxr)).trans (hc j hjm)
              clear hc
              generalize b j = bj at *
              generalize ((a + j : Nat) : Int) = ak at *
              go_wp2_with fail
              refine cP.mono ?_
              rintro r0 W2 ⟨⟨e2, rfl⟩, hK2, hA2⟩
              have HK2 := Hid3.mk (And.intro hK2 (HK.out.2.trans hA2))
              clear cP hK2 hA2 hbc
              go_wp2
              go_roundw
              case rel => exact ⟨j + 1, by omega, by first | rfl | trivial, HK2⟩
              case measure => simp [intOf]; omega
          · have hjz : ¬ (j : Int) < (m : Int) := by omega
            have e : j = m := by omega
            have HR := Hid3.mk (HEnd2.out _ (by rw [← e]; exact HK.out.1))
            have HA := Hid3.mk HK.out.2
            clear e HK hj hjm
            generalize (j : Int) = jj at *
            go_wp2
            go_ret
            rw [HE0.out]
            exact ⟨rfl, HR.out, HA.out⟩
end Go.Proofs.Ytfmcoibpbcheiaa
