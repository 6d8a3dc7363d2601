/- The library's sort at uint8: pdqsort. -/
import Derived.Test.YtknmbecabgencaaSo12
import Derived.Deep.Cut
import Derived.Deep.LoopGhost
namespace Go.Proofs.Ytknmbecabgencaa
open Go.RowKit Go.Maps
set_option linter.unusedVariables false
set_option maxRecDepth 100000
set_option maxHeartbeats 64000000 in
theorem pdq_step (g n cap k9 : Nat) (hn : n ≤ 64) (ih0 : ∀ j, j < k9 → PdqC g n cap j) : PdqC g n cap k9 := by
  intro a0 b0 lim0 f w hk9 hab0 hb0n h hlb
  have HS0 : Hid3 (Ps g n a0 b0 a0 b0 f f w w) := ⟨h, Sh.refl _ _ _, fun p q h1 h2 h3 h4 => by omega, hlb, Apart.refl _ _⟩
  have ih : Hid3 (∀ j, j < k9 → PdqC g n cap j) := ⟨ih0⟩
  clear h hlb ih0
  go_enter Try.func16, Try.ntmps16
  go_wp2_with fail
  go_loopg [1, 2, 3, 8, 9] (b0 - a0) (fun k s1 s2 s3 s8 s9 wr => PqR g n a0 b0 f w k s1 s2 s3 s8 s9 wr)
  case atStart => exact ⟨a0, b0, lim0, true, true, f, by omega, by omega, by omega, by omega, rfl, rfl, rfl, rfl, rfl, HS0⟩
  case round =>
    obtain ⟨a, b, lim, bal, par, f1, ha0, hab, hb0, hkk, rfl, rfl, rfl, rfl, rfl, HS⟩ := hrel
    clear HS0
    obtain ⟨d, hd1, hd2⟩ : ∃ d, d + a ≤ b ∧ b ≤ d + a := ⟨b - a, by omega, by omega⟩
    have hwd : IntKind.i64.wrap ((b : Int) - (a : Int)) = (d : Int) := by rw [IntKind.wrap_i64]; omega
    by_cases h12 : d ≤ 12
    · have h12z : (d : Int) ≤ 12 := by omega
      go_wp2_with fail
      refine (ins_any g n cap a b f1 wr HS.out.r (by omega) hn (by omega)).mono ?_
      rintro r W1 ⟨rfl, f2, p1, p2, p3, p4⟩
      have HE := Hid3.mk (HS.out.fin p1 p2 p3 p4 ha0 hb0)
      clear p1 p2 p3 p4 HS
      go_wp2
      (try simp only [Exit.inBlock, Exit.then])
      refine bodyPost_ret (results_none rfl _ _ _) rfl ?_
      exact ⟨rfl, HE.out⟩
    · have h12z : ¬ (d : Int) ≤ 12 := by omega
      obtain ⟨t, ht1, ht2⟩ : ∃ t, 8 * t ≤ d ∧ d ≤ 8 * t + 7 := ⟨d / 8, by omega, by omega⟩
      have htd : (d : Int).tdiv 8 = (t : Int) := by rw [Int.tdiv_eq_ediv_of_nonneg (by omega)]; omega
      have htd2 : (d : Int) / 8 = (t : Int) := by omega
      have hwt : IntKind.i64.wrap (t : Int) = (t : Int) := by rw [IntKind.wrap_i64]; omega
      clear ht1 ht2
      by_cases hlim : lim = 0
      · subst hlim
        go_wp2_with fail
        refine (heap_any g n cap a b f1 wr HS.out.r (by omega) (by omega) hn).mono ?_
        rintro r W1 ⟨rfl, f2, p1, p2, p3, p4⟩
        have HE := Hid3.mk (HS.out.fin p1 p2 p3 p4 ha0 hb0)
        clear p1 p2 p3 p4 HS
        go_wp2
        (try simp only [Exit.inBlock, Exit.then])
        refine bodyPost_ret (results_none rfl _ _ _) rfl ?_
        exact ⟨rfl, HE.out⟩
      · go_upto_if 35 with fail
        go_cut [3] from 19 (fun s3 wx => ∃ (lm : Int) (f2 : Nat → Int), s3 = .int .i64 lm ∧ Hid3 (Ps g n a0 b0 a b f f2 w wx))
        case first =>
          cases bal
          · go_wp2_with fail
            refine (break_any g n cap a b f1 wr HS.out.r (by omega) (by omega) hn).mono ?_
            rintro r W1 ⟨rfl, f2, p1, p2, p3⟩
            have HS2 := Hid3.mk (HS.out.sh p1 p2 p3 ha0 hb0)
            clear p1 p2 p3 HS
            go_wp2_with fail
            go_meet
            case rel => exact ⟨_, f2, rfl, HS2⟩
          · go_wp2_with fail
            go_meet
            case rel => exact ⟨lim, f1, rfl, HS⟩
        case rest =>
          obtain ⟨lm, f2, rfl, HS2⟩ := hcut
          clear HS hlim
          go_wp2_with fail
          refine (choose_any g n cap a b f2 wc HS2.out.r (by omega) (by omega) hn).mono ?_
          rintro r W2 ⟨x, k, rfl, ⟨hx1, hx2⟩, ⟨hk1, hk2⟩, p1, p2⟩
          have HS3' := Hid3.mk (HS2.out.sh p1 (Sh.refl _ _ _) (Apart.of_below p2) ha0 hb0)
          clear p1 p2 HS2
          go_upto_if 50 with fail
          go_cut [11, 12] from 19 (fun s11 s12 wx => ∃ (y : Nat) (hh : Int) (f3 : Nat → Int), s11 = .int .i64 y ∧ s12 = .int .i64 hh ∧ a ≤ y ∧ y < b ∧ Hid3 (Ps g n a0 b0 a b f f3 w wx))
          case first =>
            by_cases hk3 : k = 2
            · subst hk3
              go_wp2_with fail
              refine (rev_any g n cap a b f2 W2 HS3'.out.r (by omega) hn (by omega)).mono ?_
              rintro r W3 ⟨rfl, f3, p1, p2, p3⟩
              have HS3 := Hid3.mk (HS3'.out.sh p1 p2 p3 ha0 hb0)
              clear p1 p2 p3
              obtain ⟨b9, hb91, hb92⟩ : ∃ b9, b9 + 1 ≤ b ∧ b ≤ b9 + 1 := ⟨b - 1, by omega, by omega⟩
              have hwb9 : IntKind.i64.wrap ((b : Int) - 1) = (b9 : Int) := by rw [IntKind.wrap_i64]; omega
              obtain ⟨xa, hxa1, hxa2⟩ : ∃ xa, xa + a ≤ x ∧ x ≤ xa + a := ⟨x - a, by omega, by omega⟩
              have hwxa : IntKind.i64.wrap ((x : Int) - (a : Int)) = (xa : Int) := by rw [IntKind.wrap_i64]; omega
              obtain ⟨y, hy1, hy2⟩ : ∃ y, y + xa ≤ b9 ∧ b9 ≤ y + xa := ⟨b9 - xa, by omega, by omega⟩
              have hwy : IntKind.i64.wrap ((b9 : Int) - (xa : Int)) = (y : Int) := by rw [IntKind.wrap_i64]; omega
              go_wp2_with fail
              go_meet
              case rel => exact ⟨y, 1, f3, by first | rfl | go_num, rfl, by omega, by omega, HS3⟩
            · go_wp2_with fail
              go_meet
              case rel => exact ⟨x, k, f2, rfl, rfl, hx1, hx2, HS3'⟩
          case rest =>
            obtain ⟨y, hh, f3, rfl, rfl, hy1, hy2, HS3⟩ := hcut
            clear HS3' hk1 hk2 hx1 hx2
            go_upto_region 15 with fail
            go_cut [68] from 19 (fun s68 wx => BoW s68 ∧ Hid3 (Ps g n a0 b0 a b f f3 w wx))
            case first =>
              cases bal <;> cases par <;> by_cases hh1 : hh = 1 <;>
                (go_wp2_with fail
                 go_meet
                 exact ⟨⟨_, rfl⟩, HS3⟩)
            case rest =>
              obtain ⟨⟨c, rfl⟩, HS4'⟩ := hcut
              clear HS3
              go_upto_if 68 with fail
              go_cut [] from 19 (fun wx => ∃ f4 : Nat → Int, Hid3 (Ps g n a0 b0 a b f f4 w wx))
              case first =>
                cases c
                · go_wp2_with fail
                  go_meet
                  case rel => exact ⟨f3, HS4'⟩
                · go_wp2_with fail
                  refine (partial_any g n cap a b f3 wc HS4'.out.r (by omega) (by omega) hn HS4'.out.l).mono ?_
                  rintro r W4 ⟨bl4, rfl, f4, p1, p2, p3, p4⟩
                  cases bl4
                  · have HS4 := Hid3.mk (HS4'.out.sh p1 p2 p4 ha0 hb0)
                    clear p1 p2 p3 p4
                    go_wp2_with fail
                    go_meet
                    case rel => exact ⟨f4, HS4⟩
                  · have HE := Hid3.mk (HS4'.out.fin p1 p2 (p3 rfl) p4 ha0 hb0)
                    clear p1 p2 p3 p4
                    go_wp2
                    (try simp only [Exit.inBlock, Exit.then])
                    refine bodyPost_ret (results_none rfl _ _ _) rfl ?_
                    exact ⟨rfl, HE.out⟩
              case rest =>
                obtain ⟨f4, HS4⟩ := hcut
                clear HS4'
                by_cases hap : 0 < a
                · have hapz : (0 : Int) < (a : Int) := by omega
                  have hgt : decide ((0 : Int) < (a : Int)) = true := by simpa using hapz
                  obtain ⟨q, hq1, hq2⟩ : ∃ q, q + 1 ≤ a ∧ a ≤ q + 1 := ⟨a - 1, by omega, by omega⟩
                  have hwq : IntKind.i64.wrap ((a : Int) - 1) = (q : Int) := by rw [IntKind.wrap_i64]; omega
                  have c1 := HS4.out.r.cell q (by omega)
                  have c2 := HS4.out.r.cell y (by omega)
                  have hg := HS4.out.r.lt
                  have b1z : (q : Int) < (n : Int) := by omega
                  have b2z : (y : Int) < (n : Int) := by omega
                  have cL := fun W => less_any (f4 q) (f4 y) W
                  by_cases hl : f4 q < f4 y
                  · have hld : decide (f4 q < f4 y) = true := by simpa using hl
                    rw [hld] at cL
                    go_wp2_with fail
                    go_quiet ((go_at_call 24; exact Calls.quiet_of_same (cL _)))
                    have HD := Hid3.mk (HS4.out.drewN nq)
                    clear HS4 c1 c2 hg cL
                    generalize wc.drewN nq = W5 at *
                    go_wp2_with fail
                    refine (part_any g n cap a b y _ W5 HD.out.r (by omega) (by omega) (by omega) hn).mono ?_
                    rintro r W6 ⟨m, bl, rfl, hm1, hm2, f6, p1, p2, p3, p4, p5, p6⟩
                    have HP := Hid3.mk (HD.out.part p1 p2 p3 p4 p5 p6 ha0 hb0 hm1 hm2)
                    clear p1 p2 p3 p4 p5 p6 HD
                    obtain ⟨ml, ml1, ml2⟩ : ∃ ml, ml + a ≤ m ∧ m ≤ ml + a := ⟨m - a, by omega, by omega⟩
                    obtain ⟨mr, mr1, mr2⟩ : ∃ mr, mr + m ≤ b ∧ b ≤ mr + m := ⟨b - m, by omega, by omega⟩
                    have hwml : IntKind.i64.wrap ((m : Int) - (a : Int)) = (ml : Int) := by rw [IntKind.wrap_i64]; omega
                    have hwmr : IntKind.i64.wrap ((b : Int) - (m : Int)) = (mr : Int) := by rw [IntKind.wrap_i64]; omega
                    have hwm1 : IntKind.i64.wrap ((m : Int) + 1) = ((m + 1 : Nat) : Int) := by rw [IntKind.wrap_i64]; omega
                    by_cases hlr : ml < mr
                    · have hlrz : (ml : Int) < (mr : Int) := by omega
                      go_wp2_with fail
                      refine (ih.out (m - a) (by omega) a m _ f6 W6 (Nat.le_refl _) (by omega) (by omega) HP.out.p.r HP.out.la).mono ?_
                      rintro r W7 ⟨rfl, f7, p1, p2, p3, p4⟩
                      have HS9 := Hid3.mk (HP.out.left p1 p2 p3 p4 ha0 hb0)
                      clear p1 p2 p3 p4 HP
                      go_wp2
                      go_roundg (b - (m + 1))
                      case measure => omega
                      case rel => exact ⟨m + 1, b, _, _, _, f7, by omega, by omega, by omega, by omega, by first | rfl | go_num, by first | rfl | go_num, rfl, rfl, rfl, HS9⟩
                    · have hlrz : ¬ (ml : Int) < (mr : Int) := by omega
                      go_wp2_with fail
                      refine (ih.out (b - (m + 1)) (by omega) (m + 1) b _ f6 W6 (Nat.le_refl _) (by omega) (by omega) HP.out.p.r HP.out.lb).mono ?_
                      rintro r W7 ⟨rfl, f7, p1, p2, p3, p4⟩
                      have HS9 := Hid3.mk (HP.out.right p1 p2 p3 p4 ha0 hb0)
                      clear p1 p2 p3 p4 HP
                      go_wp2
                      go_roundg (m - a)
                      case measure => omega
                      case rel => exact ⟨a, m, _, _, _, f7, by omega, by omega, by omega, by omega, by first | rfl | go_num, by first | rfl | go_num, rfl, rfl, rfl, HS9⟩
                  · have hld : decide (f4 q < f4 y) = false := by simpa using hl
                    rw [hld] at cL
                    go_wp2_with fail
                    go_quiet ((go_at_call 24; exact Calls.quiet_of_same (cL _)))
                    have HD := Hid3.mk (HS4.out.drewN nq)
                    clear HS4 c1 c2 hg cL
                    generalize wc.drewN nq = W5 at *
                    go_wp2_with fail
                    refine (parteq_any g n cap a b y _ W5 HD.out.r (by omega) (by omega) (by omega) hn).mono ?_
                    rintro r W6 ⟨x9, rfl, hx91, hx92, f6, p1, p2, p3, p4, p5⟩
                    have HS9 := Hid3.mk (HD.out.eq ha0 hb0 hq1 hq2 (by omega) (by omega) (by omega) hx91 hx92 p1 p2 p3 p4 p5)
                    clear p1 p2 p3 p4 p5 HD
                    go_wp2
                    go_roundg (b - x9)
                    case measure => omega
                    case rel => exact ⟨x9, b, _, _, _, f6, by omega, by omega, by omega, by omega, by first | rfl | go_num, by first | rfl | go_num, rfl, rfl, rfl, HS9⟩
                · have hapz : ¬ (0 : Int) < (a : Int) := by omega
                  have hgt : decide ((0 : Int) < (a : Int)) = false := by simpa using hapz
                  go_wp2_with fail
                  go_quiet (fail)
                  have HD := Hid3.mk (HS4.out.drewN nq)
                  clear HS4
                  generalize wc.drewN nq = W5 at *
                  go_wp2_with fail
                  refine (part_any g n cap a b y _ W5 HD.out.r (by omega) (by omega) (by omega) hn).mono ?_
                  rintro r W6 ⟨m, bl, rfl, hm1, hm2, f6, p1, p2, p3, p4, p5, p6⟩
                  have HP := Hid3.mk (HD.out.part p1 p2 p3 p4 p5 p6 ha0 hb0 hm1 hm2)
                  clear p1 p2 p3 p4 p5 p6 HD
                  obtain ⟨ml, ml1, ml2⟩ : ∃ ml, ml + a ≤ m ∧ m ≤ ml + a := ⟨m - a, by omega, by omega⟩
                  obtain ⟨mr, mr1, mr2⟩ : ∃ mr, mr + m ≤ b ∧ b ≤ mr + m := ⟨b - m, by omega, by omega⟩
                  have hwml : IntKind.i64.wrap ((m : Int) - (a : Int)) = (ml : Int) := by rw [IntKind.wrap_i64]; omega
                  have hwmr : IntKind.i64.wrap ((b : Int) - (m : Int)) = (mr : Int) := by rw [IntKind.wrap_i64]; omega
                  have hwm1 : IntKind.i64.wrap ((m : Int) + 1) = ((m + 1 : Nat) : Int) := by rw [IntKind.wrap_i64]; omega
                  by_cases hlr : ml < mr
                  · have hlrz : (ml : Int) < (mr : Int) := by omega
                    go_wp2_with fail
                    refine (ih.out (m - a) (by omega) a m _ f6 W6 (Nat.le_refl _) (by omega) (by omega) HP.out.p.r HP.out.la).mono ?_
                    rintro r W7 ⟨rfl, f7, p1, p2, p3, p4⟩
                    have HS9 := Hid3.mk (HP.out.left p1 p2 p3 p4 ha0 hb0)
                    clear p1 p2 p3 p4 HP
                    go_wp2
                    go_roundg (b - (m + 1))
                    case measure => omega
                    case rel => exact ⟨m + 1, b, _, _, _, f7, by omega, by omega, by omega, by omega, by first | rfl | go_num, by first | rfl | go_num, rfl, rfl, rfl, HS9⟩
                  · have hlrz : ¬ (ml : Int) < (mr : Int) := by omega
                    go_wp2_with fail
                    refine (ih.out (b - (m + 1)) (by omega) (m + 1) b _ f6 W6 (Nat.le_refl _) (by omega) (by omega) HP.out.p.r HP.out.lb).mono ?_
                    rintro r W7 ⟨rfl, f7, p1, p2, p3, p4⟩
                    have HS9 := Hid3.mk (HP.out.right p1 p2 p3 p4 ha0 hb0)
                    clear p1 p2 p3 p4 HP
                    go_wp2
                    go_roundg (m - a)
                    case measure => omega
                    case rel => exact ⟨a, m, _, _, _, f7, by omega, by omega, by omega, by omega, by first | rfl | go_num, by first | rfl | go_num, rfl, rfl, rfl, HS9⟩
theorem pdq_all (g n cap : Nat) (hn : n ≤ 64) (k : Nat) : PdqC g n cap k := by
  induction k using Nat.strongRecOn with
  | _ k ih => exact pdq_step g n cap k hn ih
end Go.Proofs.Ytknmbecabgencaa
