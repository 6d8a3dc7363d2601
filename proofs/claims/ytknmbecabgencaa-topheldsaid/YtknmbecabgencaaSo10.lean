/- The library's sort at uint8: partialInsertionSort. -/
import Derived.Test.YtknmbecabgencaaSo5
namespace Go.Proofs.Ytknmbecabgencaa
open Go.RowKit Go.Maps
set_option linter.unusedVariables false
set_option maxRecDepth 100000
theorem Srt.high {a i : Nat} {f : Nat → Int} (h : Srt a i f) (x y : Nat) (hx : i ≤ x) (hy : i ≤ y) : Srt a i (swF f x y) := fun p q h1 h2 h3 => by
  unfold swF
  rw [if_neg (by omega), if_neg (by omega), if_neg (by omega), if_neg (by omega)]
  exact h p q h1 h2 h3
theorem Srt.swp {a i k : Nat} {f : Nat → Int} (h : Srt a i f) (h1 : k + 1 ≤ i) (h2 : i ≤ k + 1) : Inv a k k (swF f i k) := fun p q k1 k2 k3 k4 => by
  unfold swF
  rw [if_neg (by omega), if_neg (by omega), if_neg (by omega), if_neg (by omega)]
  exact h p q k1 k2 (by omega)
theorem Srt.up {a i k : Nat} {f : Nat → Int} (h : Srt a i f) (ha : a + 1 ≤ i) (h1 : k + 1 ≤ i) (h2 : i ≤ k + 1) (hl : ¬ f i < f k) : Srt a (i + 1) f := by
  have e : k = i - 1 := by omega
  rw [e] at hl
  exact h.inv.endJ (by omega) (Nat.le_refl _) hl
theorem Inv.step2 {a i j k : Nat} {f : Nat → Int} (h : Inv a i j f) (h1 : a < j) (h2 : j ≤ i) (q1 : k + 1 ≤ j) (q2 : j ≤ k + 1) (hl : f j < f k) : Inv a i k (swF f j k) := by
  have e : k = j - 1 := by omega
  rw [e] at hl ⊢
  exact h.step h1 h2 hl
theorem Inv.endL {a i j k q : Nat} {f : Nat → Int} (h : Inv a k j f) (h1 : k + 1 ≤ i) (h2 : i ≤ k + 1) (h3 : a ≤ j) (h4 : j ≤ k) (q1 : q + 1 ≤ j) (q2 : j ≤ q + 1) (hl : ¬ f j < f q) : Srt a i f := by
  have e : q = j - 1 := by omega
  have e2 : i = k + 1 := by omega
  rw [e] at hl
  rw [e2]
  by_cases ea : a = j
  · rw [← ea] at h
    exact h.endA
  · exact h.endJ (by omega) h4 hl
theorem Inv.endZ {a i j k : Nat} {f : Nat → Int} (h : Inv a k j f) (h1 : k + 1 ≤ i) (h2 : i ≤ k + 1) (h3 : a ≤ j) (h4 : j ≤ a) : Srt a i f := by
  have e2 : i = k + 1 := by omega
  have ea : j = a := by omega
  rw [e2]
  rw [ea] at h
  exact h.endA
theorem Sh.strict {a b j q : Nat} {f f3 : Nat → Int} (h : Sh a b f f3) (hF : 0 < a → ∀ p, a ≤ p → p < b → f (a - 1) ≤ f p) (h1 : a ≤ j) (h2 : j < b) (q1 : q + 1 ≤ j) (q2 : j ≤ q + 1) (hl : f3 j < f3 q) : a < j := by
  by_cases ea : a = j
  · exfalso
    obtain ⟨⟨s, t, h3, h4⟩, h5⟩ := h
    have e1 := h4 j h1 h2
    have e2 := h5 q (.inl (by omega))
    have e3 := hF (by omega) (s j) (h3 j h1 h2).1.1 (h3 j h1 h2).1.2.1
    have e4 : q = a - 1 := by omega
    rw [e1, e2, e4] at hl
    omega
  · omega
def SoB (bl : Bool) (a b : Nat) (f : Nat → Int) : Prop := bl = true → Srt a b f
structure PiR (g n a b : Nat) (f : Nat → Int) (w : World) (r : Ending) (w' : World) : Prop where
  o : ∃ bl : Bool, r = .returned (.bool bl) ∧ ∃ f', Ro w' g n f' ∧ Sh a b f f' ∧ SoB bl a b f' ∧ Apart (XB g) w w'
theorem PiR.of {g n a b : Nat} {f : Nat → Int} {w w' : World} {r : Ending} (bl : Bool) (h : r = .returned (.bool bl)) (k : ∃ f', Ro w' g n f' ∧ Sh a b f f' ∧ SoB bl a b f' ∧ Apart (XB g) w w') : PiR g n a b f w r w' := ⟨bl, h, k⟩
set_option maxHeartbeats 16000000 in
theorem partial_any (g n cap a b : Nat) (f : Nat → Int) (w : World) (h : Ro w g n f) (hab : a < b) (hb : b ≤ n) (hn : n ≤ 64) (hf : 0 < a → ∀ p, a ≤ p → p < b → f (a - 1) ≤ f p) : Calls Try.prog 23 #[.slice (some ⟨g, 0, none⟩) n cap, .int .i64 a, .int .i64 b] w fun r w' => PiR g n a b f w r w' := by
  have H0 := Hid3.mk h
  have hF := Hid3.mk hf
  have hwa : IntKind.i64.wrap ((a : Int) + 1) = ((a + 1 : Nat) : Int) := by rw [IntKind.wrap_i64]; omega
  obtain ⟨d, hd1, hd2⟩ : ∃ d, d + a ≤ b ∧ b ≤ d + a := ⟨b - a, by omega, by omega⟩
  have hwd : IntKind.i64.wrap ((b : Int) - (a : Int)) = (d : Int) := by rw [IntKind.wrap_i64]; omega
  clear h hf
  go_enter Try.func23, Try.ntmps23
  go_wp2_with fail
  go_loopw [7, 8] (fun s7 s8 wr => ∃ (i jo : Nat) (f1 : Nat → Int), a + 1 ≤ i ∧ i ≤ b ∧ jo ≤ 5 ∧ s7 = .int .i64 i ∧ s8 = .int .i64 jo ∧ Hid3 (Ro wr g n f1 ∧ Sh a b f f1 ∧ Srt a i f1 ∧ Apart (XB g) w wr)) (fun _ t _ => (5 - intOf t).toNat)
  case atStart => exact ⟨a + 1, 0, f, by omega, by omega, by omega, by first | rfl | go_num, rfl, ⟨H0.out, Sh.refl _ _ _, fun p q h1 h2 h3 => by omega, Apart.refl _ _⟩⟩
  case round =>
    obtain ⟨i, jo, f1, hi1, hi2, hjo, rfl, rfl, HS⟩ := hrel
    clear H0
    by_cases hj5 : jo < 5
    · have hj5z : (jo : Int) < 5 := by omega
      have hwjo : IntKind.i64.wrap ((jo : Int) + 1) = ((jo + 1 : Nat) : Int) := by rw [IntKind.wrap_i64]; omega
      go_wp2_with fail
      go_loopw [7] (fun s7 wr => ∃ (i2 : Nat), a + 1 ≤ i2 ∧ i2 ≤ b ∧ s7 = .int .i64 i2 ∧ Hid3 (Ro wr g n f1 ∧ Sh a b f f1 ∧ Srt a i2 f1 ∧ Apart (XB g) w wr)) (fun s _ => b - (intOf s).toNat)
      case atStart => exact ⟨i, by omega, by omega, rfl, HS⟩
      case round =>
        obtain ⟨i2, hi21, hi22, rfl, HS2⟩ := hrel
        clear HS
        by_cases hib : i2 < b
        · have hibz : (i2 : Int) < (b : Int) := by omega
          have hgt : decide ((i2 : Int) < (b : Int)) = true := by simpa using hibz
          have hneb : ¬ (i2 : Int) = (b : Int) := by omega
          obtain ⟨k, hk1, hk2⟩ : ∃ k, k + 1 ≤ i2 ∧ i2 ≤ k + 1 := ⟨i2 - 1, by omega, by omega⟩
          have hwk : IntKind.i64.wrap ((i2 : Int) - 1) = (k : Int) := by rw [IntKind.wrap_i64]; omega
          have hwi2 : IntKind.i64.wrap ((i2 : Int) + 1) = ((i2 + 1 : Nat) : Int) := by rw [IntKind.wrap_i64]; omega
          have y1 := HS2.out.1.cell i2 (by omega)
          have y2 := HS2.out.1.cell k (by omega)
          have y3 := HS2.out.1.thaw i2
          have y4 := HS2.out.1.thaw k
          have y5 := HS2.out.1.lt
          have y6 : i2 < n := by omega
          have y7 : k < n := by omega
          have y8 : (i2 : Int) < (n : Int) := by omega
          have y9 : (k : Int) < (n : Int) := by omega
          have cL := fun W => less_any (f1 i2) (f1 k) W
          by_cases hl : f1 i2 < f1 k
          · have hld : decide (f1 i2 < f1 k) = true := by simpa using hl
            rw [hld] at cL
            by_cases hd50 : d < 50
            · have hd50z : (d : Int) < 50 := by omega
              have HE : Hid3 (∀ m, ∃ f', Ro (wr.drewN m) g n f' ∧ Sh a b f f' ∧ SoB false a b f' ∧ Apart (XB g) w (wr.drewN m)) := ⟨fun m => ⟨f1, HS2.out.1.drewN m, HS2.out.2.1, (fun e => by cases e), HS2.out.2.2.2.trans (apart_drewN g wr m)⟩⟩
              go_wp2_with fail
              go_quiet ((go_at_call 24; exact Calls.quiet_of_same (cL _)))
              go_wp2
              go_ret
              exact PiR.of false rfl (HE.out _)
            · have hd50z : ¬ (d : Int) < 50 := by omega
              obtain ⟨e1n, he11, he12⟩ : ∃ e1n, e1n + a ≤ i2 ∧ i2 ≤ e1n + a := ⟨i2 - a, by omega, by omega⟩
              have hwe1 : IntKind.i64.wrap ((i2 : Int) - (a : Int)) = (e1n : Int) := by rw [IntKind.wrap_i64]; omega
              obtain ⟨e2n, he21, he22⟩ : ∃ e2n, e2n + i2 ≤ b ∧ b ≤ e2n + i2 := ⟨b - i2, by omega, by omega⟩
              have hwe2 : IntKind.i64.wrap ((b : Int) - (i2 : Int)) = (e2n : Int) := by rw [IntKind.wrap_i64]; omega
              have HSW : Hid3 (∀ m, Ro (((wr.drewN m).setCell ⟨g, i2, none⟩ (.int .u8 (f1 k))).setCell ⟨g, k, none⟩ (.int .u8 (f1 i2))).drew g n (swF f1 i2 k) ∧ Sh a b f (swF f1 i2 k) ∧ Inv a k k (swF f1 i2 k) ∧ Apart (XB g) w (((wr.drewN m).setCell ⟨g, i2, none⟩ (.int .u8 (f1 k))).setCell ⟨g, k, none⟩ (.int .u8 (f1 i2))).drew) := ⟨fun m => ⟨((HS2.out.1.drewN m).swap i2 k y6 y7).drew, HS2.out.2.1.trans (Sh.swap a b f1 i2 k (by omega) (by omega) (by omega) (by omega)), HS2.out.2.2.1.swp hk1 hk2, ((HS2.out.2.2.2.trans (apart_drewN g wr m)).trans ((Apart.at (X := XB g) _ g _ _ rfl).trans (Apart.at (X := XB g) _ g _ _ rfl))).drew⟩⟩
              go_wp2_with fail
              go_quiet ((go_at_call 24; exact Calls.quiet_of_same (cL _)))
              go_wp2_with fail
              have d1 : (wr.drewN nq).cell? ⟨g, i2, none⟩ = some (.int .u8 (f1 i2)) := y1
              have d2 : (wr.drewN nq).cell? ⟨g, k, none⟩ = some (.int .u8 (f1 k)) := y2
              have e1 : (wr.drewN nq).frozen? ⟨g, i2, none⟩ = false := y3
              have e2 : (wr.drewN nq).frozen? ⟨g, k, none⟩ = false := y4
              have hg2 : g < (wr.drewN nq).heap.size := y5
              have HS9 := Hid3.mk (HSW.out nq)
              have hne1 : i2 ≠ k := by omega
              have hne2 : k ≠ i2 := by omega
              clear HSW y1 y2 y3 y4 y5 cL HS2
              generalize wr.drewN nq = W6 at *
              go_region
              clear hd50 hd50z hwd hd1 hd2 hgt
              by_cases h2e : 2 ≤ e1n
              · have h2ez : (2 : Int) ≤ (e1n : Int) := by omega
                go_wp2_with fail
                go_loopw [9] (fun s9 wr => ∃ (j3 : Nat) (f3 : Nat → Int), a ≤ j3 ∧ j3 ≤ k ∧ s9 = .int .i64 j3 ∧ Hid3 (Ro wr g n f3 ∧ Sh a b f f3 ∧ Inv a k j3 f3 ∧ Apart (XB g) w wr)) (fun s _ => (intOf s).toNat)
                case atStart => exact ⟨k, _, by omega, by omega, by first | rfl | go_num, HS9⟩
                case round =>
                  obtain ⟨j3, f3, hj31, hj32, rfl, HL⟩ := hrel
                  clear HS9
                  by_cases h1j : 1 ≤ j3
                  · have h1jz : (1 : Int) ≤ (j3 : Int) := by omega
                    obtain ⟨q, hq1, hq2⟩ : ∃ q, q + 1 ≤ j3 ∧ j3 ≤ q + 1 := ⟨j3 - 1, by omega, by omega⟩
                    have hwq : IntKind.i64.wrap ((j3 : Int) - 1) = (q : Int) := by rw [IntKind.wrap_i64]; omega
                    have x1 := HL.out.1.cell j3 (by omega)
                    have x2 := HL.out.1.cell q (by omega)
                    have x3 := HL.out.1.thaw j3
                    have x4 := HL.out.1.thaw q
                    have x5 := HL.out.1.lt
                    have x6 : j3 < n := by omega
                    have x7 : q < n := by omega
                    have x8 : (j3 : Int) < (n : Int) := by omega
                    have x9 : (q : Int) < (n : Int) := by omega
                    have cL := fun W => less_any (f3 j3) (f3 q) W
                    by_cases hl3 : f3 j3 < f3 q
                    · have hld3 : decide (f3 j3 < f3 q) = true := by simpa using hl3
                      rw [hld3] at cL
                      have haj : a < j3 := HL.out.2.1.strict hF.out hj31 (by omega) hq1 hq2 hl3
                      have HSW : Hid3 (∀ m, Ro (((wr.drewN m).setCell ⟨g, j3, none⟩ (.int .u8 (f3 q))).setCell ⟨g, q, none⟩ (.int .u8 (f3 j3))).drew g n (swF f3 j3 q) ∧ Sh a b f (swF f3 j3 q) ∧ Inv a k q (swF f3 j3 q) ∧ Apart (XB g) w (((wr.drewN m).setCell ⟨g, j3, none⟩ (.int .u8 (f3 q))).setCell ⟨g, q, none⟩ (.int .u8 (f3 j3))).drew) := ⟨fun m => ⟨((HL.out.1.drewN m).swap j3 q x6 x7).drew, HL.out.2.1.trans (Sh.swap a b f3 j3 q (by omega) (by omega) (by omega) (by omega)), HL.out.2.2.1.step2 haj hj32 hq1 hq2 hl3, ((HL.out.2.2.2.trans (apart_drewN g wr m)).trans ((Apart.at (X := XB g) _ g _ _ rfl).trans (Apart.at (X := XB g) _ g _ _ rfl))).drew⟩⟩
                      go_wp2_with fail
                      go_quiet ((go_at_call 24; exact Calls.quiet_of_same (cL _)))
                      go_wp2_with fail
                      have d1 : (wr.drewN nq).cell? ⟨g, j3, none⟩ = some (.int .u8 (f3 j3)) := x1
                      have d2 : (wr.drewN nq).cell? ⟨g, q, none⟩ = some (.int .u8 (f3 q)) := x2
                      have e1 : (wr.drewN nq).frozen? ⟨g, j3, none⟩ = false := x3
                      have e2 : (wr.drewN nq).frozen? ⟨g, q, none⟩ = false := x4
                      have hg2 : g < (wr.drewN nq).heap.size := x5
                      have HS9 := Hid3.mk (HSW.out nq)
                      have hne1 : j3 ≠ q := by omega
                      have hne2 : q ≠ j3 := by omega
                      clear HSW x1 x2 x3 x4 x5 cL HL
                      generalize wr.drewN nq = W6 at *
                      go_region
                      go_wp2
                      go_roundw
                      case rel => exact ⟨q, _, by omega, by omega, by first | rfl | go_num, HS9⟩
                      case measure => simp [intOf]; omega
                    · have hld3 : decide (f3 j3 < f3 q) = false := by simpa using hl3
                      rw [hld3] at cL
                      have HT1 : Hid3 (∀ m, Ro (wr.drewN m) g n f3 ∧ Sh a b f f3 ∧ Srt a i2 f3 ∧ Apart (XB g) w (wr.drewN m)) := ⟨fun m => ⟨HL.out.1.drewN m, HL.out.2.1, HL.out.2.2.1.endL hk1 hk2 hj31 hj32 hq1 hq2 hl3, HL.out.2.2.2.trans (apart_drewN g wr m)⟩⟩
                      go_wp2_with fail
                      go_quiet ((go_at_call 24; exact Calls.quiet_of_same (cL _)))
                      have HT := Hid3.mk (HT1.out nq)
                      clear HT1 HL x1 x2 x3 x4 x5 cL
                      generalize wr.drewN nq = W7 at *
                      by_cases h22 : 2 ≤ e2n
                      · have h22z : (2 : Int) ≤ (e2n : Int) := by omega
                        go_wp2_with fail
                        go_loopw [10] (fun s10 wr => ∃ (j4 : Nat) (f5 : Nat → Int), i2 + 1 ≤ j4 ∧ j4 ≤ b ∧ s10 = .int .i64 j4 ∧ Hid3 (Ro wr g n f5 ∧ Sh a b f f5 ∧ Srt a i2 f5 ∧ Apart (XB g) w wr)) (fun s _ => b - (intOf s).toNat)
                        case atStart => exact ⟨i2 + 1, _, by omega, by omega, by first | rfl | go_num, HT⟩
                        case round =>
                          obtain ⟨j4, f5, hj41, hj42, rfl, HR⟩ := hrel
                          clear HT
                          by_cases hj4b : j4 < b
                          · have hj4bz : (j4 : Int) < (b : Int) := by omega
                            obtain ⟨q, hq1, hq2⟩ : ∃ q, q + 1 ≤ j4 ∧ j4 ≤ q + 1 := ⟨j4 - 1, by omega, by omega⟩
                            have hwq : IntKind.i64.wrap ((j4 : Int) - 1) = (q : Int) := by rw [IntKind.wrap_i64]; omega
                            have hwj4 : IntKind.i64.wrap ((j4 : Int) + 1) = ((j4 + 1 : Nat) : Int) := by rw [IntKind.wrap_i64]; omega
                            have x1 := HR.out.1.cell j4 (by omega)
                            have x2 := HR.out.1.cell q (by omega)
                            have x3 := HR.out.1.thaw j4
                            have x4 := HR.out.1.thaw q
                            have x5 := HR.out.1.lt
                            have x6 : j4 < n := by omega
                            have x7 : q < n := by omega
                            have x8 : (j4 : Int) < (n : Int) := by omega
                            have x9 : (q : Int) < (n : Int) := by omega
                            have cL := fun W => less_any (f5 j4) (f5 q) W
                            by_cases hl5 : f5 j4 < f5 q
                            · have hld5 : decide (f5 j4 < f5 q) = true := by simpa using hl5
                              rw [hld5] at cL
                              have HSW : Hid3 (∀ m, Ro (((wr.drewN m).setCell ⟨g, j4, none⟩ (.int .u8 (f5 q))).setCell ⟨g, q, none⟩ (.int .u8 (f5 j4))).drew g n (swF f5 j4 q) ∧ Sh a b f (swF f5 j4 q) ∧ Srt a i2 (swF f5 j4 q) ∧ Apart (XB g) w (((wr.drewN m).setCell ⟨g, j4, none⟩ (.int .u8 (f5 q))).setCell ⟨g, q, none⟩ (.int .u8 (f5 j4))).drew) := ⟨fun m => ⟨((HR.out.1.drewN m).swap j4 q x6 x7).drew, HR.out.2.1.trans (Sh.swap a b f5 j4 q (by omega) (by omega) (by omega) (by omega)), HR.out.2.2.1.high j4 q (by omega) (by omega), ((HR.out.2.2.2.trans (apart_drewN g wr m)).trans ((Apart.at (X := XB g) _ g _ _ rfl).trans (Apart.at (X := XB g) _ g _ _ rfl))).drew⟩⟩
                              go_wp2_with fail
                              go_quiet ((go_at_call 24; exact Calls.quiet_of_same (cL _)))
                              go_wp2_with fail
                              have d1 : (wr.drewN nq).cell? ⟨g, j4, none⟩ = some (.int .u8 (f5 j4)) := x1
                              have d2 : (wr.drewN nq).cell? ⟨g, q, none⟩ = some (.int .u8 (f5 q)) := x2
                              have e1 : (wr.drewN nq).frozen? ⟨g, j4, none⟩ = false := x3
                              have e2 : (wr.drewN nq).frozen? ⟨g, q, none⟩ = false := x4
                              have hg2 : g < (wr.drewN nq).heap.size := x5
                              have HS9 := Hid3.mk (HSW.out nq)
                              have hne1 : j4 ≠ q := by omega
                              have hne2 : q ≠ j4 := by omega
                              clear HSW x1 x2 x3 x4 x5 cL HR
                              generalize wr.drewN nq = W6 at *
                              go_region
                              go_wp2
                              go_roundw
                              case rel => exact ⟨j4 + 1, _, by omega, by omega, by go_num, HS9⟩
                              case measure => simp [intOf]; omega
                            · have hld5 : decide (f5 j4 < f5 q) = false := by simpa using hl5
                              rw [hld5] at cL
                              have HS9 : Hid3 (∀ m, Ro (wr.drewN m) g n f5 ∧ Sh a b f f5 ∧ Srt a i2 f5 ∧ Apart (XB g) w (wr.drewN m)) := ⟨fun m => ⟨HR.out.1.drewN m, HR.out.2.1, HR.out.2.2.1, HR.out.2.2.2.trans (apart_drewN g wr m)⟩⟩
                              go_wp2_with fail
                              go_quiet ((go_at_call 24; exact Calls.quiet_of_same (cL _)))
                              go_wp2
                              go_roundw
                              case rel => exact ⟨i2, jo + 1, f5, by omega, by omega, by omega, by first | rfl | go_num, by go_num, ⟨HS9.out _⟩⟩
                              case measure => simp [intOf]; omega
                          · have hj4bz : ¬ (j4 : Int) < (b : Int) := by omega
                            go_wp2
                            go_roundw
                            case rel => exact ⟨i2, jo + 1, f5, by omega, by omega, by omega, by first | rfl | go_num, by go_num, HR⟩
                            case measure => simp [intOf]; omega
                      · have h22z : ¬ (2 : Int) ≤ (e2n : Int) := by omega
                        go_wp2
                        go_roundw
                        case rel => exact ⟨i2, jo + 1, _, by omega, by omega, by omega, by first | rfl | go_num, by go_num, HT⟩
                        case measure => simp [intOf]; omega
                  · have h1jz : ¬ (1 : Int) ≤ (j3 : Int) := by omega
                    have HT : Hid3 (Ro wr g n f3 ∧ Sh a b f f3 ∧ Srt a i2 f3 ∧ Apart (XB g) w wr) := ⟨HL.out.1, HL.out.2.1, HL.out.2.2.1.endZ hk1 hk2 (by omega) (by omega), HL.out.2.2.2⟩
                    clear HL
                    by_cases h22 : 2 ≤ e2n
                    · have h22z : (2 : Int) ≤ (e2n : Int) := by omega
                      go_wp2_with fail
                      go_loopw [10] (fun s10 wr => ∃ (j4 : Nat) (f5 : Nat → Int), i2 + 1 ≤ j4 ∧ j4 ≤ b ∧ s10 = .int .i64 j4 ∧ Hid3 (Ro wr g n f5 ∧ Sh a b f f5 ∧ Srt a i2 f5 ∧ Apart (XB g) w wr)) (fun s _ => b - (intOf s).toNat)
                      case atStart => exact ⟨i2 + 1, _, by omega, by omega, by first | rfl | go_num, HT⟩
                      case round =>
                        obtain ⟨j4, f5, hj41, hj42, rfl, HR⟩ := hrel
                        clear HT
                        by_cases hj4b : j4 < b
                        · have hj4bz : (j4 : Int) < (b : Int) := by omega
                          obtain ⟨q, hq1, hq2⟩ : ∃ q, q + 1 ≤ j4 ∧ j4 ≤ q + 1 := ⟨j4 - 1, by omega, by omega⟩
                          have hwq : IntKind.i64.wrap ((j4 : Int) - 1) = (q : Int) := by rw [IntKind.wrap_i64]; omega
                          have hwj4 : IntKind.i64.wrap ((j4 : Int) + 1) = ((j4 + 1 : Nat) : Int) := by rw [IntKind.wrap_i64]; omega
                          have x1 := HR.out.1.cell j4 (by omega)
                          have x2 := HR.out.1.cell q (by omega)
                          have x3 := HR.out.1.thaw j4
                          have x4 := HR.out.1.thaw q
                          have x5 := HR.out.1.lt
                          have x6 : j4 < n := by omega
                          have x7 : q < n := by omega
                          have x8 : (j4 : Int) < (n : Int) := by omega
                          have x9 : (q : Int) < (n : Int) := by omega
                          have cL := fun W => less_any (f5 j4) (f5 q) W
                          by_cases hl5 : f5 j4 < f5 q
                          · have hld5 : decide (f5 j4 < f5 q) = true := by simpa using hl5
                            rw [hld5] at cL
                            have HSW : Hid3 (∀ m, Ro (((wr.drewN m).setCell ⟨g, j4, none⟩ (.int .u8 (f5 q))).setCell ⟨g, q, none⟩ (.int .u8 (f5 j4))).drew g n (swF f5 j4 q) ∧ Sh a b f (swF f5 j4 q) ∧ Srt a i2 (swF f5 j4 q) ∧ Apart (XB g) w (((wr.drewN m).setCell ⟨g, j4, none⟩ (.int .u8 (f5 q))).setCell ⟨g, q, none⟩ (.int .u8 (f5 j4))).drew) := ⟨fun m => ⟨((HR.out.1.drewN m).swap j4 q x6 x7).drew, HR.out.2.1.trans (Sh.swap a b f5 j4 q (by omega) (by omega) (by omega) (by omega)), HR.out.2.2.1.high j4 q (by omega) (by omega), ((HR.out.2.2.2.trans (apart_drewN g wr m)).trans ((Apart.at (X := XB g) _ g _ _ rfl).trans (Apart.at (X := XB g) _ g _ _ rfl))).drew⟩⟩
                            go_wp2_with fail
                            go_quiet ((go_at_call 24; exact Calls.quiet_of_same (cL _)))
                            go_wp2_with fail
                            have d1 : (wr.drewN nq).cell? ⟨g, j4, none⟩ = some (.int .u8 (f5 j4)) := x1
                            have d2 : (wr.drewN nq).cell? ⟨g, q, none⟩ = some (.int .u8 (f5 q)) := x2
                            have e1 : (wr.drewN nq).frozen? ⟨g, j4, none⟩ = false := x3
                            have e2 : (wr.drewN nq).frozen? ⟨g, q, none⟩ = false := x4
                            have hg2 : g < (wr.drewN nq).heap.size := x5
                            have HS9 := Hid3.mk (HSW.out nq)
                            have hne1 : j4 ≠ q := by omega
                            have hne2 : q ≠ j4 := by omega
                            clear HSW x1 x2 x3 x4 x5 cL HR
                            generalize wr.drewN nq = W6 at *
                            go_region
                            go_wp2
                            go_roundw
                            case rel => exact ⟨j4 + 1, _, by omega, by omega, by go_num, HS9⟩
                            case measure => simp [intOf]; omega
                          · have hld5 : decide (f5 j4 < f5 q) = false := by simpa using hl5
                            rw [hld5] at cL
                            have HS9 : Hid3 (∀ m, Ro (wr.drewN m) g n f5 ∧ Sh a b f f5 ∧ Srt a i2 f5 ∧ Apart (XB g) w (wr.drewN m)) := ⟨fun m => ⟨HR.out.1.drewN m, HR.out.2.1, HR.out.2.2.1, HR.out.2.2.2.trans (apart_drewN g wr m)⟩⟩
                            go_wp2_with fail
                            go_quiet ((go_at_call 24; exact Calls.quiet_of_same (cL _)))
                            go_wp2
                            go_roundw
                            case rel => exact ⟨i2, jo + 1, f5, by omega, by omega, by omega, by first | rfl | go_num, by go_num, ⟨HS9.out _⟩⟩
                            case measure => simp [intOf]; omega
                        · have hj4bz : ¬ (j4 : Int) < (b : Int) := by omega
                          go_wp2
                          go_roundw
                          case rel => exact ⟨i2, jo + 1, f5, by omega, by omega, by omega, by first | rfl | go_num, by go_num, HR⟩
                          case measure => simp [intOf]; omega
                    · have h22z : ¬ (2 : Int) ≤ (e2n : Int) := by omega
                      go_wp2
                      go_roundw
                      case rel => exact ⟨i2, jo + 1, _, by omega, by omega, by omega, by first | rfl | go_num, by go_num, HT⟩
                      case measure => simp [intOf]; omega
              · have h2ez : ¬ (2 : Int) ≤ (e1n : Int) := by omega
                have HT := Hid3.mk (show _ ∧ _ ∧ Srt a i2 (swF f1 i2 k) ∧ _ from ⟨HS9.out.1, HS9.out.2.1, fun p q h1 h2 h3 => by omega, HS9.out.2.2.2⟩)
                clear HS9
                by_cases h22 : 2 ≤ e2n
                · have h22z : (2 : Int) ≤ (e2n : Int) := by omega
                  go_wp2_with fail
                  go_loopw [10] (fun s10 wr => ∃ (j4 : Nat) (f5 : Nat → Int), i2 + 1 ≤ j4 ∧ j4 ≤ b ∧ s10 = .int .i64 j4 ∧ Hid3 (Ro wr g n f5 ∧ Sh a b f f5 ∧ Srt a i2 f5 ∧ Apart (XB g) w wr)) (fun s _ => b - (intOf s).toNat)
                  case atStart => exact ⟨i2 + 1, _, by omega, by omega, by first | rfl | go_num, HT⟩
                  case round =>
                    obtain ⟨j4, f5, hj41, hj42, rfl, HR⟩ := hrel
                    clear HT
                    by_cases hj4b : j4 < b
                    · have hj4bz : (j4 : Int) < (b : Int) := by omega
                      obtain ⟨q, hq1, hq2⟩ : ∃ q, q + 1 ≤ j4 ∧ j4 ≤ q + 1 := ⟨j4 - 1, by omega, by omega⟩
                      have hwq : IntKind.i64.wrap ((j4 : Int) - 1) = (q : Int) := by rw [IntKind.wrap_i64]; omega
                      have hwj4 : IntKind.i64.wrap ((j4 : Int) + 1) = ((j4 + 1 : Nat) : Int) := by rw [IntKind.wrap_i64]; omega
                      have x1 := HR.out.1.cell j4 (by omega)
                      have x2 := HR.out.1.cell q (by omega)
                      have x3 := HR.out.1.thaw j4
                      have x4 := HR.out.1.thaw q
                      have x5 := HR.out.1.lt
                      have x6 : j4 < n := by omega
                      have x7 : q < n := by omega
                      have x8 : (j4 : Int) < (n : Int) := by omega
                      have x9 : (q : Int) < (n : Int) := by omega
                      have cL := fun W => less_any (f5 j4) (f5 q) W
                      by_cases hl5 : f5 j4 < f5 q
                      · have hld5 : decide (f5 j4 < f5 q) = true := by simpa using hl5
                        rw [hld5] at cL
                        have HSW : Hid3 (∀ m, Ro (((wr.drewN m).setCell ⟨g, j4, none⟩ (.int .u8 (f5 q))).setCell ⟨g, q, none⟩ (.int .u8 (f5 j4))).drew g n (swF f5 j4 q) ∧ Sh a b f (swF f5 j4 q) ∧ Srt a i2 (swF f5 j4 q) ∧ Apart (XB g) w (((wr.drewN m).setCell ⟨g, j4, none⟩ (.int .u8 (f5 q))).setCell ⟨g, q, none⟩ (.int .u8 (f5 j4))).drew) := ⟨fun m => ⟨((HR.out.1.drewN m).swap j4 q x6 x7).drew, HR.out.2.1.trans (Sh.swap a b f5 j4 q (by omega) (by omega) (by omega) (by omega)), HR.out.2.2.1.high j4 q (by omega) (by omega), ((HR.out.2.2.2.trans (apart_drewN g wr m)).trans ((Apart.at (X := XB g) _ g _ _ rfl).trans (Apart.at (X := XB g) _ g _ _ rfl))).drew⟩⟩
                        go_wp2_with fail
                        go_quiet ((go_at_call 24; exact Calls.quiet_of_same (cL _)))
                        go_wp2_with fail
                        have d1 : (wr.drewN nq).cell? ⟨g, j4, none⟩ = some (.int .u8 (f5 j4)) := x1
                        have d2 : (wr.drewN nq).cell? ⟨g, q, none⟩ = some (.int .u8 (f5 q)) := x2
                        have e1 : (wr.drewN nq).frozen? ⟨g, j4, none⟩ = false := x3
                        have e2 : (wr.drewN nq).frozen? ⟨g, q, none⟩ = false := x4
                        have hg2 : g < (wr.drewN nq).heap.size := x5
                        have HS9 := Hid3.mk (HSW.out nq)
                        have hne1 : j4 ≠ q := by omega
                        have hne2 : q ≠ j4 := by omega
                        clear HSW x1 x2 x3 x4 x5 cL HR
                        generalize wr.drewN nq = W6 at *
                        go_region
                        go_wp2
                        go_roundw
                        case rel => exact ⟨j4 + 1, _, by omega, by omega, by go_num, HS9⟩
                        case measure => simp [intOf]; omega
                      · have hld5 : decide (f5 j4 < f5 q) = false := by simpa using hl5
                        rw [hld5] at cL
                        have HS9 : Hid3 (∀ m, Ro (wr.drewN m) g n f5 ∧ Sh a b f f5 ∧ Srt a i2 f5 ∧ Apart (XB g) w (wr.drewN m)) := ⟨fun m => ⟨HR.out.1.drewN m, HR.out.2.1, HR.out.2.2.1, HR.out.2.2.2.trans (apart_drewN g wr m)⟩⟩
                        go_wp2_with fail
                        go_quiet ((go_at_call 24; exact Calls.quiet_of_same (cL _)))
                        go_wp2
                        go_roundw
                        case rel => exact ⟨i2, jo + 1, f5, by omega, by omega, by omega, by first | rfl | go_num, by go_num, ⟨HS9.out _⟩⟩
                        case measure => simp [intOf]; omega
                    · have hj4bz : ¬ (j4 : Int) < (b : Int) := by omega
                      go_wp2
                      go_roundw
                      case rel => exact ⟨i2, jo + 1, f5, by omega, by omega, by omega, by first | rfl | go_num, by go_num, HR⟩
                      case measure => simp [intOf]; omega
                · have h22z : ¬ (2 : Int) ≤ (e2n : Int) := by omega
                  go_wp2
                  go_roundw
                  case rel => exact ⟨i2, jo + 1, _, by omega, by omega, by omega, by first | rfl | go_num, by go_num, HT⟩
                  case measure => simp [intOf]; omega
          · have hld : decide (f1 i2 < f1 k) = false := by simpa using hl
            rw [hld] at cL
            have HE : Hid3 (∀ m, Ro (wr.drewN m) g n f1 ∧ Sh a b f f1 ∧ Srt a (i2 + 1) f1 ∧ Apart (XB g) w (wr.drewN m)) := ⟨fun m => ⟨HS2.out.1.drewN m, HS2.out.2.1, HS2.out.2.2.1.up hi21 hk1 hk2 hl, HS2.out.2.2.2.trans (apart_drewN g wr m)⟩⟩
            go_wp2_with fail
            go_quiet ((go_at_call 24; exact Calls.quiet_of_same (cL _)))
            go_wp2
            go_roundw
            case rel => exact ⟨i2 + 1, by omega, by omega, by go_num, ⟨HE.out _⟩⟩
            case measure => simp [intOf]; omega
        · obtain rfl : i2 = b := by omega
          have hgt : decide ((i2 : Int) < (i2 : Int)) = false := by simp
          have HE : Hid3 (∀ m, ∃ f', Ro (wr.drewN m) g n f' ∧ Sh a i2 f f' ∧ SoB true a i2 f' ∧ Apart (XB g) w (wr.drewN m)) := ⟨fun m => ⟨f1, HS2.out.1.drewN m, HS2.out.2.1, fun _ => HS2.out.2.2.1, HS2.out.2.2.2.trans (apart_drewN g wr m)⟩⟩
          go_wp2_with fail
          go_quiet (fail)
          go_wp2
          go_ret
          exact PiR.of true rfl (HE.out _)
    · have hj5z : ¬ (jo : Int) < 5 := by omega
      have HE : Hid3 (∃ f', Ro wr g n f' ∧ Sh a b f f' ∧ SoB false a b f' ∧ Apart (XB g) w wr) := ⟨f1, HS.out.1, HS.out.2.1, fun e => (by cases e), HS.out.2.2.2⟩
      go_wp2
      go_ret
      exact PiR.of false rfl HE.out
end Go.Proofs.Ytknmbecabgencaa
