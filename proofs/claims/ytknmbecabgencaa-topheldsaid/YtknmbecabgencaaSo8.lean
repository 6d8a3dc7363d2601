/- The library's sort at uint8: partitionEqual. -/
import Derived.Test.YtknmbecabgencaaSo5
namespace Go.Proofs.Ytknmbecabgencaa
open Go.RowKit Go.Maps
set_option linter.unusedVariables false
set_option maxRecDepth 100000
/-- Parted so far: below i what is not above pv, from j on what is above it. -/
structure Pe (a b : Nat) (f f1 : Nat → Int) (pv : Int) (i j : Nat) : Prop where
  s : Sh a b f f1
  a0 : f1 a = pv
  l : ∀ p, a ≤ p → p < i → f1 p ≤ pv
  h : ∀ p, j ≤ p → p < b → pv < f1 p
theorem Pe.up {a b : Nat} {f f1 : Nat → Int} {pv : Int} {i j : Nat} (x : Pe a b f f1 pv i j) (hl : ¬ f1 a < f1 i) : Pe a b f f1 pv (i + 1) j := ⟨x.s, x.a0, fun p h1 h2 => by
  by_cases e : p = i
  · subst e
    have := x.a0
    omega
  · exact x.l p h1 (by omega), x.h⟩
theorem Pe.down {a b : Nat} {f f1 : Nat → Int} {pv : Int} {i j k : Nat} (x : Pe a b f f1 pv i (j + 1)) (h1 : k + 1 ≤ j) (h2 : j ≤ k + 1) (hl : f1 a < f1 j) : Pe a b f f1 pv i (k + 1) := ⟨x.s, x.a0, x.l, fun p h3 h4 => by
  by_cases e : p = j
  · subst e
    have := x.a0
    omega
  · exact x.h p (by omega) h4⟩
theorem Pe.swap {a b : Nat} {f f1 : Nat → Int} {pv : Int} {i j k : Nat} (x : Pe a b f f1 pv i (j + 1)) (h1 : k + 1 ≤ j) (h2 : j ≤ k + 1) (hi : a < i) (hij : i ≤ j) (hj : j < b) (hl : f1 a < f1 i) (hl2 : ¬ f1 a < f1 j) : Pe a b f (swF f1 i j) pv (i + 1) (k + 1) := by
  have h0 := x.a0
  refine ⟨x.s.trans (Sh.swap a b f1 i j (by omega) (by omega) (by omega) (by omega)), ?_, fun p h3 h4 => ?_, fun p h3 h4 => ?_⟩
  · unfold swF
    rw [if_neg (by omega), if_neg (by omega)]
    exact h0
  · unfold swF
    by_cases e : p = i
    · rw [if_pos e]
      omega
    · rw [if_neg e, if_neg (by omega)]
      exact x.l p h3 (by omega)
  · unfold swF
    by_cases e : p = i
    · exfalso
      have : i = j := by omega
      rw [this] at hl
      exact hl2 hl
    · rw [if_neg e]
      by_cases e2 : p = j
      · rw [if_pos e2]
        omega
      · rw [if_neg e2]
        exact x.h p (by omega) h4
set_option maxHeartbeats 8000000 in
theorem parteq_any (g n cap a b c : Nat) (f : Nat → Int) (w : World) (h : Ro w g n f) (hac : a ≤ c) (hcb : c < b) (hb : b ≤ n) (hn : n ≤ 64) : Calls Try.prog 25 #[.slice (some ⟨g, 0, none⟩) n cap, .int .i64 a, .int .i64 b, .int .i64 c] w fun r w' => ∃ x : Nat, r = .returned (.int .i64 x) ∧ a < x ∧ x ≤ b ∧ ∃ f', Ro w' g n f' ∧ Sh a b f f' ∧ (∀ p, a ≤ p → p < x → f' p ≤ f c) ∧ (∀ p, x ≤ p → p < b → f c < f' p) ∧ Apart (XB g) w w' := by
  obtain ⟨j0, hj01, hj02⟩ : ∃ j0, j0 + 1 ≤ b ∧ b ≤ j0 + 1 := ⟨b - 1, by omega, by omega⟩
  have hwa : IntKind.i64.wrap ((a : Int) + 1) = ((a + 1 : Nat) : Int) := by rw [IntKind.wrap_i64]; omega
  have hwb : IntKind.i64.wrap ((b : Int) - 1) = (j0 : Int) := by rw [IntKind.wrap_i64]; omega
  have c1 := h.cell a (by omega)
  have c2 := h.cell c (by omega)
  have t1 := h.thaw a
  have t2 := h.thaw c
  have hg := h.lt
  have b1 : a < n := by omega
  have b2 : c < n := by omega
  have b1z : (a : Int) < (n : Int) := by omega
  have b2z : (c : Int) < (n : Int) := by omega
  have HS1 : Hid3 (Ro ((w.setCell ⟨g, a, none⟩ (.int .u8 (f c))).setCell ⟨g, c, none⟩ (.int .u8 (f a))).drew g n (swF f a c) ∧ Pe a b f (swF f a c) (f c) (a + 1) (j0 + 1) ∧ Apart (XB g) w ((w.setCell ⟨g, a, none⟩ (.int .u8 (f c))).setCell ⟨g, c, none⟩ (.int .u8 (f a))).drew) := ⟨(h.swap a c b1 b2).drew, ⟨Sh.swap a b f a c (by omega) (by omega) hac hcb, by unfold swF; rw [if_pos rfl], fun p h1 h2 => by
    obtain rfl : p = a := by omega
    unfold swF
    rw [if_pos rfl]
    exact Int.le_refl _, fun p h1 h2 => by omega⟩, ((Apart.at (X := XB g) _ g _ _ rfl).trans (Apart.at (X := XB g) _ g _ _ rfl)).drew⟩
  clear h
  obtain ⟨pv, hpv⟩ : ∃ pv, pv = f c := ⟨_, rfl⟩
  have HP := Hid3.mk hpv
  clear hpv
  rw [← HP.out]
  rw [← HP.out] at HS1 c2
  go_enter Try.func25, Try.ntmps25
  go_wp2_with fail
  by_cases eac : a = c
  · subst eac
    go_region
    go_wp2_with fail
    clear c1 c2 t1 t2 hg
    rw [show (Value.int .u8 pv : Value) = .int .u8 (f a) from by rw [HP.out]] at HS1
    generalize ((w.setCell ⟨g, a, none⟩ (.int .u8 (f a))).setCell ⟨g, a, none⟩ (.int .u8 (f a))).drew = W1 at *
    generalize swF f a a = f0 at *
    go_loopw [9, 10] (fun s6 s7 wr => ∃ (i j : Nat) (f1 : Nat → Int), a + 1 ≤ i ∧ i ≤ j + 1 ∧ j + 1 ≤ b ∧ s6 = .int .i64 i ∧ s7 = .int .i64 j ∧ Hid3 (Ro wr g n f1 ∧ Pe a b f f1 pv i (j + 1) ∧ Apart (XB g) w wr)) (fun s t _ => (intOf t + 1 - intOf s).toNat)
    case atStart => exact ⟨a + 1, j0, f0, by omega, by omega, by omega, by first | rfl | go_num, by first | rfl | go_num, HS1⟩
    case round =>
      obtain ⟨i0, j, f1, hi1, hi2, hj, rfl, rfl, HS⟩ := hrel
      clear HS1
      go_wp2_with fail
      go_loopw [9] (fun s6 wr => ∃ (i : Nat), i0 ≤ i ∧ i ≤ j + 1 ∧ s6 = .int .i64 i ∧ Hid3 (Ro wr g n f1 ∧ Pe a b f f1 pv i (j + 1) ∧ Apart (XB g) w wr)) (fun s _ => 70 - (intOf s).toNat)
      case atStart => exact ⟨i0, by omega, by omega, rfl, HS⟩
      case round =>
        obtain ⟨i, hi3, hi4, rfl, HS2⟩ := hrel
        clear HS
        by_cases hij : i ≤ j
        · have hijz : (i : Int) ≤ (j : Int) := by omega
          have hgt : decide ((i : Int) ≤ (j : Int)) = true := by simpa using hijz
          have hwi0 : IntKind.i64.wrap ((i : Int) + 1) = ((i + 1 : Nat) : Int) := by rw [IntKind.wrap_i64]; omega
          have c1 := HS2.out.1.cell i (by omega)
          have c2 := HS2.out.1.cell a (by omega)
          have hg := HS2.out.1.lt
          have d1z : (i : Int) < (n : Int) := by omega
          have cL := fun W => less_any (f1 a) (f1 i) W
          by_cases hl : f1 a < f1 i
          · have hld : decide (f1 a < f1 i) = true := by simpa using hl
            rw [hld] at cL
            have HS3 : Hid3 (∀ m, Ro (wr.drewN m) g n f1 ∧ Pe a b f f1 pv i (j + 1) ∧ Apart (XB g) w (wr.drewN m)) := ⟨fun m => ⟨HS2.out.1.drewN m, HS2.out.2.1, HS2.out.2.2.trans (apart_drewN g wr m)⟩⟩
            go_wp2_with fail
            go_quiet ((go_at_call 24; exact Calls.quiet_of_same (cL _)))
            have HS5 := Hid3.mk (HS3.out nq)
            clear HS3 HS2 c1 c2 hg cL hwi0
            generalize wr.drewN nq = W5 at *
            go_wp2_with fail
            go_loopw [10] (fun s7 wr => ∃ (j2 : Nat), i ≤ j2 + 1 ∧ j2 ≤ j ∧ s7 = .int .i64 j2 ∧ Hid3 (Ro wr g n f1 ∧ Pe a b f f1 pv i (j2 + 1) ∧ Apart (XB g) w wr)) (fun s _ => (intOf s).toNat)
            case atStart => exact ⟨j, by omega, by omega, rfl, HS5⟩
            case round =>
              obtain ⟨j2, hj1, hj2, rfl, HS6⟩ := hrel
              clear HS5
              by_cases hij2 : i ≤ j2
              · have hij2z : (i : Int) ≤ (j2 : Int) := by omega
                have hij2n : ¬ (j2 : Int) < (i : Int) := by omega
                have hgt2 : decide ((i : Int) ≤ (j2 : Int)) = true := by simpa using hij2z
                obtain ⟨k, hk1, hk2⟩ : ∃ k, k + 1 ≤ j2 ∧ j2 ≤ k + 1 := ⟨j2 - 1, by omega, by omega⟩
                have hwk : IntKind.i64.wrap ((j2 : Int) - 1) = (k : Int) := by rw [IntKind.wrap_i64]; omega
                have c1 := HS6.out.1.cell j2 (by omega)
                have c2 := HS6.out.1.cell a (by omega)
                have hg := HS6.out.1.lt
                have b1 : j2 < n := by omega
                have b1z : (j2 : Int) < (n : Int) := by omega
                have b2z : (a : Int) < (n : Int) := by omega
                have cL := fun W => less_any (f1 a) (f1 j2) W
                by_cases hl2 : f1 a < f1 j2
                · have hld : decide (f1 a < f1 j2) = true := by simpa using hl2
                  rw [hld] at cL
                  have HS7 : Hid3 (∀ m, Ro (wr.drewN m) g n f1 ∧ Pe a b f f1 pv i (k + 1) ∧ Apart (XB g) w (wr.drewN m)) := ⟨fun m => ⟨HS6.out.1.drewN m, HS6.out.2.1.down hk1 hk2 hl2, HS6.out.2.2.trans (apart_drewN g wr m)⟩⟩
                  go_wp2_with fail
                  go_quiet ((go_at_call 24; exact Calls.quiet_of_same (cL _)))
                  go_wp2
                  go_roundw
                  case rel => exact ⟨k, by omega, by omega, by go_num, ⟨HS7.out _⟩⟩
                  case measure => simp [intOf]; omega
                · have hld : decide (f1 a < f1 j2) = false := by simpa using hl2
                  rw [hld] at cL
                  have n1 : i ≠ j2 := fun e => hl2 (by rw [← e]; exact hl)
                  have n2 : j2 ≠ i := fun e => n1 e.symm
                  have b2 : i < n := by omega
                  have hwi : IntKind.i64.wrap ((i : Int) + 1) = ((i + 1 : Nat) : Int) := by rw [IntKind.wrap_i64]; omega
                  have biz : (i : Int) < (n : Int) := by omega
                  have HS7 : Hid3 (∀ m, Ro (((wr.drewN m).setCell ⟨g, i, none⟩ (.int .u8 (f1 j2))).setCell ⟨g, j2, none⟩ (.int .u8 (f1 i))).drew g n (swF f1 i j2) ∧ Pe a b f (swF f1 i j2) pv (i + 1) (k + 1) ∧ Apart (XB g) w (((wr.drewN m).setCell ⟨g, i, none⟩ (.int .u8 (f1 j2))).setCell ⟨g, j2, none⟩ (.int .u8 (f1 i))).drew) := ⟨fun m => ⟨((HS6.out.1.drewN m).swap i j2 b2 b1).drew, HS6.out.2.1.swap hk1 hk2 (by omega) (by omega) (by omega) hl hl2, ((HS6.out.2.2.trans (apart_drewN g wr m)).trans ((Apart.at (X := XB g) _ g _ _ rfl).trans (Apart.at (X := XB g) _ g _ _ rfl))).drew⟩⟩
                  have c3 := HS6.out.1.cell i b2
                  have t1 := HS6.out.1.thaw i
                  have t2 := HS6.out.1.thaw j2
                  go_wp2_with fail
                  go_quiet ((go_at_call 24; exact Calls.quiet_of_same (cL _)))
                  go_wp2_with fail
                  have d1 : (wr.drewN nq).cell? ⟨g, j2, none⟩ = some (.int .u8 (f1 j2)) := c1
                  have d2 : (wr.drewN nq).cell? ⟨g, i, none⟩ = some (.int .u8 (f1 i)) := c3
                  have e1 : (wr.drewN nq).frozen? ⟨g, i, none⟩ = false := t1
                  have e2 : (wr.drewN nq).frozen? ⟨g, j2, none⟩ = false := t2
                  have hg2 : g < (wr.drewN nq).heap.size := hg
                  have HS8 := Hid3.mk (HS7.out nq)
                  clear HS7 c1 c2 c3 t1 t2 hg cL HS6
                  generalize wr.drewN nq = W6 at *
                  go_region
                  go_wp2
                  go_roundw
                  case rel => exact ⟨i + 1, k, _, by omega, by omega, by omega, by go_num, by go_num, HS8⟩
                  case measure => simp [intOf]; omega
              · have hij2z : ¬ (i : Int) ≤ (j2 : Int) := by omega
                have hij2n : (j2 : Int) < (i : Int) := by omega
                have hgt2 : decide ((i : Int) ≤ (j2 : Int)) = false := by simpa using hij2z
                have HS7 : Hid3 (∀ m, ∃ f', Ro (wr.drewN m) g n f' ∧ Sh a b f f' ∧ (∀ p, a ≤ p → p < i → f' p ≤ pv) ∧ (∀ p, i ≤ p → p < b → pv < f' p) ∧ Apart (XB g) w (wr.drewN m)) := ⟨fun m => ⟨f1, HS6.out.1.drewN m, HS6.out.2.1.s, HS6.out.2.1.l, fun p h1 h2 => HS6.out.2.1.h p (by omega) h2, HS6.out.2.2.trans (apart_drewN g wr m)⟩⟩
                go_wp2_with fail
                go_quiet (fail)
                go_wp2
                go_ret
                exact ⟨i, rfl, by omega, by omega, HS7.out _⟩
          · have hld : decide (f1 a < f1 i) = false := by simpa using hl
            rw [hld] at cL
            have HS3 : Hid3 (∀ m, Ro (wr.drewN m) g n f1 ∧ Pe a b f f1 pv (i + 1) (j + 1) ∧ Apart (XB g) w (wr.drewN m)) := ⟨fun m => ⟨HS2.out.1.drewN m, HS2.out.2.1.up hl, HS2.out.2.2.trans (apart_drewN g wr m)⟩⟩
            go_wp2_with fail
            go_quiet ((go_at_call 24; exact Calls.quiet_of_same (cL _)))
            go_wp2
            go_roundw
            case rel => exact ⟨i + 1, by omega, by omega, by go_num, ⟨HS3.out _⟩⟩
            case measure => simp [intOf]; omega
        · have hijz : ¬ (i : Int) ≤ (j : Int) := by omega
          have hgt : decide ((i : Int) ≤ (j : Int)) = false := by simpa using hijz
          have HS3 : Hid3 (∀ m, Ro (wr.drewN m) g n f1 ∧ Pe a b f f1 pv i (j + 1) ∧ Apart (XB g) w (wr.drewN m)) := ⟨fun m => ⟨HS2.out.1.drewN m, HS2.out.2.1, HS2.out.2.2.trans (apart_drewN g wr m)⟩⟩
          go_wp2_with fail
          go_quiet (fail)
          have HS5 := Hid3.mk (HS3.out nq)
          clear HS3 HS2
          generalize wr.drewN nq = W5 at *
          go_wp2_with fail
          go_loopw [10] (fun s7 wr => ∃ (j2 : Nat), i ≤ j2 + 1 ∧ j2 ≤ j ∧ s7 = .int .i64 j2 ∧ Hid3 (Ro wr g n f1 ∧ Pe a b f f1 pv i (j2 + 1) ∧ Apart (XB g) w wr)) (fun s _ => (intOf s).toNat)
          case atStart => exact ⟨j, by omega, by omega, rfl, HS5⟩
          case round =>
            obtain ⟨j2, hj1, hj2, rfl, HS6⟩ := hrel
            clear HS5
            by_cases hij2 : i ≤ j2
            · have hij2z : (i : Int) ≤ (j2 : Int) := by omega
              have hij2n : ¬ (j2 : Int) < (i : Int) := by omega
              have hgt2 : decide ((i : Int) ≤ (j2 : Int)) = true := by simpa using hij2z
              obtain ⟨k, hk1, hk2⟩ : ∃ k, k + 1 ≤ j2 ∧ j2 ≤ k + 1 := ⟨j2 - 1, by omega, by omega⟩
              have hwk : IntKind.i64.wrap ((j2 : Int) - 1) = (k : Int) := by rw [IntKind.wrap_i64]; omega
              have c1 := HS6.out.1.cell j2 (by omega)
              have c2 := HS6.out.1.cell a (by omega)
              have hg := HS6.out.1.lt
              have b1 : j2 < n := by omega
              have b1z : (j2 : Int) < (n : Int) := by omega
              have b2z : (a : Int) < (n : Int) := by omega
              have cL := fun W => less_any (f1 a) (f1 j2) W
              by_cases hl2 : f1 a < f1 j2
              · have hld : decide (f1 a < f1 j2) = true := by simpa using hl2
                rw [hld] at cL
                have HS7 : Hid3 (∀ m, Ro (wr.drewN m) g n f1 ∧ Pe a b f f1 pv i (k + 1) ∧ Apart (XB g) w (wr.drewN m)) := ⟨fun m => ⟨HS6.out.1.drewN m, HS6.out.2.1.down hk1 hk2 hl2, HS6.out.2.2.trans (apart_drewN g wr m)⟩⟩
                go_wp2_with fail
                go_quiet ((go_at_call 24; exact Calls.quiet_of_same (cL _)))
                go_wp2
                go_roundw
                case rel => exact ⟨k, by omega, by omega, by go_num, ⟨HS7.out _⟩⟩
                case measure => simp [intOf]; omega
              · omega
            · have hij2z : ¬ (i : Int) ≤ (j2 : Int) := by omega
              have hij2n : (j2 : Int) < (i : Int) := by omega
              have hgt2 : decide ((i : Int) ≤ (j2 : Int)) = false := by simpa using hij2z
              have HS7 : Hid3 (∀ m, ∃ f', Ro (wr.drewN m) g n f' ∧ Sh a b f f' ∧ (∀ p, a ≤ p → p < i → f' p ≤ pv) ∧ (∀ p, i ≤ p → p < b → pv < f' p) ∧ Apart (XB g) w (wr.drewN m)) := ⟨fun m => ⟨f1, HS6.out.1.drewN m, HS6.out.2.1.s, HS6.out.2.1.l, fun p h1 h2 => HS6.out.2.1.h p (by omega) h2, HS6.out.2.2.trans (apart_drewN g wr m)⟩⟩
              go_wp2_with fail
              go_quiet (fail)
              go_wp2
              go_ret
              exact ⟨i, rfl, by omega, by omega, HS7.out _⟩
  have n1 := eac
  have n2 : c ≠ a := fun e => eac e.symm
  go_region
  go_wp2_with fail
  clear c1 c2 t1 t2 hg
  generalize ((w.setCell ⟨g, a, none⟩ (.int .u8 pv)).setCell ⟨g, c, none⟩ (.int .u8 (f a))).drew = W1 at *
  generalize swF f a c = f0 at *
  go_loopw [9, 10] (fun s6 s7 wr => ∃ (i j : Nat) (f1 : Nat → Int), a + 1 ≤ i ∧ i ≤ j + 1 ∧ j + 1 ≤ b ∧ s6 = .int .i64 i ∧ s7 = .int .i64 j ∧ Hid3 (Ro wr g n f1 ∧ Pe a b f f1 pv i (j + 1) ∧ Apart (XB g) w wr)) (fun s t _ => (intOf t + 1 - intOf s).toNat)
  case atStart => exact ⟨a + 1, j0, f0, by omega, by omega, by omega, by first | rfl | go_num, by first | rfl | go_num, HS1⟩
  case round =>
    obtain ⟨i0, j, f1, hi1, hi2, hj, rfl, rfl, HS⟩ := hrel
    clear HS1
    go_wp2_with fail
    go_loopw [9] (fun s6 wr => ∃ (i : Nat), i0 ≤ i ∧ i ≤ j + 1 ∧ s6 = .int .i64 i ∧ Hid3 (Ro wr g n f1 ∧ Pe a b f f1 pv i (j + 1) ∧ Apart (XB g) w wr)) (fun s _ => 70 - (intOf s).toNat)
    case atStart => exact ⟨i0, by omega, by omega, rfl, HS⟩
    case round =>
      obtain ⟨i, hi3, hi4, rfl, HS2⟩ := hrel
      clear HS
      by_cases hij : i ≤ j
      · have hijz : (i : Int) ≤ (j : Int) := by omega
        have hgt : decide ((i : Int) ≤ (j : Int)) = true := by simpa using hijz
        have hwi0 : IntKind.i64.wrap ((i : Int) + 1) = ((i + 1 : Nat) : Int) := by rw [IntKind.wrap_i64]; omega
        have c1 := HS2.out.1.cell i (by omega)
        have c2 := HS2.out.1.cell a (by omega)
        have hg := HS2.out.1.lt
        have d1z : (i : Int) < (n : Int) := by omega
        have cL := fun W => less_any (f1 a) (f1 i) W
        by_cases hl : f1 a < f1 i
        · have hld : decide (f1 a < f1 i) = true := by simpa using hl
          rw [hld] at cL
          have HS3 : Hid3 (∀ m, Ro (wr.drewN m) g n f1 ∧ Pe a b f f1 pv i (j + 1) ∧ Apart (XB g) w (wr.drewN m)) := ⟨fun m => ⟨HS2.out.1.drewN m, HS2.out.2.1, HS2.out.2.2.trans (apart_drewN g wr m)⟩⟩
          go_wp2_with fail
          go_quiet ((go_at_call 24; exact Calls.quiet_of_same (cL _)))
          have HS5 := Hid3.mk (HS3.out nq)
          clear HS3 HS2 c1 c2 hg cL hwi0
          generalize wr.drewN nq = W5 at *
          go_wp2_with fail
          go_loopw [10] (fun s7 wr => ∃ (j2 : Nat), i ≤ j2 + 1 ∧ j2 ≤ j ∧ s7 = .int .i64 j2 ∧ Hid3 (Ro wr g n f1 ∧ Pe a b f f1 pv i (j2 + 1) ∧ Apart (XB g) w wr)) (fun s _ => (intOf s).toNat)
          case atStart => exact ⟨j, by omega, by omega, rfl, HS5⟩
          case round =>
            obtain ⟨j2, hj1, hj2, rfl, HS6⟩ := hrel
            clear HS5
            by_cases hij2 : i ≤ j2
            · have hij2z : (i : Int) ≤ (j2 : Int) := by omega
              have hij2n : ¬ (j2 : Int) < (i : Int) := by omega
              have hgt2 : decide ((i : Int) ≤ (j2 : Int)) = true := by simpa using hij2z
              obtain ⟨k, hk1, hk2⟩ : ∃ k, k + 1 ≤ j2 ∧ j2 ≤ k + 1 := ⟨j2 - 1, by omega, by omega⟩
              have hwk : IntKind.i64.wrap ((j2 : Int) - 1) = (k : Int) := by rw [IntKind.wrap_i64]; omega
              have c1 := HS6.out.1.cell j2 (by omega)
              have c2 := HS6.out.1.cell a (by omega)
              have hg := HS6.out.1.lt
              have b1 : j2 < n := by omega
              have b1z : (j2 : Int) < (n : Int) := by omega
              have b2z : (a : Int) < (n : Int) := by omega
              have cL := fun W => less_any (f1 a) (f1 j2) W
              by_cases hl2 : f1 a < f1 j2
              · have hld : decide (f1 a < f1 j2) = true := by simpa using hl2
                rw [hld] at cL
                have HS7 : Hid3 (∀ m, Ro (wr.drewN m) g n f1 ∧ Pe a b f f1 pv i (k + 1) ∧ Apart (XB g) w (wr.drewN m)) := ⟨fun m => ⟨HS6.out.1.drewN m, HS6.out.2.1.down hk1 hk2 hl2, HS6.out.2.2.trans (apart_drewN g wr m)⟩⟩
                go_wp2_with fail
                go_quiet ((go_at_call 24; exact Calls.quiet_of_same (cL _)))
                go_wp2
                go_roundw
                case rel => exact ⟨k, by omega, by omega, by go_num, ⟨HS7.out _⟩⟩
                case measure => simp [intOf]; omega
              · have hld : decide (f1 a < f1 j2) = false := by simpa using hl2
                rw [hld] at cL
                have n1 : i ≠ j2 := fun e => hl2 (by rw [← e]; exact hl)
                have n2 : j2 ≠ i := fun e => n1 e.symm
                have b2 : i < n := by omega
                have hwi : IntKind.i64.wrap ((i : Int) + 1) = ((i + 1 : Nat) : Int) := by rw [IntKind.wrap_i64]; omega
                have biz : (i : Int) < (n : Int) := by omega
                have HS7 : Hid3 (∀ m, Ro (((wr.drewN m).setCell ⟨g, i, none⟩ (.int .u8 (f1 j2))).setCell ⟨g, j2, none⟩ (.int .u8 (f1 i))).drew g n (swF f1 i j2) ∧ Pe a b f (swF f1 i j2) pv (i + 1) (k + 1) ∧ Apart (XB g) w (((wr.drewN m).setCell ⟨g, i, none⟩ (.int .u8 (f1 j2))).setCell ⟨g, j2, none⟩ (.int .u8 (f1 i))).drew) := ⟨fun m => ⟨((HS6.out.1.drewN m).swap i j2 b2 b1).drew, HS6.out.2.1.swap hk1 hk2 (by omega) (by omega) (by omega) hl hl2, ((HS6.out.2.2.trans (apart_drewN g wr m)).trans ((Apart.at (X := XB g) _ g _ _ rfl).trans (Apart.at (X := XB g) _ g _ _ rfl))).drew⟩⟩
                have c3 := HS6.out.1.cell i b2
                have t1 := HS6.out.1.thaw i
                have t2 := HS6.out.1.thaw j2
                go_wp2_with fail
                go_quiet ((go_at_call 24; exact Calls.quiet_of_same (cL _)))
                go_wp2_with fail
                have d1 : (wr.drewN nq).cell? ⟨g, j2, none⟩ = some (.int .u8 (f1 j2)) := c1
                have d2 : (wr.drewN nq).cell? ⟨g, i, none⟩ = some (.int .u8 (f1 i)) := c3
                have e1 : (wr.drewN nq).frozen? ⟨g, i, none⟩ = false := t1
                have e2 : (wr.drewN nq).frozen? ⟨g, j2, none⟩ = false := t2
                have hg2 : g < (wr.drewN nq).heap.size := hg
                have HS8 := Hid3.mk (HS7.out nq)
                clear HS7 c1 c2 c3 t1 t2 hg cL HS6
                generalize wr.drewN nq = W6 at *
                go_region
                go_wp2
                go_roundw
                case rel => exact ⟨i + 1, k, _, by omega, by omega, by omega, by go_num, by go_num, HS8⟩
                case measure => simp [intOf]; omega
            · have hij2z : ¬ (i : Int) ≤ (j2 : Int) := by omega
              have hij2n : (j2 : Int) < (i : Int) := by omega
              have hgt2 : decide ((i : Int) ≤ (j2 : Int)) = false := by simpa using hij2z
              have HS7 : Hid3 (∀ m, ∃ f', Ro (wr.drewN m) g n f' ∧ Sh a b f f' ∧ (∀ p, a ≤ p → p < i → f' p ≤ pv) ∧ (∀ p, i ≤ p → p < b → pv < f' p) ∧ Apart (XB g) w (wr.drewN m)) := ⟨fun m => ⟨f1, HS6.out.1.drewN m, HS6.out.2.1.s, HS6.out.2.1.l, fun p h1 h2 => HS6.out.2.1.h p (by omega) h2, HS6.out.2.2.trans (apart_drewN g wr m)⟩⟩
              go_wp2_with fail
              go_quiet (fail)
              go_wp2
              go_ret
              exact ⟨i, rfl, by omega, by omega, HS7.out _⟩
        · have hld : decide (f1 a < f1 i) = false := by simpa using hl
          rw [hld] at cL
          have HS3 : Hid3 (∀ m, Ro (wr.drewN m) g n f1 ∧ Pe a b f f1 pv (i + 1) (j + 1) ∧ Apart (XB g) w (wr.drewN m)) := ⟨fun m => ⟨HS2.out.1.drewN m, HS2.out.2.1.up hl, HS2.out.2.2.trans (apart_drewN g wr m)⟩⟩
          go_wp2_with fail
          go_quiet ((go_at_call 24; exact Calls.quiet_of_same (cL _)))
          go_wp2
          go_roundw
          case rel => exact ⟨i + 1, by omega, by omega, by go_num, ⟨HS3.out _⟩⟩
          case measure => simp [intOf]; omega
      · have hijz : ¬ (i : Int) ≤ (j : Int) := by omega
        have hgt : decide ((i : Int) ≤ (j : Int)) = false := by simpa using hijz
        have HS3 : Hid3 (∀ m, Ro (wr.drewN m) g n f1 ∧ Pe a b f f1 pv i (j + 1) ∧ Apart (XB g) w (wr.drewN m)) := ⟨fun m => ⟨HS2.out.1.drewN m, HS2.out.2.1, HS2.out.2.2.trans (apart_drewN g wr m)⟩⟩
        go_wp2_with fail
        go_quiet (fail)
        have HS5 := Hid3.mk (HS3.out nq)
        clear HS3 HS2
        generalize wr.drewN nq = W5 at *
        go_wp2_with fail
        go_loopw [10] (fun s7 wr => ∃ (j2 : Nat), i ≤ j2 + 1 ∧ j2 ≤ j ∧ s7 = .int .i64 j2 ∧ Hid3 (Ro wr g n f1 ∧ Pe a b f f1 pv i (j2 + 1) ∧ Apart (XB g) w wr)) (fun s _ => (intOf s).toNat)
        case atStart => exact ⟨j, by omega, by omega, rfl, HS5⟩
        case round =>
          obtain ⟨j2, hj1, hj2, rfl, HS6⟩ := hrel
          clear HS5
          by_cases hij2 : i ≤ j2
          · have hij2z : (i : Int) ≤ (j2 : Int) := by omega
            have hij2n : ¬ (j2 : Int) < (i : Int) := by omega
            have hgt2 : decide ((i : Int) ≤ (j2 : Int)) = true := by simpa using hij2z
            obtain ⟨k, hk1, hk2⟩ : ∃ k, k + 1 ≤ j2 ∧ j2 ≤ k + 1 := ⟨j2 - 1, by omega, by omega⟩
            have hwk : IntKind.i64.wrap ((j2 : Int) - 1) = (k : Int) := by rw [IntKind.wrap_i64]; omega
            have c1 := HS6.out.1.cell j2 (by omega)
            have c2 := HS6.out.1.cell a (by omega)
            have hg := HS6.out.1.lt
            have b1 : j2 < n := by omega
            have b1z : (j2 : Int) < (n : Int) := by omega
            have b2z : (a : Int) < (n : Int) := by omega
            have cL := fun W => less_any (f1 a) (f1 j2) W
            by_cases hl2 : f1 a < f1 j2
            · have hld : decide (f1 a < f1 j2) = true := by simpa using hl2
              rw [hld] at cL
              have HS7 : Hid3 (∀ m, Ro (wr.drewN m) g n f1 ∧ Pe a b f f1 pv i (k + 1) ∧ Apart (XB g) w (wr.drewN m)) := ⟨fun m => ⟨HS6.out.1.drewN m, HS6.out.2.1.down hk1 hk2 hl2, HS6.out.2.2.trans (apart_drewN g wr m)⟩⟩
              go_wp2_with fail
              go_quiet ((go_at_call 24; exact Calls.quiet_of_same (cL _)))
              go_wp2
              go_roundw
              case rel => exact ⟨k, by omega, by omega, by go_num, ⟨HS7.out _⟩⟩
              case measure => simp [intOf]; omega
            · omega
          · have hij2z : ¬ (i : Int) ≤ (j2 : Int) := by omega
            have hij2n : (j2 : Int) < (i : Int) := by omega
            have hgt2 : decide ((i : Int) ≤ (j2 : Int)) = false := by simpa using hij2z
            have HS7 : Hid3 (∀ m, ∃ f', Ro (wr.drewN m) g n f' ∧ Sh a b f f' ∧ (∀ p, a ≤ p → p < i → f' p ≤ pv) ∧ (∀ p, i ≤ p → p < b → pv < f' p) ∧ Apart (XB g) w (wr.drewN m)) := ⟨fun m => ⟨f1, HS6.out.1.drewN m, HS6.out.2.1.s, HS6.out.2.1.l, fun p h1 h2 => HS6.out.2.1.h p (by omega) h2, HS6.out.2.2.trans (apart_drewN g wr m)⟩⟩
            go_wp2_with fail
            go_quiet (fail)
            go_wp2
            go_ret
            exact ⟨i, rfl, by omega, by omega, HS7.out _⟩
end Go.Proofs.Ytknmbecabgencaa
