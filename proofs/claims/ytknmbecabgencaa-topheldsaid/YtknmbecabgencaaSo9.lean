/- The library's sort at uint8: partition. -/
import Derived.Test.YtknmbecabgencaaSo5
namespace Go.Proofs.Ytknmbecabgencaa
open Go.RowKit Go.Maps
set_option linter.unusedVariables false
set_option maxRecDepth 100000
/-- Parted so far: below i what is below pv, from j on what is not. -/
structure Pp (a b : Nat) (f f1 : Nat → Int) (pv : Int) (i j : Nat) : Prop where
  s : Sh a b f f1
  a0 : f1 a = pv
  l : ∀ p, a < p → p < i → f1 p < pv
  h : ∀ p, j ≤ p → p < b → pv ≤ f1 p
theorem Pp.up {a b : Nat} {f f1 : Nat → Int} {pv : Int} {i j : Nat} (x : Pp a b f f1 pv i j) (hl : f1 i < f1 a) : Pp a b f f1 pv (i + 1) j := ⟨x.s, x.a0, fun p h1 h2 => by
  by_cases e : p = i
  · subst e
    have := x.a0
    omega
  · exact x.l p h1 (by omega), x.h⟩
theorem Pp.down {a b : Nat} {f f1 : Nat → Int} {pv : Int} {i j k : Nat} (x : Pp a b f f1 pv i (j + 1)) (h1 : k + 1 ≤ j) (h2 : j ≤ k + 1) (hl : ¬ f1 j < f1 a) : Pp a b f f1 pv i (k + 1) := ⟨x.s, x.a0, x.l, fun p h3 h4 => by
  by_cases e : p = j
  · subst e
    have := x.a0
    omega
  · exact x.h p (by omega) h4⟩
theorem Pp.swap {a b : Nat} {f f1 : Nat → Int} {pv : Int} {i j k : Nat} (x : Pp a b f f1 pv i (j + 1)) (h1 : k + 1 ≤ j) (h2 : j ≤ k + 1) (hi : a < i) (hij : i ≤ j) (hj : j < b) (hl : ¬ f1 i < f1 a) (hl2 : f1 j < f1 a) : Pp a b f (swF f1 i j) pv (i + 1) (k + 1) := by
  have h0 := x.a0
  refine ⟨x.s.trans (Sh.swap a b f1 i j (by omega) (by omega) (by omega) (by omega)), ?_, fun p h3 h4 => ?_, fun p h3 h4 => ?_⟩
  · unfold swF
    rw [if_neg (by omega), if_neg (by omega)]
    exact h0
  · unfold swF
    by_cases e : p = i
    · rw [if_pos e]
      omega
    · rw [if_neg e, if_neg (by omega)]
      exact x.l p h3 (by omega)
  · unfold swF
    by_cases e : p = i
    · exfalso
      have : i = j := by omega
      rw [this] at hl
      exact hl hl2
    · rw [if_neg e]
      by_cases e2 : p = j
      · rw [if_pos e2]
        omega
      · rw [if_neg e2]
        exact x.h p (by omega) h4
theorem Pp.swap2 {a b : Nat} {f f1 : Nat → Int} {pv : Int} {i j k ip : Nat} (x : Pp a b f f1 pv i (j + 1)) (h1 : k + 1 ≤ j) (h2 : j ≤ k + 1) (hi : a < i) (hij : i ≤ j) (hj : j < b) (hl : ¬ f1 i < f1 a) (hl2 : f1 j < f1 a) (p1 : ip ≤ i + 1) (p2 : i + 1 ≤ ip) : Pp a b f (swF f1 i j) pv ip (k + 1) := by
  obtain rfl : ip = i + 1 := by omega
  exact x.swap h1 h2 hi hij hj hl hl2
theorem Pp.fin {a b : Nat} {f f1 : Nat → Int} {pv : Int} {i j : Nat} (x : Pp a b f f1 pv i (j + 1)) (h1 : i ≤ j + 1) (h2 : j < i) (ha : a ≤ j) (hj : j < b) : Sh a b f (swF f1 j a) ∧ swF f1 j a j = pv ∧ (∀ p, a ≤ p → p < j → swF f1 j a p < pv) ∧ (∀ p, j < p → p < b → pv ≤ swF f1 j a p) := by
  refine ⟨x.s.trans (Sh.swap a b f1 j a (by omega) (by omega) (by omega) (by omega)), ?_, fun p h3 h4 => ?_, fun p h3 h4 => ?_⟩
  · unfold swF
    rw [if_pos rfl]
    exact x.a0
  · unfold swF
    rw [if_neg (by omega)]
    by_cases e : p = a
    · rw [if_pos e]
      exact x.l j (by omega) h2
    · rw [if_neg e]
      exact x.l p (by omega) (by omega)
  · unfold swF
    rw [if_neg (by omega), if_neg (by omega)]
    exact x.h p (by omega) h4
set_option maxHeartbeats 16000000 in
theorem part_any (g n cap a b c : Nat) (f : Nat → Int) (w : World) (h : Ro w g n f) (hac : a ≤ c) (hcb : c < b) (hb : b ≤ n) (hn : n ≤ 64) : Calls Try.prog 26 #[.slice (some ⟨g, 0, none⟩) n cap, .int .i64 a, .int .i64 b, .int .i64 c] w fun r w' => ∃ (m : Nat) (bl : Bool), r = .returned (.tuple #[.int .i64 m, .bool bl]) ∧ a ≤ m ∧ m < b ∧ ∃ f', Ro w' g n f' ∧ Sh a b f f' ∧ f' m = f c ∧ (∀ p, a ≤ p → p < m → f' p < f c) ∧ (∀ p, m < p → p < b → f c ≤ f' p) ∧ Apart (XB g) w w' := by
  obtain ⟨j0, hj01, hj02⟩ : ∃ j0, j0 + 1 ≤ b ∧ b ≤ j0 + 1 := ⟨b - 1, by omega, by omega⟩
  have hwa : IntKind.i64.wrap ((a : Int) + 1) = ((a + 1 : Nat) : Int) := by rw [IntKind.wrap_i64]; omega
  have hwb : IntKind.i64.wrap ((b : Int) - 1) = (j0 : Int) := by rw [IntKind.wrap_i64]; omega
  have c1 := h.cell a (by omega)
  have c2 := h.cell c (by omega)
  have t1 := h.thaw a
  have t2 := h.thaw c
  have hg := h.lt
  have b1 : a < n := by omega
  have b2 : c < n := by omega
  have b1z : (a : Int) < (n : Int) := by omega
  have b2z : (c : Int) < (n : Int) := by omega
  have HS : Hid3 (Ro ((w.setCell ⟨g, a, none⟩ (.int .u8 (f c))).setCell ⟨g, c, none⟩ (.int .u8 (f a))).drew g n (swF f a c) ∧ Pp a b f (swF f a c) (f c) (a + 1) (j0 + 1) ∧ Apart (XB g) w ((w.setCell ⟨g, a, none⟩ (.int .u8 (f c))).setCell ⟨g, c, none⟩ (.int .u8 (f a))).drew) := ⟨(h.swap a c b1 b2).drew, ⟨Sh.swap a b f a c (by omega) (by omega) hac hcb, by unfold swF; rw [if_pos rfl], fun p h1 h2 => by omega, fun p h1 h2 => by omega⟩, ((Apart.at (X := XB g) _ g _ _ rfl).trans (Apart.at (X := XB g) _ g _ _ rfl)).drew⟩
  clear h
  obtain ⟨pv, hpv⟩ : ∃ pv, pv = f c := ⟨_, rfl⟩
  have HP := Hid3.mk hpv
  clear hpv
  rw [← HP.out]
  rw [← HP.out] at HS c2
  go_enter Try.func26, Try.ntmps26
  go_wp2_with fail
  by_cases eac : a = c
  · subst eac
    go_region
    clear c1 c2 t1 t2 hg
    rw [show (Value.int .u8 pv : Value) = .int .u8 (f a) from by rw [HP.out]] at HS
    generalize ((w.setCell ⟨g, a, none⟩ (.int .u8 (f a))).setCell ⟨g, a, none⟩ (.int .u8 (f a))).drew = W1 at *
    generalize swF f a a = f0 at *
    go_wp2_with fail
    go_loopw [10] (fun s6 wr => ∃ (ix : Nat), (a + 1) ≤ ix ∧ ix ≤ j0 + 1 ∧ s6 = .int .i64 ix ∧ Hid3 (Ro wr g n f0 ∧ Pp a b f f0 pv ix (j0 + 1) ∧ Apart (XB g) w wr)) (fun s _ => 70 - (intOf s).toNat)
    case atStart => exact ⟨(a + 1), by omega, by omega, by first | rfl | go_num, HS⟩
    case round =>
      obtain ⟨ix, hix3, hix4, rfl, HS2⟩ := hrel
      clear HS
      have hix5 : a + 1 ≤ ix := by omega
      by_cases hixj0 : ix ≤ j0
      · have hixj0z : (ix : Int) ≤ (j0 : Int) := by omega
        have hixj0g : decide ((ix : Int) ≤ (j0 : Int)) = true := by simpa using hixj0z
        have hwi0 : IntKind.i64.wrap ((ix : Int) + 1) = ((ix + 1 : Nat) : Int) := by rw [IntKind.wrap_i64]; omega
        have c1 := HS2.out.1.cell ix (by omega)
        have c2 := HS2.out.1.cell a (by omega)
        have hg := HS2.out.1.lt
        have d1z : (ix : Int) < (n : Int) := by omega
        have cL := fun W => less_any (f0 ix) (f0 a) W
        by_cases hixl : f0 ix < f0 a
        · have hld : decide (f0 ix < f0 a) = true := by simpa using hixl
          rw [hld] at cL
          have HS3 : Hid3 (∀ m, Ro (wr.drewN m) g n f0 ∧ Pp a b f f0 pv (ix + 1) (j0 + 1) ∧ Apart (XB g) w (wr.drewN m)) := ⟨fun m => ⟨HS2.out.1.drewN m, HS2.out.2.1.up hixl, HS2.out.2.2.trans (apart_drewN g wr m)⟩⟩
          go_wp2_with fail
          go_quiet ((go_at_call 24; exact Calls.quiet_of_same (cL _)))
          go_wp2
          go_roundw
          case rel => exact ⟨ix + 1, by omega, by omega, by go_num, ⟨HS3.out _⟩⟩
          case measure => simp [intOf]; omega
        · have hld : decide (f0 ix < f0 a) = false := by simpa using hixl
          rw [hld] at cL
          have HS3 : Hid3 (∀ m, Ro (wr.drewN m) g n f0 ∧ Pp a b f f0 pv ix (j0 + 1) ∧ Apart (XB g) w (wr.drewN m)) := ⟨fun m => ⟨HS2.out.1.drewN m, HS2.out.2.1, HS2.out.2.2.trans (apart_drewN g wr m)⟩⟩
          go_wp2_with fail
          go_quiet ((go_at_call 24; exact Calls.quiet_of_same (cL _)))
          have HS5 := Hid3.mk (HS3.out nq)
          clear HS3 HS2 c1 c2 hg cL hwi0 hld
          generalize wr.drewN nq = W5 at *
          go_wp2_with fail
          go_loopw [11] (fun s7 wr => ∃ (jx : Nat), ix ≤ jx + 1 ∧ jx ≤ j0 ∧ s7 = .int .i64 jx ∧ Hid3 (Ro wr g n f0 ∧ Pp a b f f0 pv ix (jx + 1) ∧ Apart (XB g) w wr)) (fun s _ => (intOf s).toNat)
          case atStart => exact ⟨j0, by omega, by omega, by first | rfl | go_num, HS5⟩
          case round =>
            obtain ⟨jx, hjx1, hjx2, rfl, HS6⟩ := hrel
            clear HS5
            by_cases hixjx : ix ≤ jx
            · have hixjxz : (ix : Int) ≤ (jx : Int) := by omega
              have hixjxn : ¬ (jx : Int) < (ix : Int) := by omega
              have hixjxg : decide ((ix : Int) ≤ (jx : Int)) = true := by simpa using hixjxz
              have hixjxd : decide (jx < ix) = false := decide_eq_false (by omega)
              obtain ⟨kx, hkx1, hkx2⟩ : ∃ kx, kx + 1 ≤ jx ∧ jx ≤ kx + 1 := ⟨jx - 1, by omega, by omega⟩
              have hwkx : IntKind.i64.wrap ((jx : Int) - 1) = (kx : Int) := by rw [IntKind.wrap_i64]; omega
              have c1 := HS6.out.1.cell jx (by omega)
              have c2 := HS6.out.1.cell a (by omega)
              have hg := HS6.out.1.lt
              have bjx : jx < n := by omega
              have bjxz : (jx : Int) < (n : Int) := by omega
              have cL := fun W => less_any (f0 jx) (f0 a) W
              by_cases hjxl : f0 jx < f0 a
              · have hld : decide (f0 jx < f0 a) = true := by simpa using hjxl
                rw [hld] at cL
                clear hld
                have hixm : ¬ f0 ix < f0 a := by omega
                have nix1 : ix ≠ jx := fun e => hixm (by rw [e]; exact hjxl)
                obtain ⟨ixp, hixp1, hixp2⟩ : ∃ x, x ≤ ix + 1 ∧ ix + 1 ≤ x := ⟨ix + 1, Nat.le_refl _, Nat.le_refl _⟩
                have nix2 : jx ≠ ix := fun e => nix1 e.symm
                have bix : ix < n := by omega
                have hwix : IntKind.i64.wrap ((ix : Int) + 1) = (ixp : Int) := by rw [IntKind.wrap_i64]; omega
                have bixz : (ix : Int) < (n : Int) := by omega
                have HS7 : Hid3 (∀ m, Ro (((wr.drewN m).setCell ⟨g, ix, none⟩ (.int .u8 (f0 jx))).setCell ⟨g, jx, none⟩ (.int .u8 (f0 ix))).drew g n (swF f0 ix jx) ∧ Pp a b f (swF f0 ix jx) pv ixp (kx + 1) ∧ Apart (XB g) w (((wr.drewN m).setCell ⟨g, ix, none⟩ (.int .u8 (f0 jx))).setCell ⟨g, jx, none⟩ (.int .u8 (f0 ix))).drew) := ⟨fun m => ⟨((HS6.out.1.drewN m).swap ix jx bix bjx).drew, HS6.out.2.1.swap2 hkx1 hkx2 (by omega) (by omega) (by omega) hixm hjxl hixp1 hixp2, ((HS6.out.2.2.trans (apart_drewN g wr m)).trans ((Apart.at (X := XB g) _ g _ _ rfl).trans (Apart.at (X := XB g) _ g _ _ rfl))).drew⟩⟩
                have c3 := HS6.out.1.cell ix bix
                have t1 := HS6.out.1.thaw ix
                have t2 := HS6.out.1.thaw jx
                go_wp2_with fail
                go_quiet ((go_at_call 24; exact Calls.quiet_of_same (cL _)))
                go_wp2_with fail
                have d1 : (wr.drewN nq).cell? ⟨g, jx, none⟩ = some (.int .u8 (f0 jx)) := c1
                have d2 : (wr.drewN nq).cell? ⟨g, ix, none⟩ = some (.int .u8 (f0 ix)) := c3
                have e1 : (wr.drewN nq).frozen? ⟨g, ix, none⟩ = false := t1
                have e2 : (wr.drewN nq).frozen? ⟨g, jx, none⟩ = false := t2
                have hg2 : g < (wr.drewN nq).heap.size := hg
                have HS8 := Hid3.mk (HS7.out nq)
                clear HS7 c1 c2 c3 t1 t2 hg cL HS6
                generalize wr.drewN nq = W6 at *
                go_region
                go_wp2_with fail
                go_loopw [10, 11] (fun s6 s7 wr => ∃ (i0 j : Nat) (f1 : Nat → Int), a + 1 ≤ i0 ∧ i0 ≤ j + 1 ∧ j + 1 ≤ b ∧ s6 = .int .i64 i0 ∧ s7 = .int .i64 j ∧ Hid3 (Ro wr g n f1 ∧ Pp a b f f1 pv i0 (j + 1) ∧ Apart (XB g) w wr)) (fun s t _ => (intOf t + 1 - intOf s).toNat)
                case atStart => exact ⟨ixp, kx, _, by omega, by omega, by omega, by first | rfl | go_num, by first | rfl | go_num, HS8⟩
                case round =>
                  obtain ⟨i0, j, f1, hi1, hi2, hj, rfl, rfl, HS⟩ := hrel
                  clear HS8 hixl hixm hjxl nix1 nix2 hixj0z hixj0g hixjxz hixjxn hixjxg hwix hwkx bixz bjxz hixp1 hixp2 hkx1 hkx2 hix3 hix4 hix5 hixj0 hjx1 hjx2 hixjx bix bjx
                  go_wp2_with fail
                  go_loopw [10] (fun s6 wr => ∃ (i : Nat), i0 ≤ i ∧ i ≤ j + 1 ∧ s6 = .int .i64 i ∧ Hid3 (Ro wr g n f1 ∧ Pp a b f f1 pv i (j + 1) ∧ Apart (XB g) w wr)) (fun s _ => 70 - (intOf s).toNat)
                  case atStart => exact ⟨i0, by omega, by omega, by first | rfl | go_num, HS⟩
                  case round =>
                    obtain ⟨i, hi3, hi4, rfl, HS2⟩ := hrel
                    clear HS
                    have hi5 : a + 1 ≤ i := by omega
                    by_cases hij : i ≤ j
                    · have hijz : (i : Int) ≤ (j : Int) := by omega
                      have hijg : decide ((i : Int) ≤ (j : Int)) = true := by simpa using hijz
                      have hwi0 : IntKind.i64.wrap ((i : Int) + 1) = ((i + 1 : Nat) : Int) := by rw [IntKind.wrap_i64]; omega
                      have c1 := HS2.out.1.cell i (by omega)
                      have c2 := HS2.out.1.cell a (by omega)
                      have hg := HS2.out.1.lt
                      have d1z : (i : Int) < (n : Int) := by omega
                      have cL := fun W => less_any (f1 i) (f1 a) W
                      by_cases hil : f1 i < f1 a
                      · have hld : decide (f1 i < f1 a) = true := by simpa using hil
                        rw [hld] at cL
                        have HS3 : Hid3 (∀ m, Ro (wr.drewN m) g n f1 ∧ Pp a b f f1 pv (i + 1) (j + 1) ∧ Apart (XB g) w (wr.drewN m)) := ⟨fun m => ⟨HS2.out.1.drewN m, HS2.out.2.1.up hil, HS2.out.2.2.trans (apart_drewN g wr m)⟩⟩
                        go_wp2_with fail
                        go_quiet ((go_at_call 24; exact Calls.quiet_of_same (cL _)))
                        go_wp2
                        go_roundw
                        case rel => exact ⟨i + 1, by omega, by omega, by go_num, ⟨HS3.out _⟩⟩
                        case measure => simp [intOf]; omega
                      · have hld : decide (f1 i < f1 a) = false := by simpa using hil
                        rw [hld] at cL
                        have HS3 : Hid3 (∀ m, Ro (wr.drewN m) g n f1 ∧ Pp a b f f1 pv i (j + 1) ∧ Apart (XB g) w (wr.drewN m)) := ⟨fun m => ⟨HS2.out.1.drewN m, HS2.out.2.1, HS2.out.2.2.trans (apart_drewN g wr m)⟩⟩
                        go_wp2_with fail
                        go_quiet ((go_at_call 24; exact Calls.quiet_of_same (cL _)))
                        have HS5 := Hid3.mk (HS3.out nq)
                        clear HS3 HS2 c1 c2 hg cL hwi0 hld
                        generalize wr.drewN nq = W5 at *
                        go_wp2_with fail
                        go_loopw [11] (fun s7 wr => ∃ (j2 : Nat), i ≤ j2 + 1 ∧ j2 ≤ j ∧ s7 = .int .i64 j2 ∧ Hid3 (Ro wr g n f1 ∧ Pp a b f f1 pv i (j2 + 1) ∧ Apart (XB g) w wr)) (fun s _ => (intOf s).toNat)
                        case atStart => exact ⟨j, by omega, by omega, by first | rfl | go_num, HS5⟩
                        case round =>
                          obtain ⟨j2, hj21, hj22, rfl, HS6⟩ := hrel
                          clear HS5
                          by_cases hij2 : i ≤ j2
                          · have hij2z : (i : Int) ≤ (j2 : Int) := by omega
                            have hij2n : ¬ (j2 : Int) < (i : Int) := by omega
                            have hij2g : decide ((i : Int) ≤ (j2 : Int)) = true := by simpa using hij2z
                            have hij2d : decide (j2 < i) = false := decide_eq_false (by omega)
                            obtain ⟨k, hk1, hk2⟩ : ∃ k, k + 1 ≤ j2 ∧ j2 ≤ k + 1 := ⟨j2 - 1, by omega, by omega⟩
                            have hwk : IntKind.i64.wrap ((j2 : Int) - 1) = (k : Int) := by rw [IntKind.wrap_i64]; omega
                            have c1 := HS6.out.1.cell j2 (by omega)
                            have c2 := HS6.out.1.cell a (by omega)
                            have hg := HS6.out.1.lt
                            have bj2 : j2 < n := by omega
                            have bj2z : (j2 : Int) < (n : Int) := by omega
                            have cL := fun W => less_any (f1 j2) (f1 a) W
                            by_cases hj2l : f1 j2 < f1 a
                            · have hld : decide (f1 j2 < f1 a) = true := by simpa using hj2l
                              rw [hld] at cL
                              clear hld
                              have him : ¬ f1 i < f1 a := by omega
                              have ni1 : i ≠ j2 := fun e => him (by rw [e]; exact hj2l)
                              obtain ⟨ip, hip1, hip2⟩ : ∃ x, x ≤ i + 1 ∧ i + 1 ≤ x := ⟨i + 1, Nat.le_refl _, Nat.le_refl _⟩
                              have ni2 : j2 ≠ i := fun e => ni1 e.symm
                              have bi : i < n := by omega
                              have hwi : IntKind.i64.wrap ((i : Int) + 1) = (ip : Int) := by rw [IntKind.wrap_i64]; omega
                              have biz : (i : Int) < (n : Int) := by omega
                              have HS7 : Hid3 (∀ m, Ro (((wr.drewN m).setCell ⟨g, i, none⟩ (.int .u8 (f1 j2))).setCell ⟨g, j2, none⟩ (.int .u8 (f1 i))).drew g n (swF f1 i j2) ∧ Pp a b f (swF f1 i j2) pv ip (k + 1) ∧ Apart (XB g) w (((wr.drewN m).setCell ⟨g, i, none⟩ (.int .u8 (f1 j2))).setCell ⟨g, j2, none⟩ (.int .u8 (f1 i))).drew) := ⟨fun m => ⟨((HS6.out.1.drewN m).swap i j2 bi bj2).drew, HS6.out.2.1.swap2 hk1 hk2 (by omega) (by omega) (by omega) him hj2l hip1 hip2, ((HS6.out.2.2.trans (apart_drewN g wr m)).trans ((Apart.at (X := XB g) _ g _ _ rfl).trans (Apart.at (X := XB g) _ g _ _ rfl))).drew⟩⟩
                              have c3 := HS6.out.1.cell i bi
                              have t1 := HS6.out.1.thaw i
                              have t2 := HS6.out.1.thaw j2
                              go_wp2_with fail
                              go_quiet ((go_at_call 24; exact Calls.quiet_of_same (cL _)))
                              go_wp2_with fail
                              have d1 : (wr.drewN nq).cell? ⟨g, j2, none⟩ = some (.int .u8 (f1 j2)) := c1
                              have d2 : (wr.drewN nq).cell? ⟨g, i, none⟩ = some (.int .u8 (f1 i)) := c3
                              have e1 : (wr.drewN nq).frozen? ⟨g, i, none⟩ = false := t1
                              have e2 : (wr.drewN nq).frozen? ⟨g, j2, none⟩ = false := t2
                              have hg2 : g < (wr.drewN nq).heap.size := hg
                              have HS8 := Hid3.mk (HS7.out nq)
                              clear HS7 c1 c2 c3 t1 t2 hg cL HS6
                              generalize wr.drewN nq = W6 at *
                              go_region
                              go_wp2
                              go_roundw
                              case rel => exact ⟨ip, k, _, by omega, by omega, by omega, by first | rfl | go_num, by first | rfl | go_num, HS8⟩
                              case measure => simp [intOf]; omega
                            · have hld : decide (f1 j2 < f1 a) = false := by simpa using hj2l
                              rw [hld] at cL
                              have HS7 : Hid3 (∀ m, Ro (wr.drewN m) g n f1 ∧ Pp a b f f1 pv i (k + 1) ∧ Apart (XB g) w (wr.drewN m)) := ⟨fun m => ⟨HS6.out.1.drewN m, HS6.out.2.1.down hk1 hk2 hj2l, HS6.out.2.2.trans (apart_drewN g wr m)⟩⟩
                              go_wp2_with fail
                              go_quiet ((go_at_call 24; exact Calls.quiet_of_same (cL _)))
                              go_wp2
                              go_roundw
                              case rel => exact ⟨k, by omega, by omega, by go_num, ⟨HS7.out _⟩⟩
                              case measure => simp [intOf]; omega
                          · have z1 : ¬ (i : Int) ≤ (j2 : Int) := by omega
                            have z2 : (j2 : Int) < (i : Int) := by omega
                            have z3 : decide ((i : Int) ≤ (j2 : Int)) = false := by simpa using z1
                            have HE : Hid3 (∀ m, ∃ f', Ro (((wr.drewN m).setCell ⟨g, j2, none⟩ (.int .u8 (f1 a))).setCell ⟨g, a, none⟩ (.int .u8 (f1 j2))).drew g n f' ∧ Sh a b f f' ∧ f' j2 = pv ∧ (∀ p, a ≤ p → p < j2 → f' p < pv) ∧ (∀ p, j2 < p → p < b → pv ≤ f' p) ∧ Apart (XB g) w (((wr.drewN m).setCell ⟨g, j2, none⟩ (.int .u8 (f1 a))).setCell ⟨g, a, none⟩ (.int .u8 (f1 j2))).drew) := ⟨fun m => ⟨swF f1 j2 a, ((HS6.out.1.drewN m).swap j2 a (by omega) (by omega)).drew, (HS6.out.2.1.fin (by omega) (by omega) (by omega) (by omega)).1, (HS6.out.2.1.fin (by omega) (by omega) (by omega) (by omega)).2.1, (HS6.out.2.1.fin (by omega) (by omega) (by omega) (by omega)).2.2.1, (HS6.out.2.1.fin (by omega) (by omega) (by omega) (by omega)).2.2.2, ((HS6.out.2.2.trans (apart_drewN g wr m)).trans ((Apart.at (X := XB g) _ g _ _ rfl).trans (Apart.at (X := XB g) _ g _ _ rfl))).drew⟩⟩
                            have c1 := HS6.out.1.cell j2 (by omega)
                            have c2 := HS6.out.1.cell a (by omega)
                            have t1 := HS6.out.1.thaw j2
                            have t2 := HS6.out.1.thaw a
                            have hg := HS6.out.1.lt
                            have y1 : j2 < n := by omega
                            have y2 : a < n := by omega
                            have y1z : (j2 : Int) < (n : Int) := by omega
                            have y2z : (a : Int) < (n : Int) := by omega
                            have y3 : a ≤ j2 := by omega
                            have y4 : j2 < b := by omega
                            go_wp2_with fail
                            go_quiet (fail)
                            go_wp2_with fail
                            have d1 : (wr.drewN nq).cell? ⟨g, j2, none⟩ = some (.int .u8 (f1 j2)) := c1
                            have d2 : (wr.drewN nq).cell? ⟨g, a, none⟩ = some (.int .u8 (f1 a)) := c2
                            have e1 : (wr.drewN nq).frozen? ⟨g, j2, none⟩ = false := t1
                            have e2 : (wr.drewN nq).frozen? ⟨g, a, none⟩ = false := t2
                            have hg2 : g < (wr.drewN nq).heap.size := hg
                            have HE2 := Hid3.mk (HE.out nq)
                            clear HE HS6 c1 c2 t1 t2 hg
                            generalize wr.drewN nq = W6 at *
                            by_cases eja : a = j2
                            · subst eja
                              go_region
                              go_wp2
                              go_ret2
                              exact ⟨a, false, rfl, Nat.le_refl _, y4, HE2.out⟩
                            · have n3 : j2 ≠ a := fun e => eja e.symm
                              go_region
                              go_wp2
                              go_ret2
                              exact ⟨j2, false, rfl, y3, y4, HE2.out⟩
                    · have hijz : ¬ (i : Int) ≤ (j : Int) := by omega
                      have hijg : decide ((i : Int) ≤ (j : Int)) = false := by simpa using hijz
                      have HS3 : Hid3 (∀ m, Ro (wr.drewN m) g n f1 ∧ Pp a b f f1 pv i (j + 1) ∧ Apart (XB g) w (wr.drewN m)) := ⟨fun m => ⟨HS2.out.1.drewN m, HS2.out.2.1, HS2.out.2.2.trans (apart_drewN g wr m)⟩⟩
                      go_wp2_with fail
                      go_quiet (fail)
                      have HS5 := Hid3.mk (HS3.out nq)
                      clear HS3 HS2
                      generalize wr.drewN nq = W5 at *
                      go_wp2_with fail
                      go_loopw [11] (fun s7 wr => ∃ (j2 : Nat), i ≤ j2 + 1 ∧ j2 ≤ j ∧ s7 = .int .i64 j2 ∧ Hid3 (Ro wr g n f1 ∧ Pp a b f f1 pv i (j2 + 1) ∧ Apart (XB g) w wr)) (fun s _ => (intOf s).toNat)
                      case atStart => exact ⟨j, by omega, by omega, by first | rfl | go_num, HS5⟩
                      case round =>
                        obtain ⟨j2, hj21, hj22, rfl, HS6⟩ := hrel
                        clear HS5
                        by_cases hij2 : i ≤ j2
                        · have hij2z : (i : Int) ≤ (j2 : Int) := by omega
                          have hij2n : ¬ (j2 : Int) < (i : Int) := by omega
                          have hij2g : decide ((i : Int) ≤ (j2 : Int)) = true := by simpa using hij2z
                          have hij2d : decide (j2 < i) = false := decide_eq_false (by omega)
                          obtain ⟨k, hk1, hk2⟩ : ∃ k, k + 1 ≤ j2 ∧ j2 ≤ k + 1 := ⟨j2 - 1, by omega, by omega⟩
                          have hwk : IntKind.i64.wrap ((j2 : Int) - 1) = (k : Int) := by rw [IntKind.wrap_i64]; omega
                          have c1 := HS6.out.1.cell j2 (by omega)
                          have c2 := HS6.out.1.cell a (by omega)
                          have hg := HS6.out.1.lt
                          have bj2 : j2 < n := by omega
                          have bj2z : (j2 : Int) < (n : Int) := by omega
                          have cL := fun W => less_any (f1 j2) (f1 a) W
                          by_cases hj2l : f1 j2 < f1 a
                          · have hld : decide (f1 j2 < f1 a) = true := by simpa using hj2l
                            rw [hld] at cL
                            clear hld
                            omega
                          · have hld : decide (f1 j2 < f1 a) = false := by simpa using hj2l
                            rw [hld] at cL
                            have HS7 : Hid3 (∀ m, Ro (wr.drewN m) g n f1 ∧ Pp a b f f1 pv i (k + 1) ∧ Apart (XB g) w (wr.drewN m)) := ⟨fun m => ⟨HS6.out.1.drewN m, HS6.out.2.1.down hk1 hk2 hj2l, HS6.out.2.2.trans (apart_drewN g wr m)⟩⟩
                            go_wp2_with fail
                            go_quiet ((go_at_call 24; exact Calls.quiet_of_same (cL _)))
                            go_wp2
                            go_roundw
                            case rel => exact ⟨k, by omega, by omega, by go_num, ⟨HS7.out _⟩⟩
                            case measure => simp [intOf]; omega
                        · have z1 : ¬ (i : Int) ≤ (j2 : Int) := by omega
                          have z2 : (j2 : Int) < (i : Int) := by omega
                          have z3 : decide ((i : Int) ≤ (j2 : Int)) = false := by simpa using z1
                          have HE : Hid3 (∀ m, ∃ f', Ro (((wr.drewN m).setCell ⟨g, j2, none⟩ (.int .u8 (f1 a))).setCell ⟨g, a, none⟩ (.int .u8 (f1 j2))).drew g n f' ∧ Sh a b f f' ∧ f' j2 = pv ∧ (∀ p, a ≤ p → p < j2 → f' p < pv) ∧ (∀ p, j2 < p → p < b → pv ≤ f' p) ∧ Apart (XB g) w (((wr.drewN m).setCell ⟨g, j2, none⟩ (.int .u8 (f1 a))).setCell ⟨g, a, none⟩ (.int .u8 (f1 j2))).drew) := ⟨fun m => ⟨swF f1 j2 a, ((HS6.out.1.drewN m).swap j2 a (by omega) (by omega)).drew, (HS6.out.2.1.fin (by omega) (by omega) (by omega) (by omega)).1, (HS6.out.2.1.fin (by omega) (by omega) (by omega) (by omega)).2.1, (HS6.out.2.1.fin (by omega) (by omega) (by omega) (by omega)).2.2.1, (HS6.out.2.1.fin (by omega) (by omega) (by omega) (by omega)).2.2.2, ((HS6.out.2.2.trans (apart_drewN g wr m)).trans ((Apart.at (X := XB g) _ g _ _ rfl).trans (Apart.at (X := XB g) _ g _ _ rfl))).drew⟩⟩
                          have c1 := HS6.out.1.cell j2 (by omega)
                          have c2 := HS6.out.1.cell a (by omega)
                          have t1 := HS6.out.1.thaw j2
                          have t2 := HS6.out.1.thaw a
                          have hg := HS6.out.1.lt
                          have y1 : j2 < n := by omega
                          have y2 : a < n := by omega
                          have y1z : (j2 : Int) < (n : Int) := by omega
                          have y2z : (a : Int) < (n : Int) := by omega
                          have y3 : a ≤ j2 := by omega
                          have y4 : j2 < b := by omega
                          go_wp2_with fail
                          go_quiet (fail)
                          go_wp2_with fail
                          have d1 : (wr.drewN nq).cell? ⟨g, j2, none⟩ = some (.int .u8 (f1 j2)) := c1
                          have d2 : (wr.drewN nq).cell? ⟨g, a, none⟩ = some (.int .u8 (f1 a)) := c2
                          have e1 : (wr.drewN nq).frozen? ⟨g, j2, none⟩ = false := t1
                          have e2 : (wr.drewN nq).frozen? ⟨g, a, none⟩ = false := t2
                          have hg2 : g < (wr.drewN nq).heap.size := hg
                          have HE2 := Hid3.mk (HE.out nq)
                          clear HE HS6 c1 c2 t1 t2 hg
                          generalize wr.drewN nq = W6 at *
                          by_cases eja : a = j2
                          · subst eja
                            go_region
                            go_wp2
                            go_ret2
                            exact ⟨a, false, rfl, Nat.le_refl _, y4, HE2.out⟩
                          · have n3 : j2 ≠ a := fun e => eja e.symm
                            go_region
                            go_wp2
                            go_ret2
                            exact ⟨j2, false, rfl, y3, y4, HE2.out⟩

              · have hld : decide (f0 jx < f0 a) = false := by simpa using hjxl
                rw [hld] at cL
                have HS7 : Hid3 (∀ m, Ro (wr.drewN m) g n f0 ∧ Pp a b f f0 pv ix (kx + 1) ∧ Apart (XB g) w (wr.drewN m)) := ⟨fun m => ⟨HS6.out.1.drewN m, HS6.out.2.1.down hkx1 hkx2 hjxl, HS6.out.2.2.trans (apart_drewN g wr m)⟩⟩
                go_wp2_with fail
                go_quiet ((go_at_call 24; exact Calls.quiet_of_same (cL _)))
                go_wp2
                go_roundw
                case rel => exact ⟨kx, by omega, by omega, by go_num, ⟨HS7.out _⟩⟩
                case measure => simp [intOf]; omega
            · have z1 : ¬ (ix : Int) ≤ (jx : Int) := by omega
              have z2 : (jx : Int) < (ix : Int) := by omega
              have z3 : decide ((ix : Int) ≤ (jx : Int)) = false := by simpa using z1
              have HE : Hid3 (∀ m, ∃ f', Ro (((wr.drewN m).setCell ⟨g, jx, none⟩ (.int .u8 (f0 a))).setCell ⟨g, a, none⟩ (.int .u8 (f0 jx))).drew g n f' ∧ Sh a b f f' ∧ f' jx = pv ∧ (∀ p, a ≤ p → p < jx → f' p < pv) ∧ (∀ p, jx < p → p < b → pv ≤ f' p) ∧ Apart (XB g) w (((wr.drewN m).setCell ⟨g, jx, none⟩ (.int .u8 (f0 a))).setCell ⟨g, a, none⟩ (.int .u8 (f0 jx))).drew) := ⟨fun m => ⟨swF f0 jx a, ((HS6.out.1.drewN m).swap jx a (by omega) (by omega)).drew, (HS6.out.2.1.fin (by omega) (by omega) (by omega) (by omega)).1, (HS6.out.2.1.fin (by omega) (by omega) (by omega) (by omega)).2.1, (HS6.out.2.1.fin (by omega) (by omega) (by omega) (by omega)).2.2.1, (HS6.out.2.1.fin (by omega) (by omega) (by omega) (by omega)).2.2.2, ((HS6.out.2.2.trans (apart_drewN g wr m)).trans ((Apart.at (X := XB g) _ g _ _ rfl).trans (Apart.at (X := XB g) _ g _ _ rfl))).drew⟩⟩
              have c1 := HS6.out.1.cell jx (by omega)
              have c2 := HS6.out.1.cell a (by omega)
              have t1 := HS6.out.1.thaw jx
              have t2 := HS6.out.1.thaw a
              have hg := HS6.out.1.lt
              have y1 : jx < n := by omega
              have y2 : a < n := by omega
              have y1z : (jx : Int) < (n : Int) := by omega
              have y2z : (a : Int) < (n : Int) := by omega
              have y3 : a ≤ jx := by omega
              have y4 : jx < b := by omega
              go_wp2_with fail
              go_quiet (fail)
              go_wp2_with fail
              have d1 : (wr.drewN nq).cell? ⟨g, jx, none⟩ = some (.int .u8 (f0 jx)) := c1
              have d2 : (wr.drewN nq).cell? ⟨g, a, none⟩ = some (.int .u8 (f0 a)) := c2
              have e1 : (wr.drewN nq).frozen? ⟨g, jx, none⟩ = false := t1
              have e2 : (wr.drewN nq).frozen? ⟨g, a, none⟩ = false := t2
              have hg2 : g < (wr.drewN nq).heap.size := hg
              have HE2 := Hid3.mk (HE.out nq)
              clear HE HS6 c1 c2 t1 t2 hg
              generalize wr.drewN nq = W6 at *
              by_cases eja : a = jx
              · subst eja
                go_region
                go_wp2
                go_ret2
                exact ⟨a, true, rfl, Nat.le_refl _, y4, HE2.out⟩
              · have n3 : jx ≠ a := fun e => eja e.symm
                go_region
                go_wp2
                go_ret2
                exact ⟨jx, true, rfl, y3, y4, HE2.out⟩
      · have hixj0z : ¬ (ix : Int) ≤ (j0 : Int) := by omega
        have hixj0g : decide ((ix : Int) ≤ (j0 : Int)) = false := by simpa using hixj0z
        have HS3 : Hid3 (∀ m, Ro (wr.drewN m) g n f0 ∧ Pp a b f f0 pv ix (j0 + 1) ∧ Apart (XB g) w (wr.drewN m)) := ⟨fun m => ⟨HS2.out.1.drewN m, HS2.out.2.1, HS2.out.2.2.trans (apart_drewN g wr m)⟩⟩
        go_wp2_with fail
        go_quiet (fail)
        have HS5 := Hid3.mk (HS3.out nq)
        clear HS3 HS2
        generalize wr.drewN nq = W5 at *
        go_wp2_with fail
        go_loopw [11] (fun s7 wr => ∃ (jx : Nat), ix ≤ jx + 1 ∧ jx ≤ j0 ∧ s7 = .int .i64 jx ∧ Hid3 (Ro wr g n f0 ∧ Pp a b f f0 pv ix (jx + 1) ∧ Apart (XB g) w wr)) (fun s _ => (intOf s).toNat)
        case atStart => exact ⟨j0, by omega, by omega, by first | rfl | go_num, HS5⟩
        case round =>
          obtain ⟨jx, hjx1, hjx2, rfl, HS6⟩ := hrel
          clear HS5
          by_cases hixjx : ix ≤ jx
          · have hixjxz : (ix : Int) ≤ (jx : Int) := by omega
            have hixjxn : ¬ (jx : Int) < (ix : Int) := by omega
            have hixjxg : decide ((ix : Int) ≤ (jx : Int)) = true := by simpa using hixjxz
            have hixjxd : decide (jx < ix) = false := decide_eq_false (by omega)
            obtain ⟨kx, hkx1, hkx2⟩ : ∃ kx, kx + 1 ≤ jx ∧ jx ≤ kx + 1 := ⟨jx - 1, by omega, by omega⟩
            have hwkx : IntKind.i64.wrap ((jx : Int) - 1) = (kx : Int) := by rw [IntKind.wrap_i64]; omega
            have c1 := HS6.out.1.cell jx (by omega)
            have c2 := HS6.out.1.cell a (by omega)
            have hg := HS6.out.1.lt
            have bjx : jx < n := by omega
            have bjxz : (jx : Int) < (n : Int) := by omega
            have cL := fun W => less_any (f0 jx) (f0 a) W
            by_cases hjxl : f0 jx < f0 a
            · have hld : decide (f0 jx < f0 a) = true := by simpa using hjxl
              rw [hld] at cL
              clear hld
              omega
            · have hld : decide (f0 jx < f0 a) = false := by simpa using hjxl
              rw [hld] at cL
              have HS7 : Hid3 (∀ m, Ro (wr.drewN m) g n f0 ∧ Pp a b f f0 pv ix (kx + 1) ∧ Apart (XB g) w (wr.drewN m)) := ⟨fun m => ⟨HS6.out.1.drewN m, HS6.out.2.1.down hkx1 hkx2 hjxl, HS6.out.2.2.trans (apart_drewN g wr m)⟩⟩
              go_wp2_with fail
              go_quiet ((go_at_call 24; exact Calls.quiet_of_same (cL _)))
              go_wp2
              go_roundw
              case rel => exact ⟨kx, by omega, by omega, by go_num, ⟨HS7.out _⟩⟩
              case measure => simp [intOf]; omega
          · have z1 : ¬ (ix : Int) ≤ (jx : Int) := by omega
            have z2 : (jx : Int) < (ix : Int) := by omega
            have z3 : decide ((ix : Int) ≤ (jx : Int)) = false := by simpa using z1
            have HE : Hid3 (∀ m, ∃ f', Ro (((wr.drewN m).setCell ⟨g, jx, none⟩ (.int .u8 (f0 a))).setCell ⟨g, a, none⟩ (.int .u8 (f0 jx))).drew g n f' ∧ Sh a b f f' ∧ f' jx = pv ∧ (∀ p, a ≤ p → p < jx → f' p < pv) ∧ (∀ p, jx < p → p < b → pv ≤ f' p) ∧ Apart (XB g) w (((wr.drewN m).setCell ⟨g, jx, none⟩ (.int .u8 (f0 a))).setCell ⟨g, a, none⟩ (.int .u8 (f0 jx))).drew) := ⟨fun m => ⟨swF f0 jx a, ((HS6.out.1.drewN m).swap jx a (by omega) (by omega)).drew, (HS6.out.2.1.fin (by omega) (by omega) (by omega) (by omega)).1, (HS6.out.2.1.fin (by omega) (by omega) (by omega) (by omega)).2.1, (HS6.out.2.1.fin (by omega) (by omega) (by omega) (by omega)).2.2.1, (HS6.out.2.1.fin (by omega) (by omega) (by omega) (by omega)).2.2.2, ((HS6.out.2.2.trans (apart_drewN g wr m)).trans ((Apart.at (X := XB g) _ g _ _ rfl).trans (Apart.at (X := XB g) _ g _ _ rfl))).drew⟩⟩
            have c1 := HS6.out.1.cell jx (by omega)
            have c2 := HS6.out.1.cell a (by omega)
            have t1 := HS6.out.1.thaw jx
            have t2 := HS6.out.1.thaw a
            have hg := HS6.out.1.lt
            have y1 : jx < n := by omega
            have y2 : a < n := by omega
            have y1z : (jx : Int) < (n : Int) := by omega
            have y2z : (a : Int) < (n : Int) := by omega
            have y3 : a ≤ jx := by omega
            have y4 : jx < b := by omega
            go_wp2_with fail
            go_quiet (fail)
            go_wp2_with fail
            have d1 : (wr.drewN nq).cell? ⟨g, jx, none⟩ = some (.int .u8 (f0 jx)) := c1
            have d2 : (wr.drewN nq).cell? ⟨g, a, none⟩ = some (.int .u8 (f0 a)) := c2
            have e1 : (wr.drewN nq).frozen? ⟨g, jx, none⟩ = false := t1
            have e2 : (wr.drewN nq).frozen? ⟨g, a, none⟩ = false := t2
            have hg2 : g < (wr.drewN nq).heap.size := hg
            have HE2 := Hid3.mk (HE.out nq)
            clear HE HS6 c1 c2 t1 t2 hg
            generalize wr.drewN nq = W6 at *
            by_cases eja : a = jx
            · subst eja
              go_region
              go_wp2
              go_ret2
              exact ⟨a, true, rfl, Nat.le_refl _, y4, HE2.out⟩
            · have n3 : jx ≠ a := fun e => eja e.symm
              go_region
              go_wp2
              go_ret2
              exact ⟨jx, true, rfl, y3, y4, HE2.out⟩
  have n1 := eac
  have n2 : c ≠ a := fun e => eac e.symm
  go_region
  clear c1 c2 t1 t2 hg
  generalize ((w.setCell ⟨g, a, none⟩ (.int .u8 pv)).setCell ⟨g, c, none⟩ (.int .u8 (f a))).drew = W1 at *
  generalize swF f a c = f0 at *
  have hab : a < b := by omega
  clear n1 n2 eac b2 b2z hac hcb
  go_wp2_with fail
  go_loopw [10] (fun s6 wr => ∃ (ix : Nat), (a + 1) ≤ ix ∧ ix ≤ j0 + 1 ∧ s6 = .int .i64 ix ∧ Hid3 (Ro wr g n f0 ∧ Pp a b f f0 pv ix (j0 + 1) ∧ Apart (XB g) w wr)) (fun s _ => 70 - (intOf s).toNat)
  case atStart => exact ⟨(a + 1), by omega, by omega, by first | rfl | go_num, HS⟩
  case round =>
    obtain ⟨ix, hix3, hix4, rfl, HS2⟩ := hrel
    clear HS
    have hix5 : a + 1 ≤ ix := by omega
    by_cases hixj0 : ix ≤ j0
    · have hixj0z : (ix : Int) ≤ (j0 : Int) := by omega
      have hixj0g : decide ((ix : Int) ≤ (j0 : Int)) = true := by simpa using hixj0z
      have hwi0 : IntKind.i64.wrap ((ix : Int) + 1) = ((ix + 1 : Nat) : Int) := by rw [IntKind.wrap_i64]; omega
      have c1 := HS2.out.1.cell ix (by omega)
      have c2 := HS2.out.1.cell a (by omega)
      have hg := HS2.out.1.lt
      have d1z : (ix : Int) < (n : Int) := by omega
      have cL := fun W => less_any (f0 ix) (f0 a) W
      by_cases hixl : f0 ix < f0 a
      · have hld : decide (f0 ix < f0 a) = true := by simpa using hixl
        rw [hld] at cL
        have HS3 : Hid3 (∀ m, Ro (wr.drewN m) g n f0 ∧ Pp a b f f0 pv (ix + 1) (j0 + 1) ∧ Apart (XB g) w (wr.drewN m)) := ⟨fun m => ⟨HS2.out.1.drewN m, HS2.out.2.1.up hixl, HS2.out.2.2.trans (apart_drewN g wr m)⟩⟩
        go_wp2_with fail
        go_quiet ((go_at_call 24; exact Calls.quiet_of_same (cL _)))
        go_wp2
        go_roundw
        case rel => exact ⟨ix + 1, by omega, by omega, by go_num, ⟨HS3.out _⟩⟩
        case measure => simp [intOf]; omega
      · have hld : decide (f0 ix < f0 a) = false := by simpa using hixl
        rw [hld] at cL
        have HS3 : Hid3 (∀ m, Ro (wr.drewN m) g n f0 ∧ Pp a b f f0 pv ix (j0 + 1) ∧ Apart (XB g) w (wr.drewN m)) := ⟨fun m => ⟨HS2.out.1.drewN m, HS2.out.2.1, HS2.out.2.2.trans (apart_drewN g wr m)⟩⟩
        go_wp2_with fail
        go_quiet ((go_at_call 24; exact Calls.quiet_of_same (cL _)))
        have HS5 := Hid3.mk (HS3.out nq)
        clear HS3 HS2 c1 c2 hg cL hwi0 hld
        generalize wr.drewN nq = W5 at *
        go_wp2_with fail
        go_loopw [11] (fun s7 wr => ∃ (jx : Nat), ix ≤ jx + 1 ∧ jx ≤ j0 ∧ s7 = .int .i64 jx ∧ Hid3 (Ro wr g n f0 ∧ Pp a b f f0 pv ix (jx + 1) ∧ Apart (XB g) w wr)) (fun s _ => (intOf s).toNat)
        case atStart => exact ⟨j0, by omega, by omega, by first | rfl | go_num, HS5⟩
        case round =>
          obtain ⟨jx, hjx1, hjx2, rfl, HS6⟩ := hrel
          clear HS5
          by_cases hixjx : ix ≤ jx
          · have hixjxz : (ix : Int) ≤ (jx : Int) := by omega
            have hixjxn : ¬ (jx : Int) < (ix : Int) := by omega
            have hixjxg : decide ((ix : Int) ≤ (jx : Int)) = true := by simpa using hixjxz
            have hixjxd : decide (jx < ix) = false := decide_eq_false (by omega)
            obtain ⟨kx, hkx1, hkx2⟩ : ∃ kx, kx + 1 ≤ jx ∧ jx ≤ kx + 1 := ⟨jx - 1, by omega, by omega⟩
            have hwkx : IntKind.i64.wrap ((jx : Int) - 1) = (kx : Int) := by rw [IntKind.wrap_i64]; omega
            have c1 := HS6.out.1.cell jx (by omega)
            have c2 := HS6.out.1.cell a (by omega)
            have hg := HS6.out.1.lt
            have bjx : jx < n := by omega
            have bjxz : (jx : Int) < (n : Int) := by omega
            have cL := fun W => less_any (f0 jx) (f0 a) W
            by_cases hjxl : f0 jx < f0 a
            · have hld : decide (f0 jx < f0 a) = true := by simpa using hjxl
              rw [hld] at cL
              clear hld
              have hixm : ¬ f0 ix < f0 a := by omega
              have nix1 : ix ≠ jx := fun e => hixm (by rw [e]; exact hjxl)
              obtain ⟨ixp, hixp1, hixp2⟩ : ∃ x, x ≤ ix + 1 ∧ ix + 1 ≤ x := ⟨ix + 1, Nat.le_refl _, Nat.le_refl _⟩
              have nix2 : jx ≠ ix := fun e => nix1 e.symm
              have bix : ix < n := by omega
              have hwix : IntKind.i64.wrap ((ix : Int) + 1) = (ixp : Int) := by rw [IntKind.wrap_i64]; omega
              have bixz : (ix : Int) < (n : Int) := by omega
              have HS7 : Hid3 (∀ m, Ro (((wr.drewN m).setCell ⟨g, ix, none⟩ (.int .u8 (f0 jx))).setCell ⟨g, jx, none⟩ (.int .u8 (f0 ix))).drew g n (swF f0 ix jx) ∧ Pp a b f (swF f0 ix jx) pv ixp (kx + 1) ∧ Apart (XB g) w (((wr.drewN m).setCell ⟨g, ix, none⟩ (.int .u8 (f0 jx))).setCell ⟨g, jx, none⟩ (.int .u8 (f0 ix))).drew) := ⟨fun m => ⟨((HS6.out.1.drewN m).swap ix jx bix bjx).drew, HS6.out.2.1.swap2 hkx1 hkx2 (by omega) (by omega) (by omega) hixm hjxl hixp1 hixp2, ((HS6.out.2.2.trans (apart_drewN g wr m)).trans ((Apart.at (X := XB g) _ g _ _ rfl).trans (Apart.at (X := XB g) _ g _ _ rfl))).drew⟩⟩
              have c3 := HS6.out.1.cell ix bix
              have t1 := HS6.out.1.thaw ix
              have t2 := HS6.out.1.thaw jx
              go_wp2_with fail
              go_quiet ((go_at_call 24; exact Calls.quiet_of_same (cL _)))
              go_wp2_with fail
              have d1 : (wr.drewN nq).cell? ⟨g, jx, none⟩ = some (.int .u8 (f0 jx)) := c1
              have d2 : (wr.drewN nq).cell? ⟨g, ix, none⟩ = some (.int .u8 (f0 ix)) := c3
              have e1 : (wr.drewN nq).frozen? ⟨g, ix, none⟩ = false := t1
              have e2 : (wr.drewN nq).frozen? ⟨g, jx, none⟩ = false := t2
              have hg2 : g < (wr.drewN nq).heap.size := hg
              have HS8 := Hid3.mk (HS7.out nq)
              clear HS7 c1 c2 c3 t1 t2 hg cL HS6
              generalize wr.drewN nq = W6 at *
              go_region
              go_wp2_with fail
              go_loopw [10, 11] (fun s6 s7 wr => ∃ (i0 j : Nat) (f1 : Nat → Int), a + 1 ≤ i0 ∧ i0 ≤ j + 1 ∧ j + 1 ≤ b ∧ s6 = .int .i64 i0 ∧ s7 = .int .i64 j ∧ Hid3 (Ro wr g n f1 ∧ Pp a b f f1 pv i0 (j + 1) ∧ Apart (XB g) w wr)) (fun s t _ => (intOf t + 1 - intOf s).toNat)
              case atStart => exact ⟨ixp, kx, _, by omega, by omega, by omega, by first | rfl | go_num, by first | rfl | go_num, HS8⟩
              case round =>
                obtain ⟨i0, j, f1, hi1, hi2, hj, rfl, rfl, HS⟩ := hrel
                clear HS8 hixl hixm hjxl nix1 nix2 hixj0z hixj0g hixjxz hixjxn hixjxg hwix hwkx bixz bjxz hixp1 hixp2 hkx1 hkx2 hix3 hix4 hix5 hixj0 hjx1 hjx2 hixjx bix bjx
                go_wp2_with fail
                go_loopw [10] (fun s6 wr => ∃ (i : Nat), i0 ≤ i ∧ i ≤ j + 1 ∧ s6 = .int .i64 i ∧ Hid3 (Ro wr g n f1 ∧ Pp a b f f1 pv i (j + 1) ∧ Apart (XB g) w wr)) (fun s _ => 70 - (intOf s).toNat)
                case atStart => exact ⟨i0, by omega, by omega, by first | rfl | go_num, HS⟩
                case round =>
                  obtain ⟨i, hi3, hi4, rfl, HS2⟩ := hrel
                  clear HS
                  have hi5 : a + 1 ≤ i := by omega
                  by_cases hij : i ≤ j
                  · have hijz : (i : Int) ≤ (j : Int) := by omega
                    have hijg : decide ((i : Int) ≤ (j : Int)) = true := by simpa using hijz
                    have hwi0 : IntKind.i64.wrap ((i : Int) + 1) = ((i + 1 : Nat) : Int) := by rw [IntKind.wrap_i64]; omega
                    have c1 := HS2.out.1.cell i (by omega)
                    have c2 := HS2.out.1.cell a (by omega)
                    have hg := HS2.out.1.lt
                    have d1z : (i : Int) < (n : Int) := by omega
                    have cL := fun W => less_any (f1 i) (f1 a) W
                    by_cases hil : f1 i < f1 a
                    · have hld : decide (f1 i < f1 a) = true := by simpa using hil
                      rw [hld] at cL
                      have HS3 : Hid3 (∀ m, Ro (wr.drewN m) g n f1 ∧ Pp a b f f1 pv (i + 1) (j + 1) ∧ Apart (XB g) w (wr.drewN m)) := ⟨fun m => ⟨HS2.out.1.drewN m, HS2.out.2.1.up hil, HS2.out.2.2.trans (apart_drewN g wr m)⟩⟩
                      go_wp2_with fail
                      go_quiet ((go_at_call 24; exact Calls.quiet_of_same (cL _)))
                      go_wp2
                      go_roundw
                      case rel => exact ⟨i + 1, by omega, by omega, by go_num, ⟨HS3.out _⟩⟩
                      case measure => simp [intOf]; omega
                    · have hld : decide (f1 i < f1 a) = false := by simpa using hil
                      rw [hld] at cL
                      have HS3 : Hid3 (∀ m, Ro (wr.drewN m) g n f1 ∧ Pp a b f f1 pv i (j + 1) ∧ Apart (XB g) w (wr.drewN m)) := ⟨fun m => ⟨HS2.out.1.drewN m, HS2.out.2.1, HS2.out.2.2.trans (apart_drewN g wr m)⟩⟩
                      go_wp2_with fail
                      go_quiet ((go_at_call 24; exact Calls.quiet_of_same (cL _)))
                      have HS5 := Hid3.mk (HS3.out nq)
                      clear HS3 HS2 c1 c2 hg cL hwi0 hld
                      generalize wr.drewN nq = W5 at *
                      go_wp2_with fail
                      go_loopw [11] (fun s7 wr => ∃ (j2 : Nat), i ≤ j2 + 1 ∧ j2 ≤ j ∧ s7 = .int .i64 j2 ∧ Hid3 (Ro wr g n f1 ∧ Pp a b f f1 pv i (j2 + 1) ∧ Apart (XB g) w wr)) (fun s _ => (intOf s).toNat)
                      case atStart => exact ⟨j, by omega, by omega, by first | rfl | go_num, HS5⟩
                      case round =>
                        obtain ⟨j2, hj21, hj22, rfl, HS6⟩ := hrel
                        clear HS5
                        by_cases hij2 : i ≤ j2
                        · have hij2z : (i : Int) ≤ (j2 : Int) := by omega
                          have hij2n : ¬ (j2 : Int) < (i : Int) := by omega
                          have hij2g : decide ((i : Int) ≤ (j2 : Int)) = true := by simpa using hij2z
                          have hij2d : decide (j2 < i) = false := decide_eq_false (by omega)
                          obtain ⟨k, hk1, hk2⟩ : ∃ k, k + 1 ≤ j2 ∧ j2 ≤ k + 1 := ⟨j2 - 1, by omega, by omega⟩
                          have hwk : IntKind.i64.wrap ((j2 : Int) - 1) = (k : Int) := by rw [IntKind.wrap_i64]; omega
                          have c1 := HS6.out.1.cell j2 (by omega)
                          have c2 := HS6.out.1.cell a (by omega)
                          have hg := HS6.out.1.lt
                          have bj2 : j2 < n := by omega
                          have bj2z : (j2 : Int) < (n : Int) := by omega
                          have cL := fun W => less_any (f1 j2) (f1 a) W
                          by_cases hj2l : f1 j2 < f1 a
                          · have hld : decide (f1 j2 < f1 a) = true := by simpa using hj2l
                            rw [hld] at cL
                            clear hld
                            have him : ¬ f1 i < f1 a := by omega
                            have ni1 : i ≠ j2 := fun e => him (by rw [e]; exact hj2l)
                            obtain ⟨ip, hip1, hip2⟩ : ∃ x, x ≤ i + 1 ∧ i + 1 ≤ x := ⟨i + 1, Nat.le_refl _, Nat.le_refl _⟩
                            have ni2 : j2 ≠ i := fun e => ni1 e.symm
                            have bi : i < n := by omega
                            have hwi : IntKind.i64.wrap ((i : Int) + 1) = (ip : Int) := by rw [IntKind.wrap_i64]; omega
                            have biz : (i : Int) < (n : Int) := by omega
                            have HS7 : Hid3 (∀ m, Ro (((wr.drewN m).setCell ⟨g, i, none⟩ (.int .u8 (f1 j2))).setCell ⟨g, j2, none⟩ (.int .u8 (f1 i))).drew g n (swF f1 i j2) ∧ Pp a b f (swF f1 i j2) pv ip (k + 1) ∧ Apart (XB g) w (((wr.drewN m).setCell ⟨g, i, none⟩ (.int .u8 (f1 j2))).setCell ⟨g, j2, none⟩ (.int .u8 (f1 i))).drew) := ⟨fun m => ⟨((HS6.out.1.drewN m).swap i j2 bi bj2).drew, HS6.out.2.1.swap2 hk1 hk2 (by omega) (by omega) (by omega) him hj2l hip1 hip2, ((HS6.out.2.2.trans (apart_drewN g wr m)).trans ((Apart.at (X := XB g) _ g _ _ rfl).trans (Apart.at (X := XB g) _ g _ _ rfl))).drew⟩⟩
                            have c3 := HS6.out.1.cell i bi
                            have t1 := HS6.out.1.thaw i
                            have t2 := HS6.out.1.thaw j2
                            go_wp2_with fail
                            go_quiet ((go_at_call 24; exact Calls.quiet_of_same (cL _)))
                            go_wp2_with fail
                            have d1 : (wr.drewN nq).cell? ⟨g, j2, none⟩ = some (.int .u8 (f1 j2)) := c1
                            have d2 : (wr.drewN nq).cell? ⟨g, i, none⟩ = some (.int .u8 (f1 i)) := c3
                            have e1 : (wr.drewN nq).frozen? ⟨g, i, none⟩ = false := t1
                            have e2 : (wr.drewN nq).frozen? ⟨g, j2, none⟩ = false := t2
                            have hg2 : g < (wr.drewN nq).heap.size := hg
                            have HS8 := Hid3.mk (HS7.out nq)
                            clear HS7 c1 c2 c3 t1 t2 hg cL HS6
                            generalize wr.drewN nq = W6 at *
                            go_region
                            go_wp2
                            go_roundw
                            case rel => exact ⟨ip, k, _, by omega, by omega, by omega, by first | rfl | go_num, by first | rfl | go_num, HS8⟩
                            case measure => simp [intOf]; omega
                          · have hld : decide (f1 j2 < f1 a) = false := by simpa using hj2l
                            rw [hld] at cL
                            have HS7 : Hid3 (∀ m, Ro (wr.drewN m) g n f1 ∧ Pp a b f f1 pv i (k + 1) ∧ Apart (XB g) w (wr.drewN m)) := ⟨fun m => ⟨HS6.out.1.drewN m, HS6.out.2.1.down hk1 hk2 hj2l, HS6.out.2.2.trans (apart_drewN g wr m)⟩⟩
                            go_wp2_with fail
                            go_quiet ((go_at_call 24; exact Calls.quiet_of_same (cL _)))
                            go_wp2
                            go_roundw
                            case rel => exact ⟨k, by omega, by omega, by go_num, ⟨HS7.out _⟩⟩
                            case measure => simp [intOf]; omega
                        · have z1 : ¬ (i : Int) ≤ (j2 : Int) := by omega
                          have z2 : (j2 : Int) < (i : Int) := by omega
                          have z3 : decide ((i : Int) ≤ (j2 : Int)) = false := by simpa using z1
                          have HE : Hid3 (∀ m, ∃ f', Ro (((wr.drewN m).setCell ⟨g, j2, none⟩ (.int .u8 (f1 a))).setCell ⟨g, a, none⟩ (.int .u8 (f1 j2))).drew g n f' ∧ Sh a b f f' ∧ f' j2 = pv ∧ (∀ p, a ≤ p → p < j2 → f' p < pv) ∧ (∀ p, j2 < p → p < b → pv ≤ f' p) ∧ Apart (XB g) w (((wr.drewN m).setCell ⟨g, j2, none⟩ (.int .u8 (f1 a))).setCell ⟨g, a, none⟩ (.int .u8 (f1 j2))).drew) := ⟨fun m => ⟨swF f1 j2 a, ((HS6.out.1.drewN m).swap j2 a (by omega) (by omega)).drew, (HS6.out.2.1.fin (by omega) (by omega) (by omega) (by omega)).1, (HS6.out.2.1.fin (by omega) (by omega) (by omega) (by omega)).2.1, (HS6.out.2.1.fin (by omega) (by omega) (by omega) (by omega)).2.2.1, (HS6.out.2.1.fin (by omega) (by omega) (by omega) (by omega)).2.2.2, ((HS6.out.2.2.trans (apart_drewN g wr m)).trans ((Apart.at (X := XB g) _ g _ _ rfl).trans (Apart.at (X := XB g) _ g _ _ rfl))).drew⟩⟩
                          have c1 := HS6.out.1.cell j2 (by omega)
                          have c2 := HS6.out.1.cell a (by omega)
                          have t1 := HS6.out.1.thaw j2
                          have t2 := HS6.out.1.thaw a
                          have hg := HS6.out.1.lt
                          have y1 : j2 < n := by omega
                          have y2 : a < n := by omega
                          have y1z : (j2 : Int) < (n : Int) := by omega
                          have y2z : (a : Int) < (n : Int) := by omega
                          have y3 : a ≤ j2 := by omega
                          have y4 : j2 < b := by omega
                          go_wp2_with fail
                          go_quiet (fail)
                          go_wp2_with fail
                          have d1 : (wr.drewN nq).cell? ⟨g, j2, none⟩ = some (.int .u8 (f1 j2)) := c1
                          have d2 : (wr.drewN nq).cell? ⟨g, a, none⟩ = some (.int .u8 (f1 a)) := c2
                          have e1 : (wr.drewN nq).frozen? ⟨g, j2, none⟩ = false := t1
                          have e2 : (wr.drewN nq).frozen? ⟨g, a, none⟩ = false := t2
                          have hg2 : g < (wr.drewN nq).heap.size := hg
                          have HE2 := Hid3.mk (HE.out nq)
                          clear HE HS6 c1 c2 t1 t2 hg
                          generalize wr.drewN nq = W6 at *
                          by_cases eja : a = j2
                          · subst eja
                            go_region
                            go_wp2
                            go_ret2
                            exact ⟨a, false, rfl, Nat.le_refl _, y4, HE2.out⟩
                          · have n3 : j2 ≠ a := fun e => eja e.symm
                            go_region
                            go_wp2
                            go_ret2
                            exact ⟨j2, false, rfl, y3, y4, HE2.out⟩
                  · have hijz : ¬ (i : Int) ≤ (j : Int) := by omega
                    have hijg : decide ((i : Int) ≤ (j : Int)) = false := by simpa using hijz
                    have HS3 : Hid3 (∀ m, Ro (wr.drewN m) g n f1 ∧ Pp a b f f1 pv i (j + 1) ∧ Apart (XB g) w (wr.drewN m)) := ⟨fun m => ⟨HS2.out.1.drewN m, HS2.out.2.1, HS2.out.2.2.trans (apart_drewN g wr m)⟩⟩
                    go_wp2_with fail
                    go_quiet (fail)
                    have HS5 := Hid3.mk (HS3.out nq)
                    clear HS3 HS2
                    generalize wr.drewN nq = W5 at *
                    go_wp2_with fail
                    go_loopw [11] (fun s7 wr => ∃ (j2 : Nat), i ≤ j2 + 1 ∧ j2 ≤ j ∧ s7 = .int .i64 j2 ∧ Hid3 (Ro wr g n f1 ∧ Pp a b f f1 pv i (j2 + 1) ∧ Apart (XB g) w wr)) (fun s _ => (intOf s).toNat)
                    case atStart => exact ⟨j, by omega, by omega, by first | rfl | go_num, HS5⟩
                    case round =>
                      obtain ⟨j2, hj21, hj22, rfl, HS6⟩ := hrel
                      clear HS5
                      by_cases hij2 : i ≤ j2
                      · have hij2z : (i : Int) ≤ (j2 : Int) := by omega
                        have hij2n : ¬ (j2 : Int) < (i : Int) := by omega
                        have hij2g : decide ((i : Int) ≤ (j2 : Int)) = true := by simpa using hij2z
                        have hij2d : decide (j2 < i) = false := decide_eq_false (by omega)
                        obtain ⟨k, hk1, hk2⟩ : ∃ k, k + 1 ≤ j2 ∧ j2 ≤ k + 1 := ⟨j2 - 1, by omega, by omega⟩
                        have hwk : IntKind.i64.wrap ((j2 : Int) - 1) = (k : Int) := by rw [IntKind.wrap_i64]; omega
                        have c1 := HS6.out.1.cell j2 (by omega)
                        have c2 := HS6.out.1.cell a (by omega)
                        have hg := HS6.out.1.lt
                        have bj2 : j2 < n := by omega
                        have bj2z : (j2 : Int) < (n : Int) := by omega
                        have cL := fun W => less_any (f1 j2) (f1 a) W
                        by_cases hj2l : f1 j2 < f1 a
                        · have hld : decide (f1 j2 < f1 a) = true := by simpa using hj2l
                          rw [hld] at cL
                          clear hld
                          omega
                        · have hld : decide (f1 j2 < f1 a) = false := by simpa using hj2l
                          rw [hld] at cL
                          have HS7 : Hid3 (∀ m, Ro (wr.drewN m) g n f1 ∧ Pp a b f f1 pv i (k + 1) ∧ Apart (XB g) w (wr.drewN m)) := ⟨fun m => ⟨HS6.out.1.drewN m, HS6.out.2.1.down hk1 hk2 hj2l, HS6.out.2.2.trans (apart_drewN g wr m)⟩⟩
                          go_wp2_with fail
                          go_quiet ((go_at_call 24; exact Calls.quiet_of_same (cL _)))
                          go_wp2
                          go_roundw
                          case rel => exact ⟨k, by omega, by omega, by go_num, ⟨HS7.out _⟩⟩
                          case measure => simp [intOf]; omega
                      · have z1 : ¬ (i : Int) ≤ (j2 : Int) := by omega
                        have z2 : (j2 : Int) < (i : Int) := by omega
                        have z3 : decide ((i : Int) ≤ (j2 : Int)) = false := by simpa using z1
                        have HE : Hid3 (∀ m, ∃ f', Ro (((wr.drewN m).setCell ⟨g, j2, none⟩ (.int .u8 (f1 a))).setCell ⟨g, a, none⟩ (.int .u8 (f1 j2))).drew g n f' ∧ Sh a b f f' ∧ f' j2 = pv ∧ (∀ p, a ≤ p → p < j2 → f' p < pv) ∧ (∀ p, j2 < p → p < b → pv ≤ f' p) ∧ Apart (XB g) w (((wr.drewN m).setCell ⟨g, j2, none⟩ (.int .u8 (f1 a))).setCell ⟨g, a, none⟩ (.int .u8 (f1 j2))).drew) := ⟨fun m => ⟨swF f1 j2 a, ((HS6.out.1.drewN m).swap j2 a (by omega) (by omega)).drew, (HS6.out.2.1.fin (by omega) (by omega) (by omega) (by omega)).1, (HS6.out.2.1.fin (by omega) (by omega) (by omega) (by omega)).2.1, (HS6.out.2.1.fin (by omega) (by omega) (by omega) (by omega)).2.2.1, (HS6.out.2.1.fin (by omega) (by omega) (by omega) (by omega)).2.2.2, ((HS6.out.2.2.trans (apart_drewN g wr m)).trans ((Apart.at (X := XB g) _ g _ _ rfl).trans (Apart.at (X := XB g) _ g _ _ rfl))).drew⟩⟩
                        have c1 := HS6.out.1.cell j2 (by omega)
                        have c2 := HS6.out.1.cell a (by omega)
                        have t1 := HS6.out.1.thaw j2
                        have t2 := HS6.out.1.thaw a
                        have hg := HS6.out.1.lt
                        have y1 : j2 < n := by omega
                        have y2 : a < n := by omega
                        have y1z : (j2 : Int) < (n : Int) := by omega
                        have y2z : (a : Int) < (n : Int) := by omega
                        have y3 : a ≤ j2 := by omega
                        have y4 : j2 < b := by omega
                        go_wp2_with fail
                        go_quiet (fail)
                        go_wp2_with fail
                        have d1 : (wr.drewN nq).cell? ⟨g, j2, none⟩ = some (.int .u8 (f1 j2)) := c1
                        have d2 : (wr.drewN nq).cell? ⟨g, a, none⟩ = some (.int .u8 (f1 a)) := c2
                        have e1 : (wr.drewN nq).frozen? ⟨g, j2, none⟩ = false := t1
                        have e2 : (wr.drewN nq).frozen? ⟨g, a, none⟩ = false := t2
                        have hg2 : g < (wr.drewN nq).heap.size := hg
                        have HE2 := Hid3.mk (HE.out nq)
                        clear HE HS6 c1 c2 t1 t2 hg
                        generalize wr.drewN nq = W6 at *
                        by_cases eja : a = j2
                        · subst eja
                          go_region
                          go_wp2
                          go_ret2
                          exact ⟨a, false, rfl, Nat.le_refl _, y4, HE2.out⟩
                        · have n3 : j2 ≠ a := fun e => eja e.symm
                          go_region
                          go_wp2
                          go_ret2
                          exact ⟨j2, false, rfl, y3, y4, HE2.out⟩

            · have hld : decide (f0 jx < f0 a) = false := by simpa using hjxl
              rw [hld] at cL
              have HS7 : Hid3 (∀ m, Ro (wr.drewN m) g n f0 ∧ Pp a b f f0 pv ix (kx + 1) ∧ Apart (XB g) w (wr.drewN m)) := ⟨fun m => ⟨HS6.out.1.drewN m, HS6.out.2.1.down hkx1 hkx2 hjxl, HS6.out.2.2.trans (apart_drewN g wr m)⟩⟩
              go_wp2_with fail
              go_quiet ((go_at_call 24; exact Calls.quiet_of_same (cL _)))
              go_wp2
              go_roundw
              case rel => exact ⟨kx, by omega, by omega, by go_num, ⟨HS7.out _⟩⟩
              case measure => simp [intOf]; omega
          · have z1 : ¬ (ix : Int) ≤ (jx : Int) := by omega
            have z2 : (jx : Int) < (ix : Int) := by omega
            have z3 : decide ((ix : Int) ≤ (jx : Int)) = false := by simpa using z1
            have HE : Hid3 (∀ m, ∃ f', Ro (((wr.drewN m).setCell ⟨g, jx, none⟩ (.int .u8 (f0 a))).setCell ⟨g, a, none⟩ (.int .u8 (f0 jx))).drew g n f' ∧ Sh a b f f' ∧ f' jx = pv ∧ (∀ p, a ≤ p → p < jx → f' p < pv) ∧ (∀ p, jx < p → p < b → pv ≤ f' p) ∧ Apart (XB g) w (((wr.drewN m).setCell ⟨g, jx, none⟩ (.int .u8 (f0 a))).setCell ⟨g, a, none⟩ (.int .u8 (f0 jx))).drew) := ⟨fun m => ⟨swF f0 jx a, ((HS6.out.1.drewN m).swap jx a (by omega) (by omega)).drew, (HS6.out.2.1.fin (by omega) (by omega) (by omega) (by omega)).1, (HS6.out.2.1.fin (by omega) (by omega) (by omega) (by omega)).2.1, (HS6.out.2.1.fin (by omega) (by omega) (by omega) (by omega)).2.2.1, (HS6.out.2.1.fin (by omega) (by omega) (by omega) (by omega)).2.2.2, ((HS6.out.2.2.trans (apart_drewN g wr m)).trans ((Apart.at (X := XB g) _ g _ _ rfl).trans (Apart.at (X := XB g) _ g _ _ rfl))).drew⟩⟩
            have c1 := HS6.out.1.cell jx (by omega)
            have c2 := HS6.out.1.cell a (by omega)
            have t1 := HS6.out.1.thaw jx
            have t2 := HS6.out.1.thaw a
            have hg := HS6.out.1.lt
            have y1 : jx < n := by omega
            have y2 : a < n := by omega
            have y1z : (jx : Int) < (n : Int) := by omega
            have y2z : (a : Int) < (n : Int) := by omega
            have y3 : a ≤ jx := by omega
            have y4 : jx < b := by omega
            go_wp2_with fail
            go_quiet (fail)
            go_wp2_with fail
            have d1 : (wr.drewN nq).cell? ⟨g, jx, none⟩ = some (.int .u8 (f0 jx)) := c1
            have d2 : (wr.drewN nq).cell? ⟨g, a, none⟩ = some (.int .u8 (f0 a)) := c2
            have e1 : (wr.drewN nq).frozen? ⟨g, jx, none⟩ = false := t1
            have e2 : (wr.drewN nq).frozen? ⟨g, a, none⟩ = false := t2
            have hg2 : g < (wr.drewN nq).heap.size := hg
            have HE2 := Hid3.mk (HE.out nq)
            clear HE HS6 c1 c2 t1 t2 hg
            generalize wr.drewN nq = W6 at *
            by_cases eja : a = jx
            · subst eja
              go_region
              go_wp2
              go_ret2
              exact ⟨a, true, rfl, Nat.le_refl _, y4, HE2.out⟩
            · have n3 : jx ≠ a := fun e => eja e.symm
              go_region
              go_wp2
              go_ret2
              exact ⟨jx, true, rfl, y3, y4, HE2.out⟩
    · have hixj0z : ¬ (ix : Int) ≤ (j0 : Int) := by omega
      have hixj0g : decide ((ix : Int) ≤ (j0 : Int)) = false := by simpa using hixj0z
      have HS3 : Hid3 (∀ m, Ro (wr.drewN m) g n f0 ∧ Pp a b f f0 pv ix (j0 + 1) ∧ Apart (XB g) w (wr.drewN m)) := ⟨fun m => ⟨HS2.out.1.drewN m, HS2.out.2.1, HS2.out.2.2.trans (apart_drewN g wr m)⟩⟩
      go_wp2_with fail
      go_quiet (fail)
      have HS5 := Hid3.mk (HS3.out nq)
      clear HS3 HS2
      generalize wr.drewN nq = W5 at *
      go_wp2_with fail
      go_loopw [11] (fun s7 wr => ∃ (jx : Nat), ix ≤ jx + 1 ∧ jx ≤ j0 ∧ s7 = .int .i64 jx ∧ Hid3 (Ro wr g n f0 ∧ Pp a b f f0 pv ix (jx + 1) ∧ Apart (XB g) w wr)) (fun s _ => (intOf s).toNat)
      case atStart => exact ⟨j0, by omega, by omega, by first | rfl | go_num, HS5⟩
      case round =>
        obtain ⟨jx, hjx1, hjx2, rfl, HS6⟩ := hrel
        clear HS5
        by_cases hixjx : ix ≤ jx
        · have hixjxz : (ix : Int) ≤ (jx : Int) := by omega
          have hixjxn : ¬ (jx : Int) < (ix : Int) := by omega
          have hixjxg : decide ((ix : Int) ≤ (jx : Int)) = true := by simpa using hixjxz
          have hixjxd : decide (jx < ix) = false := decide_eq_false (by omega)
          obtain ⟨kx, hkx1, hkx2⟩ : ∃ kx, kx + 1 ≤ jx ∧ jx ≤ kx + 1 := ⟨jx - 1, by omega, by omega⟩
          have hwkx : IntKind.i64.wrap ((jx : Int) - 1) = (kx : Int) := by rw [IntKind.wrap_i64]; omega
          have c1 := HS6.out.1.cell jx (by omega)
          have c2 := HS6.out.1.cell a (by omega)
          have hg := HS6.out.1.lt
          have bjx : jx < n := by omega
          have bjxz : (jx : Int) < (n : Int) := by omega
          have cL := fun W => less_any (f0 jx) (f0 a) W
          by_cases hjxl : f0 jx < f0 a
          · have hld : decide (f0 jx < f0 a) = true := by simpa using hjxl
            rw [hld] at cL
            clear hld
            omega
          · have hld : decide (f0 jx < f0 a) = false := by simpa using hjxl
            rw [hld] at cL
            have HS7 : Hid3 (∀ m, Ro (wr.drewN m) g n f0 ∧ Pp a b f f0 pv ix (kx + 1) ∧ Apart (XB g) w (wr.drewN m)) := ⟨fun m => ⟨HS6.out.1.drewN m, HS6.out.2.1.down hkx1 hkx2 hjxl, HS6.out.2.2.trans (apart_drewN g wr m)⟩⟩
            go_wp2_with fail
            go_quiet ((go_at_call 24; exact Calls.quiet_of_same (cL _)))
            go_wp2
            go_roundw
            case rel => exact ⟨kx, by omega, by omega, by go_num, ⟨HS7.out _⟩⟩
            case measure => simp [intOf]; omega
        · have z1 : ¬ (ix : Int) ≤ (jx : Int) := by omega
          have z2 : (jx : Int) < (ix : Int) := by omega
          have z3 : decide ((ix : Int) ≤ (jx : Int)) = false := by simpa using z1
          have HE : Hid3 (∀ m, ∃ f', Ro (((wr.drewN m).setCell ⟨g, jx, none⟩ (.int .u8 (f0 a))).setCell ⟨g, a, none⟩ (.int .u8 (f0 jx))).drew g n f' ∧ Sh a b f f' ∧ f' jx = pv ∧ (∀ p, a ≤ p → p < jx → f' p < pv) ∧ (∀ p, jx < p → p < b → pv ≤ f' p) ∧ Apart (XB g) w (((wr.drewN m).setCell ⟨g, jx, none⟩ (.int .u8 (f0 a))).setCell ⟨g, a, none⟩ (.int .u8 (f0 jx))).drew) := ⟨fun m => ⟨swF f0 jx a, ((HS6.out.1.drewN m).swap jx a (by omega) (by omega)).drew, (HS6.out.2.1.fin (by omega) (by omega) (by omega) (by omega)).1, (HS6.out.2.1.fin (by omega) (by omega) (by omega) (by omega)).2.1, (HS6.out.2.1.fin (by omega) (by omega) (by omega) (by omega)).2.2.1, (HS6.out.2.1.fin (by omega) (by omega) (by omega) (by omega)).2.2.2, ((HS6.out.2.2.trans (apart_drewN g wr m)).trans ((Apart.at (X := XB g) _ g _ _ rfl).trans (Apart.at (X := XB g) _ g _ _ rfl))).drew⟩⟩
          have c1 := HS6.out.1.cell jx (by omega)
          have c2 := HS6.out.1.cell a (by omega)
          have t1 := HS6.out.1.thaw jx
          have t2 := HS6.out.1.thaw a
          have hg := HS6.out.1.lt
          have y1 : jx < n := by omega
          have y2 : a < n := by omega
          have y1z : (jx : Int) < (n : Int) := by omega
          have y2z : (a : Int) < (n : Int) := by omega
          have y3 : a ≤ jx := by omega
          have y4 : jx < b := by omega
          go_wp2_with fail
          go_quiet (fail)
          go_wp2_with fail
          have d1 : (wr.drewN nq).cell? ⟨g, jx, none⟩ = some (.int .u8 (f0 jx)) := c1
          have d2 : (wr.drewN nq).cell? ⟨g, a, none⟩ = some (.int .u8 (f0 a)) := c2
          have e1 : (wr.drewN nq).frozen? ⟨g, jx, none⟩ = false := t1
          have e2 : (wr.drewN nq).frozen? ⟨g, a, none⟩ = false := t2
          have hg2 : g < (wr.drewN nq).heap.size := hg
          have HE2 := Hid3.mk (HE.out nq)
          clear HE HS6 c1 c2 t1 t2 hg
          generalize wr.drewN nq = W6 at *
          by_cases eja : a = jx
          · subst eja
            go_region
            go_wp2
            go_ret2
            exact ⟨a, true, rfl, Nat.le_refl _, y4, HE2.out⟩
          · have n3 : jx ≠ a := fun e => eja e.symm
            go_region
            go_wp2
            go_ret2
            exact ⟨jx, true, rfl, y3, y4, HE2.out⟩
end Go.Proofs.Ytknmbecabgencaa
