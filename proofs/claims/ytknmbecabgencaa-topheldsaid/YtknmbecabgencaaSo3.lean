/- The library's sort at uint8: siftDown. -/
import Derived.Test.YtknmbecabgencaaSo2
namespace Go.Proofs.Ytknmbecabgencaa
open Go.RowKit Go.Maps
set_option linter.unusedVariables false
set_option maxRecDepth 100000
/-- A heap from lo on, laid from first on. -/
def Hp (first lo hi : Nat) (f : Nat → Int) : Prop := ∀ i c, lo ≤ i → (c = 2 * i + 1 ∨ c = 2 * i + 2) → c < hi → f (first + c) ≤ f (first + i)
/-- .. but at r. -/
structure Hq (first lo hi r : Nat) (f : Nat → Int) : Prop where
  a : ∀ i c, lo ≤ i → (c = 2 * i + 1 ∨ c = 2 * i + 2) → c < hi → i ≠ r → f (first + c) ≤ f (first + i)
  b : ∀ p c, lo ≤ p → (r = 2 * p + 1 ∨ r = 2 * p + 2) → (c = 2 * r + 1 ∨ c = 2 * r + 2) → c < hi → f (first + c) ≤ f (first + p)
theorem Hp.start {first lo hi : Nat} {f : Nat → Int} (h : Hp first (lo + 1) hi f) : Hq first lo hi lo f := ⟨fun i c h1 h2 h3 h4 => h i c (by omega) h2 h3, fun p c h1 h2 h3 h4 => by omega⟩
theorem Hq.end0 {first lo hi r : Nat} {f : Nat → Int} (h : Hq first lo hi r f) (hr : hi ≤ 2 * r + 1) : Hp first lo hi f := fun i c h1 h2 h3 => h.a i c h1 h2 h3 (by omega)
theorem Hq.end1 {first lo hi r ch : Nat} {f : Nat → Int} (h : Hq first lo hi r f) (hb : ∀ c, (c = 2 * r + 1 ∨ c = 2 * r + 2) → c < hi → f (first + c) ≤ f (first + ch)) (hl : ¬ f (first + r) < f (first + ch)) : Hp first lo hi f := fun i c h1 h2 h3 => by
  by_cases e : i = r
  · subst e
    have := hb c h2 h3
    omega
  · exact h.a i c h1 h2 h3 e
theorem Hq.step {first lo hi r ch : Nat} {f : Nat → Int} (h : Hq first lo hi r f) (hlo : lo ≤ r) (hc : ch = 2 * r + 1 ∨ ch = 2 * r + 2) (hch : ch < hi) (hb : ∀ c, (c = 2 * r + 1 ∨ c = 2 * r + 2) → c < hi → f (first + c) ≤ f (first + ch)) (hl : f (first + r) < f (first + ch)) : Hq first lo hi ch (swF f (first + r) (first + ch)) := by
  refine ⟨fun i c h1 h2 h3 h4 => ?_, fun p c h1 h2 h3 h4 => ?_⟩
  · unfold swF
    by_cases ei : i = r
    · subst ei
      rw [if_pos (show first + i = first + i from rfl), if_neg (by omega)]
      by_cases ec : c = ch
      · subst ec
        rw [if_pos rfl]
        omega
      · rw [if_neg (by omega)]
        exact hb c h2 h3
    · rw [if_neg (show ¬ first + i = first + r by omega), if_neg (show ¬ first + i = first + ch by omega)]
      by_cases ec : c = r
      · subst ec
        rw [if_pos rfl]
        exact h.b i ch h1 h2 hc hch
      · rw [if_neg (by omega), if_neg (by omega)]
        exact h.a i c h1 h2 h3 ei
  · have ep : p = r := by omega
    subst ep
    unfold swF
    rw [if_pos (show first + p = first + p from rfl), if_neg (by omega), if_neg (by omega)]
    exact h.a ch c (by omega) h3 h4 (by omega)
set_option maxHeartbeats 4000000 in
theorem sift_any (g n cap lo hi first : Nat) (f : Nat → Int) (w : World) (h : Ro w g n f) (hh : Hp first (lo + 1) hi f) (hb : first + hi ≤ n) (hn : n ≤ 64) (hlh : lo ≤ 64) : Calls Try.prog 29 #[.slice (some ⟨g, 0, none⟩) n cap, .int .i64 lo, .int .i64 hi, .int .i64 first] w fun r w' => r = .returned (.tuple #[]) ∧ ∃ f', Ro w' g n f' ∧ Sh (first + lo) (first + hi) f f' ∧ Hp first lo hi f' ∧ Apart (XB g) w w' := by
  have H0 := Hid3.mk h
  have HH := Hid3.mk hh
  clear h hh
  go_enter Try.func29, Try.ntmps29
  go_wp2_with fail
  go_loopw [8] (fun s8 wr => ∃ (r : Nat) (f2 : Nat → Int), lo ≤ r ∧ (r < hi ∨ r = lo) ∧ s8 = .int .i64 r ∧ Hid3 (Ro wr g n f2 ∧ Sh (first + lo) (first + hi) f f2 ∧ Hq first lo hi r f2 ∧ Apart (XB g) w wr)) (fun s _ => 65 - (intOf s).toNat)
  case atStart => exact ⟨lo, f, by omega, .inr rfl, rfl, ⟨H0.out, Sh.refl _ _ _, HH.out.start, Apart.refl _ _⟩⟩
  case round =>
    obtain ⟨r, f2, hr1, hr2, rfl, HS2⟩ := hrel
    obtain ⟨d, hd1, hd2⟩ : ∃ d, d ≤ 2 * r ∧ 2 * r ≤ d := ⟨2 * r, by omega, by omega⟩
    obtain ⟨c, hc1, hc2⟩ : ∃ c, c ≤ d + 1 ∧ d + 1 ≤ c := ⟨d + 1, by omega, by omega⟩
    have hwd : IntKind.i64.wrap (2 * (r : Int)) = (d : Int) := by rw [IntKind.wrap_i64]; omega
    have hwc : IntKind.i64.wrap ((d : Int) + 1) = (c : Int) := by rw [IntKind.wrap_i64]; omega
    by_cases hch : c < hi
    · have hchz : (c : Int) < (hi : Int) := by omega
      have hnot : ¬ (hi : Int) ≤ (c : Int) := by omega
      obtain ⟨e, he1, he2⟩ : ∃ e, e ≤ c + 1 ∧ c + 1 ≤ e := ⟨c + 1, by omega, by omega⟩
      obtain ⟨x, hx⟩ : ∃ x, first + r = x := ⟨_, rfl⟩
      obtain ⟨y, hy⟩ : ∃ y, first + c = y := ⟨_, rfl⟩
      obtain ⟨z, hz⟩ : ∃ z, first + e = z := ⟨_, rfl⟩
      have hwe : IntKind.i64.wrap ((c : Int) + 1) = (e : Int) := by rw [IntKind.wrap_i64]; omega
      have hwx : IntKind.i64.wrap ((first : Int) + (r : Int)) = (x : Int) := by rw [IntKind.wrap_i64]; omega
      have hwy : IntKind.i64.wrap ((first : Int) + (c : Int)) = (y : Int) := by rw [IntKind.wrap_i64]; omega
      have hwz : IntKind.i64.wrap ((first : Int) + (e : Int)) = (z : Int) := by rw [IntKind.wrap_i64]; omega
      have hwz2 : IntKind.i64.wrap ((y : Int) + 1) = (z : Int) := by rw [IntKind.wrap_i64]; omega
      have HX : Hid3 (first + r = x ∧ True ∧ first + c = y ∧ first + e = z) := ⟨hx, trivial, hy, hz⟩
      have hx1 : x ≤ first + r ∧ first + r ≤ x := by omega
      have hy1 : y ≤ first + c ∧ first + c ≤ y := by omega
      have hz1 : z ≤ first + e ∧ first + e ≤ z := by omega
      clear hx hy hz
      have c1 := HS2.out.1.cell x (by omega)
      have c2 := HS2.out.1.cell y (by omega)
      have C3 : Hid3 (z < n → wr.cell? ⟨g, z, none⟩ = some (.int .u8 (f2 z))) := ⟨fun hz => HS2.out.1.cell z hz⟩
      have t1 := HS2.out.1.thaw
      have hg := HS2.out.1.lt
      have b1z : (x : Int) < (n : Int) := by omega
      have b2z : (y : Int) < (n : Int) := by omega
      have b1 : x < n := by omega
      have b2 : y < n := by omega
      by_cases hce : e < hi
      · have hcez : (e : Int) < (hi : Int) := by omega
        have hgd : decide ((e : Int) < (hi : Int)) = true := by simpa using hcez
        have b3 : z < n := by omega
        have b3z : (z : Int) < (n : Int) := by omega
        have c3 := C3.out b3
        have cL := fun W => less_any (f2 y) (f2 z) W
        by_cases hl1 : f2 y < f2 z
        · have hld1 : decide (f2 y < f2 z) = true := by simpa using hl1
          rw [hld1] at cL
          have cR := fun W => less_any (f2 x) (f2 z) W
          have HB : Hid3 (∀ c', (c' = 2 * r + 1 ∨ c' = 2 * r + 2) → c' < hi → f2 (first + c') ≤ f2 (first + e)) := ⟨fun c' h1 h2 => by
            rw [HX.out.2.2.2]
            rcases h1 with h1 | h1
            · rw [show first + c' = y by omega]; omega
            · rw [show first + c' = z by omega]; exact Int.le_refl _⟩
          by_cases hl : f2 x < f2 z
          · have hld : decide (f2 x < f2 z) = true := by simpa using hl
            rw [hld] at cR
            have HS3 : Hid3 (∀ l m, Ro ((((wr.drewN l).drewN m).setCell ⟨g, x, none⟩ (.int .u8 (f2 z))).setCell ⟨g, z, none⟩ (.int .u8 (f2 x))).drew g n (swF f2 x z) ∧ Sh (first + lo) (first + hi) f (swF f2 x z) ∧ Hq first lo hi e (swF f2 x z) ∧ Apart (XB g) w ((((wr.drewN l).drewN m).setCell ⟨g, x, none⟩ (.int .u8 (f2 z))).setCell ⟨g, z, none⟩ (.int .u8 (f2 x))).drew) := ⟨fun l m => ⟨(((HS2.out.1.drewN l).drewN m).swap x z (by omega) (by omega)).drew, HS2.out.2.1.trans (Sh.swap _ _ f2 x z (by omega) (by omega) (by omega) (by omega)), by
              have hh := HS2.out.2.2.1.step (ch := e) hr1 (by omega) (by omega) HB.out (by rw [HX.out.1, HX.out.2.2.2]; exact hl)
              rw [HX.out.1, HX.out.2.2.2] at hh
              exact hh, (((HS2.out.2.2.2.trans (apart_drewN g wr l)).trans (apart_drewN g _ m)).trans ((Apart.at (X := XB g) _ g _ _ rfl).trans (Apart.at (X := XB g) _ g _ _ rfl))).drew⟩⟩
            go_wp2_with fail
            go_quiet ((go_at_call 24; exact Calls.quiet_of_same (cL _)))
            go_wp2_with fail
            have HS3 := Hid3.mk (HS3.out nq)
            have k1 : (wr.drewN nq).cell? ⟨g, x, none⟩ = some (.int .u8 (f2 x)) := c1
            have k2 : (wr.drewN nq).cell? ⟨g, z, none⟩ = some (.int .u8 (f2 z)) := c3
            have kt : ∀ i, (wr.drewN nq).frozen? ⟨g, i, none⟩ = false := t1
            have kg : g < (wr.drewN nq).heap.size := hg
            clear c1 c2 C3 c3 t1 hg HS2 cL
            generalize wr.drewN nq = W5 at *
            go_quiet ((go_at_call 24; exact Calls.quiet_of_same (cR _)))
            go_wp2_with fail
            have HS4 := Hid3.mk (HS3.out nq)
            have d1 : (W5.drewN nq).cell? ⟨g, x, none⟩ = some (.int .u8 (f2 x)) := k1
            have d2 : (W5.drewN nq).cell? ⟨g, z, none⟩ = some (.int .u8 (f2 z)) := k2
            have e1 : (W5.drewN nq).frozen? ⟨g, x, none⟩ = false := kt x
            have e2 : (W5.drewN nq).frozen? ⟨g, z, none⟩ = false := kt z
            have hg2 : g < (W5.drewN nq).heap.size := kg
            have hne1 : x ≠ z := by omega
            have hne2 : z ≠ x := by omega
            clear HS3 k1 k2 kt kg cR
            generalize W5.drewN nq = W6 at *
            go_region
            go_wp2
            go_roundw
            case rel => exact ⟨e, swF f2 x z, by omega, by omega, by go_num, HS4⟩
            case measure => simp [intOf]; omega
          · have hld : decide (f2 x < f2 z) = false := by simpa using hl
            rw [hld] at cR
            have HS3 : Hid3 (∀ l m, Ro ((wr.drewN l).drewN m) g n f2 ∧ Sh (first + lo) (first + hi) f f2 ∧ Hp first lo hi f2 ∧ Apart (XB g) w ((wr.drewN l).drewN m)) := ⟨fun l m => ⟨(HS2.out.1.drewN l).drewN m, HS2.out.2.1, HS2.out.2.2.1.end1 HB.out (by rw [HX.out.1, HX.out.2.2.2]; exact hl), (HS2.out.2.2.2.trans (apart_drewN g wr l)).trans (apart_drewN g _ m)⟩⟩
            go_wp2_with fail
            go_quiet ((go_at_call 24; exact Calls.quiet_of_same (cL _)))
            go_wp2_with fail
            have HS3 := Hid3.mk (HS3.out nq)
            have k1 : (wr.drewN nq).cell? ⟨g, x, none⟩ = some (.int .u8 (f2 x)) := c1
            have k2 : (wr.drewN nq).cell? ⟨g, z, none⟩ = some (.int .u8 (f2 z)) := c3
            have kt : ∀ i, (wr.drewN nq).frozen? ⟨g, i, none⟩ = false := t1
            have kg : g < (wr.drewN nq).heap.size := hg
            clear c1 c2 C3 c3 t1 hg HS2 cL
            generalize wr.drewN nq = W5 at *
            go_quiet ((go_at_call 24; exact Calls.quiet_of_same (cR _)))
            go_wp2
            refine bodyPost_ret (v := .tuple #[]) (by simp [results, Try.results29, go_sem]) rfl ⟨rfl, f2, HS3.out _⟩
        · have hld1 : decide (f2 y < f2 z) = false := by simpa using hl1
          rw [hld1] at cL
          have cR := fun W => less_any (f2 x) (f2 y) W
          have HB : Hid3 (∀ c', (c' = 2 * r + 1 ∨ c' = 2 * r + 2) → c' < hi → f2 (first + c') ≤ f2 (first + c)) := ⟨fun c' h1 h2 => by
            rw [HX.out.2.2.1]
            rcases h1 with h1 | h1
            · rw [show first + c' = y by omega]; exact Int.le_refl _
            · rw [show first + c' = z by omega]; omega⟩
          by_cases hl : f2 x < f2 y
          · have hld : decide (f2 x < f2 y) = true := by simpa using hl
            rw [hld] at cR
            have HS3 : Hid3 (∀ l m, Ro ((((wr.drewN l).drewN m).setCell ⟨g, x, none⟩ (.int .u8 (f2 y))).setCell ⟨g, y, none⟩ (.int .u8 (f2 x))).drew g n (swF f2 x y) ∧ Sh (first + lo) (first + hi) f (swF f2 x y) ∧ Hq first lo hi c (swF f2 x y) ∧ Apart (XB g) w ((((wr.drewN l).drewN m).setCell ⟨g, x, none⟩ (.int .u8 (f2 y))).setCell ⟨g, y, none⟩ (.int .u8 (f2 x))).drew) := ⟨fun l m => ⟨(((HS2.out.1.drewN l).drewN m).swap x y (by omega) (by omega)).drew, HS2.out.2.1.trans (Sh.swap _ _ f2 x y (by omega) (by omega) (by omega) (by omega)), by
              have hh := HS2.out.2.2.1.step (ch := c) hr1 (by omega) (by omega) HB.out (by rw [HX.out.1, HX.out.2.2.1]; exact hl)
              rw [HX.out.1, HX.out.2.2.1] at hh
              exact hh, (((HS2.out.2.2.2.trans (apart_drewN g wr l)).trans (apart_drewN g _ m)).trans ((Apart.at (X := XB g) _ g _ _ rfl).trans (Apart.at (X := XB g) _ g _ _ rfl))).drew⟩⟩
            go_wp2_with fail
            go_quiet ((go_at_call 24; exact Calls.quiet_of_same (cL _)))
            go_wp2_with fail
            have HS3 := Hid3.mk (HS3.out nq)
            have k1 : (wr.drewN nq).cell? ⟨g, x, none⟩ = some (.int .u8 (f2 x)) := c1
            have k2 : (wr.drewN nq).cell? ⟨g, y, none⟩ = some (.int .u8 (f2 y)) := c2
            have kt : ∀ i, (wr.drewN nq).frozen? ⟨g, i, none⟩ = false := t1
            have kg : g < (wr.drewN nq).heap.size := hg
            clear c1 c2 C3 c3 t1 hg HS2 cL
            generalize wr.drewN nq = W5 at *
            go_quiet ((go_at_call 24; exact Calls.quiet_of_same (cR _)))
            go_wp2_with fail
            have HS4 := Hid3.mk (HS3.out nq)
            have d1 : (W5.drewN nq).cell? ⟨g, x, none⟩ = some (.int .u8 (f2 x)) := k1
            have d2 : (W5.drewN nq).cell? ⟨g, y, none⟩ = some (.int .u8 (f2 y)) := k2
            have e1 : (W5.drewN nq).frozen? ⟨g, x, none⟩ = false := kt x
            have e2 : (W5.drewN nq).frozen? ⟨g, y, none⟩ = false := kt y
            have hg2 : g < (W5.drewN nq).heap.size := kg
            have hne1 : x ≠ y := by omega
            have hne2 : y ≠ x := by omega
            clear HS3 k1 k2 kt kg cR
            generalize W5.drewN nq = W6 at *
            go_region
            go_wp2
            go_roundw
            case rel => exact ⟨c, swF f2 x y, by omega, by omega, by go_num, HS4⟩
            case measure => simp [intOf]; omega
          · have hld : decide (f2 x < f2 y) = false := by simpa using hl
            rw [hld] at cR
            have HS3 : Hid3 (∀ l m, Ro ((wr.drewN l).drewN m) g n f2 ∧ Sh (first + lo) (first + hi) f f2 ∧ Hp first lo hi f2 ∧ Apart (XB g) w ((wr.drewN l).drewN m)) := ⟨fun l m => ⟨(HS2.out.1.drewN l).drewN m, HS2.out.2.1, HS2.out.2.2.1.end1 HB.out (by rw [HX.out.1, HX.out.2.2.1]; exact hl), (HS2.out.2.2.2.trans (apart_drewN g wr l)).trans (apart_drewN g _ m)⟩⟩
            go_wp2_with fail
            go_quiet ((go_at_call 24; exact Calls.quiet_of_same (cL _)))
            go_wp2_with fail
            have HS3 := Hid3.mk (HS3.out nq)
            have k1 : (wr.drewN nq).cell? ⟨g, x, none⟩ = some (.int .u8 (f2 x)) := c1
            have k2 : (wr.drewN nq).cell? ⟨g, y, none⟩ = some (.int .u8 (f2 y)) := c2
            have kt : ∀ i, (wr.drewN nq).frozen? ⟨g, i, none⟩ = false := t1
            have kg : g < (wr.drewN nq).heap.size := hg
            clear c1 c2 C3 c3 t1 hg HS2 cL
            generalize wr.drewN nq = W5 at *
            go_quiet ((go_at_call 24; exact Calls.quiet_of_same (cR _)))
            go_wp2
            refine bodyPost_ret (v := .tuple #[]) (by simp [results, Try.results29, go_sem]) rfl ⟨rfl, f2, HS3.out _⟩
      · have hcez : ¬ (e : Int) < (hi : Int) := by omega
        have hgd : decide ((e : Int) < (hi : Int)) = false := by simpa using hcez
        have cR := fun W => less_any (f2 x) (f2 y) W
        have HB : Hid3 (∀ c', (c' = 2 * r + 1 ∨ c' = 2 * r + 2) → c' < hi → f2 (first + c') ≤ f2 (first + c)) := ⟨fun c' h1 h2 => by
            rw [HX.out.2.2.1]
            rcases h1 with h1 | h1
            · rw [show first + c' = y by omega]; exact Int.le_refl _
            · omega⟩
        by_cases hl : f2 x < f2 y
        · have hld : decide (f2 x < f2 y) = true := by simpa using hl
          rw [hld] at cR
          have HS3 : Hid3 (∀ l m, Ro ((((wr.drewN l).drewN m).setCell ⟨g, x, none⟩ (.int .u8 (f2 y))).setCell ⟨g, y, none⟩ (.int .u8 (f2 x))).drew g n (swF f2 x y) ∧ Sh (first + lo) (first + hi) f (swF f2 x y) ∧ Hq first lo hi c (swF f2 x y) ∧ Apart (XB g) w ((((wr.drewN l).drewN m).setCell ⟨g, x, none⟩ (.int .u8 (f2 y))).setCell ⟨g, y, none⟩ (.int .u8 (f2 x))).drew) := ⟨fun l m => ⟨(((HS2.out.1.drewN l).drewN m).swap x y (by omega) (by omega)).drew, HS2.out.2.1.trans (Sh.swap _ _ f2 x y (by omega) (by omega) (by omega) (by omega)), by
            have hh := HS2.out.2.2.1.step (ch := c) hr1 (by omega) (by omega) HB.out (by rw [HX.out.1, HX.out.2.2.1]; exact hl)
            rw [HX.out.1, HX.out.2.2.1] at hh
            exact hh, (((HS2.out.2.2.2.trans (apart_drewN g wr l)).trans (apart_drewN g _ m)).trans ((Apart.at (X := XB g) _ g _ _ rfl).trans (Apart.at (X := XB g) _ g _ _ rfl))).drew⟩⟩
          go_wp2_with fail
          go_quiet (fail)
          go_wp2_with fail
          have HS3 := Hid3.mk (HS3.out nq)
          have k1 : (wr.drewN nq).cell? ⟨g, x, none⟩ = some (.int .u8 (f2 x)) := c1
          have k2 : (wr.drewN nq).cell? ⟨g, y, none⟩ = some (.int .u8 (f2 y)) := c2
          have kt : ∀ i, (wr.drewN nq).frozen? ⟨g, i, none⟩ = false := t1
          have kg : g < (wr.drewN nq).heap.size := hg
          clear c1 c2 C3 t1 hg HS2
          generalize wr.drewN nq = W5 at *
          go_quiet ((go_at_call 24; exact Calls.quiet_of_same (cR _)))
          go_wp2_with fail
          have HS4 := Hid3.mk (HS3.out nq)
          have d1 : (W5.drewN nq).cell? ⟨g, x, none⟩ = some (.int .u8 (f2 x)) := k1
          have d2 : (W5.drewN nq).cell? ⟨g, y, none⟩ = some (.int .u8 (f2 y)) := k2
          have e1 : (W5.drewN nq).frozen? ⟨g, x, none⟩ = false := kt x
          have e2 : (W5.drewN nq).frozen? ⟨g, y, none⟩ = false := kt y
          have hg2 : g < (W5.drewN nq).heap.size := kg
          have hne1 : x ≠ y := by omega
          have hne2 : y ≠ x := by omega
          clear HS3 k1 k2 kt kg cR
          generalize W5.drewN nq = W6 at *
          go_region
          go_wp2
          go_roundw
          case rel => exact ⟨c, swF f2 x y, by omega, by omega, by go_num, HS4⟩
          case measure => simp [intOf]; omega
        · have hld : decide (f2 x < f2 y) = false := by simpa using hl
          rw [hld] at cR
          have HS3 : Hid3 (∀ l m, Ro ((wr.drewN l).drewN m) g n f2 ∧ Sh (first + lo) (first + hi) f f2 ∧ Hp first lo hi f2 ∧ Apart (XB g) w ((wr.drewN l).drewN m)) := ⟨fun l m => ⟨(HS2.out.1.drewN l).drewN m, HS2.out.2.1, HS2.out.2.2.1.end1 HB.out (by rw [HX.out.1, HX.out.2.2.1]; exact hl), (HS2.out.2.2.2.trans (apart_drewN g wr l)).trans (apart_drewN g _ m)⟩⟩
          go_wp2_with fail
          go_quiet (fail)
          go_wp2_with fail
          have HS3 := Hid3.mk (HS3.out nq)
          have k1 : (wr.drewN nq).cell? ⟨g, x, none⟩ = some (.int .u8 (f2 x)) := c1
          have k2 : (wr.drewN nq).cell? ⟨g, y, none⟩ = some (.int .u8 (f2 y)) := c2
          have kt : ∀ i, (wr.drewN nq).frozen? ⟨g, i, none⟩ = false := t1
          have kg : g < (wr.drewN nq).heap.size := hg
          clear c1 c2 C3 t1 hg HS2
          generalize wr.drewN nq = W5 at *
          go_quiet ((go_at_call 24; exact Calls.quiet_of_same (cR _)))
          go_wp2
          refine bodyPost_ret (v := .tuple #[]) (by simp [results, Try.results29, go_sem]) rfl ⟨rfl, f2, HS3.out _⟩
    · have hchz : (hi : Int) ≤ (c : Int) := by omega
      have HE : Hid3 (Hp first lo hi f2) := ⟨HS2.out.2.2.1.end0 (by omega)⟩
      go_wp2
      go_end0
      exact ⟨rfl, f2, HS2.out.1, HS2.out.2.1, HE.out, HS2.out.2.2.2⟩
end Go.Proofs.Ytknmbecabgencaa
