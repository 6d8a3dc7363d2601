/- The library's sort at uint8: heapSort. -/
import Derived.Test.YtknmbecabgencaaSo3
namespace Go.Proofs.Ytknmbecabgencaa
open Go.RowKit Go.Maps
set_option linter.unusedVariables false
set_option maxRecDepth 100000
theorem Hp.max {first hi : Nat} {f : Nat → Int} (h : Hp first 0 hi f) : ∀ (b p : Nat), p ≤ b → p < hi → f (first + p) ≤ f first
  | b, 0, _, _ => Int.le_refl _
  | 0, p + 1, hb, _ => by omega
  | b + 1, p + 1, hb, hp => by
    have h1 := h (p / 2) (p + 1) (Nat.zero_le _) (by omega) hp
    have h2 := Hp.max h b (p / 2) (by omega) (by omega)
    omega
theorem Sh.mem {a b : Nat} {f f' : Nat → Int} (h : Sh a b f f') (i : Nat) (h1 : a ≤ i) (h2 : i < b) : ∃ j, a ≤ j ∧ j < b ∧ f' i = f j := by
  obtain ⟨⟨s, t, k1, k2⟩, _⟩ := h
  obtain ⟨⟨p1, p2, _⟩, _⟩ := k1 i h1 h2
  exact ⟨s i, p1, p2, k2 i h1 h2⟩
theorem Sh.wide {a b c d : Nat} {f f' : Nat → Int} (h : Sh a b f f') (h1 : c ≤ a) (h2 : b ≤ d) : Sh c d f f' := by
  obtain ⟨⟨s, t, k1, k2⟩, k3⟩ := h
  refine ⟨⟨fun i => if a ≤ i ∧ i < b then s i else i, fun i => if a ≤ i ∧ i < b then t i else i, fun i hi hj => ?_, fun i hi hj => ?_⟩, fun i hi => k3 i (by omega)⟩
  · by_cases e : a ≤ i ∧ i < b
    · obtain ⟨⟨p1, p2, p3⟩, ⟨q1, q2, q3⟩⟩ := k1 i e.1 e.2
      simp only [if_pos e]
      rw [if_pos ⟨p1, p2⟩, if_pos ⟨q1, q2⟩]
      exact ⟨⟨by omega, by omega, p3⟩, ⟨by omega, by omega, q3⟩⟩
    · simp only [if_neg e]
      exact ⟨⟨hi, hj, trivial⟩, ⟨hi, hj, trivial⟩⟩
  · by_cases e : a ≤ i ∧ i < b
    · simp only [if_pos e]
      exact k2 i e.1 e.2
    · simp only [if_neg e]
      exact k3 i (by omega)
/-- The heap's first k, and behind them the greatest, in order. -/
structure Hk (first hi k : Nat) (f : Nat → Int) : Prop where
  h : Hp first 0 k f
  s : Srt (first + k) (first + hi) f
  l : ∀ p q, p < k → k ≤ q → q < hi → f (first + p) ≤ f (first + q)
theorem Hk.mid {first hi m : Nat} {f : Nat → Int} (h : Hk first hi (m + 1) f) : Hp first (0 + 1) m (swF f first (first + m)) := fun i c h1 h2 h3 => by
  unfold swF
  rw [if_neg (by omega), if_neg (by omega), if_neg (by omega), if_neg (by omega)]
  exact h.h i c (by omega) h2 (by omega)
theorem Hk.next {first hi m : Nat} {f f' : Nat → Int} (h : Hk first hi (m + 1) f) (hm : m < hi) (hs : Sh (first + 0) (first + m) (swF f first (first + m)) f') (hh : Hp first 0 m f') : Hk first hi m f' := by
  have out : ∀ q, m ≤ q → f' (first + q) = swF f first (first + m) (first + q) := fun q hq => hs.2 _ (.inr (by omega))
  have top : f' (first + m) = f first := by
    rw [out m (Nat.le_refl _)]
    unfold swF
    by_cases e : m = 0
    · subst e; simp
    · rw [if_neg (by omega), if_pos rfl]
  have rest : ∀ q, m < q → f' (first + q) = f (first + q) := fun q hq => by
    rw [out q (by omega)]
    unfold swF
    rw [if_neg (by omega), if_neg (by omega)]
  have low : ∀ p, p < m → ∃ p', p' < m + 1 ∧ f' (first + p) = f (first + p') := fun p hp => by
    obtain ⟨j, j1, j2, j3⟩ := hs.mem (first + p) (by omega) (by omega)
    rw [j3]
    unfold swF
    by_cases e1 : j = first
    · rw [if_pos e1]
      exact ⟨m, by omega, rfl⟩
    · rw [if_neg e1, if_neg (by omega)]
      exact ⟨j - first, by omega, by congr 1; omega⟩
  refine ⟨hh, fun p q h1 h2 h3 => ?_, fun p q h1 h2 h3 => ?_⟩
  · obtain ⟨p', rfl⟩ : ∃ p', p = first + p' := ⟨p - first, by omega⟩
    obtain ⟨q', rfl⟩ : ∃ q', q = first + q' := ⟨q - first, by omega⟩
    rw [rest q' (by omega)]
    by_cases e : p' = m
    · subst e
      rw [top]
      have := h.l 0 q' (by omega) (by omega) (by omega)
      exact this
    · rw [rest p' (by omega)]
      exact h.s _ _ (by omega) (by omega) (by omega)
  · obtain ⟨p', k1, k2⟩ := low p h1
    rw [k2]
    by_cases e : q = m
    · subst e
      rw [top]
      exact h.h.max p' p' (Nat.le_refl _) k1
    · rw [rest q (by omega)]
      exact h.l p' q k1 (by omega) h3
set_option maxHeartbeats 4000000 in
theorem heap_any (g n cap a b : Nat) (f : Nat → Int) (w : World) (h : Ro w g n f) (hab : a ≤ b) (hb : b ≤ n) (hn : n ≤ 64) : Calls Try.prog 19 #[.slice (some ⟨g, 0, none⟩) n cap, .int .i64 a, .int .i64 b] w fun r w' => r = .returned (.tuple #[]) ∧ ∃ f', Ro w' g n f' ∧ Sh a b f f' ∧ Srt a b f' ∧ Apart (XB g) w w' := by
  have H0 := Hid3.mk h
  obtain ⟨hi, hh1, hh2⟩ : ∃ hi, a + hi ≤ b ∧ b ≤ a + hi := ⟨b - a, by omega, by omega⟩
  obtain ⟨z0, hz0⟩ : ∃ z0 : Int, ((hi : Int) - 1).tdiv 2 = z0 := ⟨_, rfl⟩
  have hzb : -1 ≤ z0 ∧ z0 ≤ 64 ∧ (hi : Int) ≤ 2 * z0 + 2 := by
    by_cases e : hi = 0
    · subst e
      have : z0 = 0 := by rw [← hz0]; decide
      omega
    · have h2 : ((hi : Int) - 1).tdiv 2 = ((hi : Int) - 1) / 2 := Int.tdiv_eq_ediv_of_nonneg (by omega)
      omega
  have HZ := Hid3.mk hz0
  clear hz0
  have hwh : IntKind.i64.wrap ((b : Int) - (a : Int)) = (hi : Int) := by rw [IntKind.wrap_i64]; omega
  clear h
  go_enter Try.func19, Try.ntmps19
  go_wp2_with fail
  go_loopw [9] (fun s9 wr => ∃ (z : Int) (f1 : Nat → Int), -1 ≤ z ∧ z ≤ 64 ∧ s9 = .int .i64 z ∧ Hid3 (Ro wr g n f1 ∧ Sh a b f f1 ∧ Hp a (z + 1).toNat hi f1 ∧ Apart (XB g) w wr)) (fun s _ => (intOf s + 1).toNat)
  case atStart => exact ⟨z0, f, hzb.1, hzb.2.1, by rw [HZ.out], ⟨H0.out, Sh.refl _ _ _, fun i c h1 h2 h3 => by omega, Apart.refl _ _⟩⟩
  case round =>
    obtain ⟨z, f1, hz1, hz2, rfl, HS⟩ := hrel
    by_cases hz : 0 ≤ z
    · obtain ⟨m, rfl⟩ : ∃ m : Nat, z = m := ⟨z.toNat, by omega⟩
      have cS := sift_any g n cap m hi a f1 wr HS.out.1 (by have := HS.out.2.2.1; rwa [show ((m : Int) + 1).toNat = m + 1 by omega] at this) (by omega) hn (by omega)
      have hmz : (0 : Int) ≤ (m : Int) := hz
      have hwm : IntKind.i64.wrap ((m : Int) - 1) = (m : Int) - 1 := by rw [IntKind.wrap_i64]; omega
      go_wp2_with fail
      refine cS.mono ?_
      rintro r W ⟨rfl, f2, k1, k2, k3, k4⟩
      have HS2 : Hid3 (Ro W g n f2 ∧ Sh a b f f2 ∧ Hp a ((m : Int) - 1 + 1).toNat hi f2 ∧ Apart (XB g) w W) := ⟨k1, HS.out.2.1.trans (k2.wide (by omega) (by omega)), by rwa [show ((m : Int) - 1 + 1).toNat = m by omega], HS.out.2.2.2.trans k4⟩
      clear k1 k2 k3 k4 cS HS
      go_wp2
      go_roundw
      case rel => exact ⟨(m : Int) - 1, f2, by omega, by omega, by first | rfl | go_num, HS2⟩
      case measure => simp [intOf]
    · have hzz : ¬ (0 : Int) ≤ z := hz
      have HS1 : Hid3 (Ro wr g n f1 ∧ Sh a b f f1 ∧ Hk a hi hi f1 ∧ Apart (XB g) w wr) := ⟨HS.out.1, HS.out.2.1, ⟨by have := HS.out.2.2.1; rwa [show (z + 1).toNat = 0 by omega] at this, fun p q h1 h2 h3 => by omega, fun p q h1 h2 h3 => by omega⟩, HS.out.2.2.2⟩
      have hwt : IntKind.i64.wrap ((hi : Int) - 1) = (hi : Int) - 1 := by rw [IntKind.wrap_i64]; omega
      clear HS
      go_wp2_with fail
      go_loopw [10] (fun s10 wr => ∃ (y : Int) (f2 : Nat → Int), -1 ≤ y ∧ y < hi ∧ s10 = .int .i64 y ∧ Hid3 (Ro wr g n f2 ∧ Sh a b f f2 ∧ Hk a hi (y + 1).toNat f2 ∧ Apart (XB g) w wr)) (fun s _ => (intOf s + 1).toNat)
      case atStart => exact ⟨(hi : Int) - 1, f1, by omega, by omega, by first | rfl | go_num, ⟨HS1.out.1, HS1.out.2.1, by rw [show ((hi : Int) - 1 + 1).toNat = hi by omega]; exact HS1.out.2.2.1, HS1.out.2.2.2⟩⟩
      case round =>
        obtain ⟨y, f2, hy1, hy2, rfl, HS⟩ := hrel
        by_cases hy : 0 ≤ y
        · obtain ⟨m, rfl⟩ : ∃ m : Nat, y = m := ⟨y.toNat, by omega⟩
          have hK := HS.out.2.2.1
          rw [show ((m : Int) + 1).toNat = m + 1 by omega] at hK
          have HKK := Hid3.mk hK
          obtain ⟨x, hx⟩ : ∃ x, a + m = x := ⟨_, rfl⟩
          have HXX := Hid3.mk hx
          have hwm : IntKind.i64.wrap ((m : Int) - 1) = (m : Int) - 1 := by rw [IntKind.wrap_i64]; omega
          have hwx : IntKind.i64.wrap ((a : Int) + (m : Int)) = (x : Int) := by rw [IntKind.wrap_i64]; omega
          have hx1 : x ≤ a + m ∧ a + m ≤ x := by omega
          clear hx hK
          have c1 := HS.out.1.cell a (by omega)
          have c2 := HS.out.1.cell x (by omega)
          have t1 := HS.out.1.thaw a
          have t2 := HS.out.1.thaw x
          have hg := HS.out.1.lt
          have b1 : a < n := by omega
          have b2 : x < n := by omega
          have b1z : (a : Int) < (n : Int) := by omega
          have b2z : (x : Int) < (n : Int) := by omega
          have hyz : (0 : Int) ≤ (m : Int) := hy
          have R1 := (HS.out.1.swap a x b1 b2).drew
          have P1 : Apart (XB g) w ((wr.setCell ⟨g, a, none⟩ (.int .u8 (f2 x))).setCell ⟨g, x, none⟩ (.int .u8 (f2 a))).drew := (HS.out.2.2.2.trans ((Apart.at (X := XB g) _ g _ _ rfl).trans (Apart.at (X := XB g) _ g _ _ rfl))).drew
          have cS := sift_any g n cap 0 m a (swF f2 a x) _ R1 (by have := HKK.out.mid; rwa [HXX.out] at this) (by omega) hn (by omega)
          have HF : Hid3 (∀ W' f', Ro W' g n f' → Sh (a + 0) (a + m) (swF f2 a x) f' → Hp a 0 m f' → Apart (XB g) ((wr.setCell ⟨g, a, none⟩ (.int .u8 (f2 x))).setCell ⟨g, x, none⟩ (.int .u8 (f2 a))).drew W' → Ro W' g n f' ∧ Sh a b f f' ∧ Hk a hi ((m : Int) - 1 + 1).toNat f' ∧ Apart (XB g) w W') := ⟨fun W' f' q1 q2 q3 q4 => ⟨q1, (HS.out.2.1.trans (Sh.swap a b f2 a x (by omega) (by omega) (by omega) (by omega))).trans (q2.wide (by omega) (by omega)), by
            rw [show ((m : Int) - 1 + 1).toNat = m by omega]
            exact HKK.out.next (by omega) (by have e := HXX.out; subst e; exact q2) q3, P1.trans q4⟩⟩
          have HCS := Hid3.mk cS
          by_cases hm0 : a = x
          · subst hm0
            clear HS R1 P1 cS
            go_wp2_with fail
            go_region
            have cS := HCS.out
            clear HCS c1 c2 t1 t2 hg
            have HF2 := HF
            clear HF
            generalize ((wr.setCell ⟨g, a, none⟩ (.int .u8 (f2 a))).setCell ⟨g, a, none⟩ (.int .u8 (f2 a))).drew = W6 at *
            go_wp2_with fail
            refine cS.mono ?_
            rintro r W ⟨rfl, f3, q1, q2, q3, q4⟩
            have HS3 := Hid3.mk (HF2.out W f3 q1 q2 q3 q4)
            clear q1 q2 q3 q4 cS HF2
            go_wp2
            go_roundw
            case rel => exact ⟨(m : Int) - 1, f3, by omega, by omega, by first | rfl | go_num, HS3⟩
            case measure => simp [intOf]
          · have hne2 : x ≠ a := fun e => hm0 e.symm
            clear HS R1 P1 cS
            go_wp2_with fail
            go_region
            have cS := HCS.out
            clear HCS c1 c2 t1 t2 hg
            have HF2 := HF
            clear HF
            generalize ((wr.setCell ⟨g, a, none⟩ (.int .u8 (f2 x))).setCell ⟨g, x, none⟩ (.int .u8 (f2 a))).drew = W6 at *
            go_wp2_with fail
            refine cS.mono ?_
            rintro r W ⟨rfl, f3, q1, q2, q3, q4⟩
            have HS3 := Hid3.mk (HF2.out W f3 q1 q2 q3 q4)
            clear q1 q2 q3 q4 cS HF2
            go_wp2
            go_roundw
            case rel => exact ⟨(m : Int) - 1, f3, by omega, by omega, by first | rfl | go_num, HS3⟩
            case measure => simp [intOf]
        · have hyz : ¬ (0 : Int) ≤ y := hy
          have HE : Hid3 (Srt a b f2) := ⟨fun p q h1 h2 h3 => HS.out.2.2.1.s p q (by omega) h2 (by omega)⟩
          go_wp2
          go_end0
          exact ⟨rfl, f2, HS.out.1, HS.out.2.1, HE.out, HS.out.2.2.2⟩
end Go.Proofs.Ytknmbecabgencaa
