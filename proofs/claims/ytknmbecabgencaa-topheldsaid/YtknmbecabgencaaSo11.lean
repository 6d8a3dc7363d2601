/- The library's sort at uint8: breakPatterns. -/
import Derived.Test.YtknmbecabgencaaSo6
import Derived.Test.YtknmbecabgencaaShelf
import Derived.Laws.Bits64
import Derived.Laws.Bits64b
namespace Go.Proofs.Ytknmbecabgencaa
open Go.RowKit Go.Maps
set_option linter.unusedVariables false
set_option maxRecDepth 100000
theorem p2_wrap : ∀ k : Nat, k ≤ 62 → IntKind.u64.wrap ((2 : Int) ^ k) = ((2 ^ k : Nat) : Int) := by
  intro k hk
  have h1 : 2 ^ k ≤ 2 ^ 62 := Nat.pow_le_pow_right (by omega) hk
  have h2 : ((2 : Int) ^ k) = ((2 ^ k : Nat) : Int) := by simp
  rw [h2, IntKind.wrap_u64]
  have h3 : (2 : Nat) ^ 62 = 4611686018427387904 := by decide
  clear h2
  generalize (2 : Nat) ^ k = X at *
  omega
theorem blen (l : Nat) (h1 : 8 ≤ l) (h2 : l ≤ 64) : Lib.bitLen l ≤ 7 ∧ l < 2 ^ Lib.bitLen l ∧ 2 ^ Lib.bitLen l ≤ 2 * l := by
  have : ∀ l : Fin 65, 8 ≤ l.val → Lib.bitLen l.val ≤ 7 ∧ l.val < 2 ^ Lib.bitLen l.val ∧ 2 ^ Lib.bitLen l.val ≤ 2 * l.val := by decide
  exact this ⟨l, by omega⟩ h1
set_option maxHeartbeats 2000000 in
theorem npot_any (l : Nat) (w : World) (h1 : 8 ≤ l) (h2 : l ≤ 64) : Calls Try.prog 30 #[.int .i64 l] w fun r w' => (∃ M : Nat, r = .returned (.int .u64 M) ∧ l < M ∧ M ≤ 2 * l) ∧ w' = w := by
  obtain ⟨b1, b2, b3⟩ := blen l h1 h2
  have cL := fun W => Try.bits_Len (l : Int) W (by omega) (by omega)
  rw [Int.toNat_natCast] at cL
  generalize Lib.bitLen l = k at *
  have hp := p2_wrap k (by omega)
  have hk7 : (k : Int) < 64 := by omega
  have hwl : IntKind.u64.wrap (l : Int) = (l : Int) := by rw [IntKind.wrap_u64]; omega
  obtain ⟨M, hM⟩ : ∃ M, 2 ^ k = M := ⟨_, rfl⟩
  rw [hM] at b2 b3 hp
  clear hM
  go_enter Try.func30, Try.ntmps30
  go_wp2_with fail
  refine (cL _).mono ?_
  rintro r w' ⟨rfl, rfl⟩
  clear cL
  go_wp2
  go_ret
  exact ⟨⟨M, rfl, b2, b3⟩, rfl⟩
set_option maxHeartbeats 4000000 in
theorem xnext_any (x v : Nat) (w : World) (hv : v < 18446744073709551616) (h : Cl w x 64 [.int .u64 (v : Nat)]) : Calls Try.prog 31 #[.pointer (some ⟨x, 0, none⟩)] w fun r w' => ∃ v' : Nat, r = .returned (.int .u64 (v' : Nat)) ∧ v' < 18446744073709551616 ∧ Cl w' x 64 [.int .u64 (v' : Nat)] ∧ Apart (XB x) w w' := by
  obtain ⟨p, hp⟩ : ∃ p : Nat, v ^^^ (v * 8192 % 18446744073709551616) = p := ⟨_, rfl⟩
  obtain ⟨q, hq⟩ : ∃ q : Nat, p ^^^ (p / 128) = q := ⟨_, rfl⟩
  obtain ⟨s, hs⟩ : ∃ s : Nat, q ^^^ (q * 131072 % 18446744073709551616) = s := ⟨_, rfl⟩
  have lp : p < 18446744073709551616 := by rw [← hp]; exact Nat.xor_lt_two_pow (n := 64) (by omega) (by omega)
  have lq : q < 18446744073709551616 := by rw [← hq]; exact Nat.xor_lt_two_pow (n := 64) (by omega) (by omega)
  have ls : s < 18446744073709551616 := by rw [← hs]; exact Nat.xor_lt_two_pow (n := 64) (by omega) (by omega)
  have e1 : bits .xor .u64 (v : Int) (IntKind.u64.wrap ((v : Int) * 8192)) = (p : Int) := by
    rw [IntKind.wrap_u64, show ((v : Int) * 8192 % 18446744073709551616) = ((v * 8192 % 18446744073709551616 : Nat) : Int) by omega, bits_xor_u64_nat _ _ hv (by omega), hp]
  have e2 : bits .xor .u64 (p : Int) ((p : Int) / 128) = (q : Int) := by
    rw [show ((p : Int) / 128) = ((p / 128 : Nat) : Int) by omega, bits_xor_u64_nat _ _ lp (by omega), hq]
  have e3 : bits .xor .u64 (q : Int) (IntKind.u64.wrap ((q : Int) * 131072)) = (s : Int) := by
    rw [IntKind.wrap_u64, show ((q : Int) * 131072 % 18446744073709551616) = ((q * 131072 % 18446744073709551616 : Nat) : Int) by omega, bits_xor_u64_nat _ _ lq (by omega), hs]
  clear hp hq hs
  have W1 : Hid3 (Cl (w.setCell ⟨x, 0, none⟩ (.int .u64 (p : Nat))).drew x 64 [.int .u64 (p : Nat)] ∧ Apart (XB x) w (w.setCell ⟨x, 0, none⟩ (.int .u64 (p : Nat))).drew) := ⟨(h.set 0 _).drew, (Apart.at (X := XB x) _ x _ _ rfl).drew⟩
  have c1 : w.cell? ⟨x, 0, none⟩ = some (.int .u64 (v : Nat)) := h.cell 0
  have t1 : w.frozen? ⟨x, 0, none⟩ = false := h.thaw 0
  have g1 := h.lt
  clear h
  go_enter Try.func31, Try.ntmps31
  go_wp2_with fail
  go_region
  clear c1 t1 g1
  generalize (w.setCell ⟨x, 0, none⟩ (.int .u64 (p : Nat))).drew = W2 at *
  have W3 : Hid3 (Cl (W2.setCell ⟨x, 0, none⟩ (.int .u64 (q : Nat))).drew x 64 [.int .u64 (q : Nat)] ∧ Apart (XB x) w (W2.setCell ⟨x, 0, none⟩ (.int .u64 (q : Nat))).drew) := ⟨(W1.out.1.set 0 _).drew, (W1.out.2.trans (Apart.at (X := XB x) _ x _ _ rfl)).drew⟩
  have c1 : W2.cell? ⟨x, 0, none⟩ = some (.int .u64 (p : Nat)) := W1.out.1.cell 0
  have t1 : W2.frozen? ⟨x, 0, none⟩ = false := W1.out.1.thaw 0
  have g1 := W1.out.1.lt
  go_wp2_with fail
  go_region
  clear c1 t1 g1 W1
  generalize (W2.setCell ⟨x, 0, none⟩ (.int .u64 (q : Nat))).drew = W4 at *
  have W5 : Hid3 (Cl (W4.setCell ⟨x, 0, none⟩ (.int .u64 (s : Nat))).drew x 64 [.int .u64 (s : Nat)] ∧ Apart (XB x) w (W4.setCell ⟨x, 0, none⟩ (.int .u64 (s : Nat))).drew) := ⟨(W3.out.1.set 0 _).drew, (W3.out.2.trans (Apart.at (X := XB x) _ x _ _ rfl)).drew⟩
  have c1 : W4.cell? ⟨x, 0, none⟩ = some (.int .u64 (q : Nat)) := W3.out.1.cell 0
  have t1 : W4.frozen? ⟨x, 0, none⟩ = false := W3.out.1.thaw 0
  have g1 := W3.out.1.lt
  go_wp2_with fail
  go_region
  clear c1 t1 g1 W3
  generalize (W4.setCell ⟨x, 0, none⟩ (.int .u64 (s : Nat))).drew = W6 at *
  have c1 : W6.cell? ⟨x, 0, none⟩ = some (.int .u64 (s : Nat)) := W5.out.1.cell 0
  have g1 := W5.out.1.lt
  go_wp2
  go_ret
  exact ⟨s, rfl, ls, W5.out⟩
set_option maxHeartbeats 8000000 in
theorem break_any (g n cap a b : Nat) (f : Nat → Int) (w : World) (h : Ro w g n f) (hab : a + 12 < b) (hb : b ≤ n) (hn : n ≤ 64) : Calls Try.prog 20 #[.slice (some ⟨g, 0, none⟩) n cap, .int .i64 a, .int .i64 b] w fun r w' => r = .returned (.tuple #[]) ∧ ∃ f', Ro w' g n f' ∧ Sh a b f f' ∧ Apart (XB g) w w' := by
  obtain ⟨l, l1, l2⟩ : ∃ l, a + l ≤ b ∧ b ≤ a + l := ⟨b - a, by omega, by omega⟩
  obtain ⟨t, ht1, ht2⟩ : ∃ t, 4 * t ≤ l ∧ l ≤ 4 * t + 3 := ⟨l / 4, by omega, by omega⟩
  obtain ⟨t2, u1, u2⟩ : ∃ t2, t2 ≤ 2 * t ∧ 2 * t ≤ t2 := ⟨2 * t, by omega, by omega⟩
  obtain ⟨i9, v1, v2⟩ : ∃ i9, i9 ≤ a + t2 ∧ a + t2 ≤ i9 := ⟨a + t2, by omega, by omega⟩
  obtain ⟨i0, i1, i2⟩ : ∃ i0, i0 + 1 ≤ i9 ∧ i9 ≤ i0 + 1 := ⟨i9 - 1, by omega, by omega⟩
  have hwl : IntKind.i64.wrap ((b : Int) - (a : Int)) = (l : Int) := by rw [IntKind.wrap_i64]; omega
  have hwu : IntKind.u64.wrap (l : Int) = (l : Int) := by rw [IntKind.wrap_u64]; omega
  have hq : (l : Int).tdiv 4 = (t : Int) := by rw [Int.tdiv_eq_ediv_of_nonneg (by omega)]; omega
  have hq2 : (l : Int) / 4 = (t : Int) := by omega
  have hwt : IntKind.i64.wrap (t : Int) = (t : Int) := by rw [IntKind.wrap_i64]; omega
  have hw2 : IntKind.i64.wrap ((t : Int) * 2) = (t2 : Int) := by rw [IntKind.wrap_i64]; omega
  have hwi : IntKind.i64.wrap ((a : Int) + (t2 : Int)) = (i9 : Int) := by rw [IntKind.wrap_i64]; omega
  have hwi0 : IntKind.i64.wrap ((i9 : Int) - 1) = (i0 : Int) := by rw [IntKind.wrap_i64]; omega
  have hwi1 : IntKind.i64.wrap ((i9 : Int) + 1) = ((i9 + 1 : Nat) : Int) := by rw [IntKind.wrap_i64]; omega
  have h8 : (8 : Int) ≤ (l : Int) := by omega
  have hn8 : 8 ≤ l := by omega
  have hl64 : l ≤ 64 := by omega
  have bi : a + 1 ≤ i0 ∧ i0 + 3 < b := by omega
  clear ht1 ht2 u1 u2 v1 v2
  have hX := below_new w (.cells #[.int .u64 (l : Nat)] 64)
  have HS0 : Hid3 (Ro (w.alloc (.cells #[.int .u64 (l : Nat)] 64)) g n f ∧ Sh a b f f ∧ Cl (w.alloc (.cells #[.int .u64 (l : Nat)] 64)) w.heap.size 64 [.int .u64 (l : Nat)] ∧ Apart (XB g) w (w.alloc (.cells #[.int .u64 (l : Nat)] 64))) := ⟨h.stay (Apart.of_below (X := fun _ => False) hX) id, Sh.refl _ _ _, Cl.new w 64 [.int .u64 (l : Nat)], Apart.of_below hX⟩
  have hgl := h.lt
  have HX : Hid3 (w.heap.size ≠ g ∧ w.heap.size ≤ w.heap.size) := ⟨by omega, Nat.le_refl _⟩
  have HXW : Hid3 (∀ i, i < w.heap.size → XB w.heap.size i → XB g i) := ⟨fun i h1 h2 => by have e : i = w.heap.size := h2; omega⟩
  clear h hX hgl
  go_enter Try.func20, Try.ntmps20
  go_wp2_with fail
  refine (npot_any l _ hn8 hl64).mono ?_
  rintro r w' ⟨⟨M, rfl, hM1, hM2⟩, rfl⟩
  generalize w.alloc (.cells #[.int .u64 (l : Nat)] 64) = W0 at *
  generalize hxb : w.heap.size = xb at *
  have HXB := Hid3.mk hxb
  clear hxb
  have hwM : IntKind.u64.wrap ((M : Int) - 1) = ((M - 1 : Nat) : Int) := by rw [IntKind.wrap_u64]; omega
  go_wp2_with fail
  go_loopw [9] (fun s9 wr => ∃ (i v : Nat) (f1 : Nat → Int), i0 ≤ i ∧ i ≤ i0 + 3 ∧ v < 18446744073709551616 ∧ s9 = .int .i64 i ∧ Hid3 (Ro wr g n f1 ∧ Sh a b f f1 ∧ Cl wr xb 64 [.int .u64 (v : Nat)] ∧ Apart (XB g) w wr)) (fun s _ => (70 - intOf s).toNat)
  case atStart => exact ⟨i0, l, f, by omega, by omega, by omega, by first | rfl | go_num, HS0⟩
  case round =>
    obtain ⟨i, v, f1, q1, q2, hv, rfl, HS⟩ := hrel
    clear HS0
    by_cases hi : i ≤ i9 + 1
    · have hiz : (i : Int) ≤ ((i9 + 1 : Nat) : Int) := by omega
      have hiz2 : (i : Int) ≤ (i9 : Int) + 1 := by omega
      have hwi3 : IntKind.i64.wrap ((i : Int) + 1) = ((i + 1 : Nat) : Int) := by rw [IntKind.wrap_i64]; omega
      go_wp2_with fail
      refine (xnext_any xb v wr hv HS.out.2.2.1).mono ?_
      rintro r W1 ⟨v1, rfl, hv1, hc1, hA1⟩
      have HW : Hid3 (Ro W1 g n f1 ∧ Sh a b f f1 ∧ Cl W1 xb 64 [.int .u64 (v1 : Nat)] ∧ Apart (XB g) w W1) := ⟨HS.out.1.stay hA1 (fun e => HX.out.1 e.symm), HS.out.2.1, hc1, HS.out.2.2.2.then hA1 (fun i h1 h2 => HXW.out i (by rw [← HXB.out]; exact h1) h2)⟩
      obtain ⟨o9, ho9⟩ : ∃ o9 : Nat, v1 &&& (M - 1) = o9 := ⟨_, rfl⟩
      have ho : o9 ≤ M - 1 := by rw [← ho9]; exact Nat.and_le_right
      have ea : bits .and .u64 (v1 : Int) ((M - 1 : Nat) : Int) = (o9 : Int) := by rw [bits_and_u64_nat _ _ hv1 (by omega), ho9]
      clear ho9 hc1 hA1 HS
      have hwo : IntKind.i64.wrap (o9 : Int) = (o9 : Int) := by rw [IntKind.wrap_i64]; omega
      by_cases hol : l ≤ o9
      · have holz : (l : Int) ≤ (o9 : Int) := by omega
        obtain ⟨o, ho1, ho2⟩ : ∃ o, o + l ≤ o9 ∧ o9 ≤ o + l := ⟨o9 - l, by omega, by omega⟩
        have hwo2 : IntKind.i64.wrap ((o9 : Int) - (l : Int)) = (o : Int) := by rw [IntKind.wrap_i64]; omega
        obtain ⟨j, hj1, hj2⟩ : ∃ j, j ≤ a + o ∧ a + o ≤ j := ⟨a + o, by omega, by omega⟩
        have hwj : IntKind.i64.wrap ((a : Int) + (o : Int)) = (j : Int) := by rw [IntKind.wrap_i64]; omega
        have c1 := HW.out.1.cell i (by omega)
        have c2 := HW.out.1.cell j (by omega)
        have t1 := HW.out.1.thaw i
        have t2 := HW.out.1.thaw j
        have hg := HW.out.1.lt
        have b1 : i < n := by omega
        have b2 : j < n := by omega
        have b1z : (i : Int) < (n : Int) := by omega
        have b2z : (j : Int) < (n : Int) := by omega
        have HE : Hid3 (Ro ((W1.setCell ⟨g, i, none⟩ (.int .u8 (f1 j))).setCell ⟨g, j, none⟩ (.int .u8 (f1 i))).drew g n (swF f1 i j) ∧ Sh a b f (swF f1 i j) ∧ Cl ((W1.setCell ⟨g, i, none⟩ (.int .u8 (f1 j))).setCell ⟨g, j, none⟩ (.int .u8 (f1 i))).drew xb 64 [.int .u64 (v1 : Nat)] ∧ Apart (XB g) w ((W1.setCell ⟨g, i, none⟩ (.int .u8 (f1 j))).setCell ⟨g, j, none⟩ (.int .u8 (f1 i))).drew) := ⟨(HW.out.1.swap i j b1 b2).drew, HW.out.2.1.trans (Sh.swap a b f1 i j (by omega) (by omega) (by omega) (by omega)), ((HW.out.2.2.1.other HX.out.1 i _).other HX.out.1 j _).drew, (HW.out.2.2.2.trans ((Apart.at (X := XB g) _ g _ _ rfl).trans (Apart.at (X := XB g) _ g _ _ rfl))).drew⟩
        clear HW
        by_cases eij : i = j
        · subst eij
          go_wp2_with fail
          go_region
          go_wp2
          go_roundw
          case rel => exact ⟨i + 1, v1, _, by omega, by omega, hv1, by go_num, HE⟩
          case measure => simp [intOf]; omega
        · have eji : j ≠ i := fun e => eij e.symm
          go_wp2_with fail
          go_region
          go_wp2
          go_roundw
          case rel => exact ⟨i + 1, v1, _, by omega, by omega, hv1, by go_num, HE⟩
          case measure => simp [intOf]; omega
      · have holz : ¬ (l : Int) ≤ (o9 : Int) := by omega
        obtain ⟨j, hj1, hj2⟩ : ∃ j, j ≤ a + o9 ∧ a + o9 ≤ j := ⟨a + o9, by omega, by omega⟩
        have hwj : IntKind.i64.wrap ((a : Int) + (o9 : Int)) = (j : Int) := by rw [IntKind.wrap_i64]; omega
        have c1 := HW.out.1.cell i (by omega)
        have c2 := HW.out.1.cell j (by omega)
        have t1 := HW.out.1.thaw i
        have t2 := HW.out.1.thaw j
        have hg := HW.out.1.lt
        have b1 : i < n := by omega
        have b2 : j < n := by omega
        have b1z : (i : Int) < (n : Int) := by omega
        have b2z : (j : Int) < (n : Int) := by omega
        have HE : Hid3 (Ro ((W1.setCell ⟨g, i, none⟩ (.int .u8 (f1 j))).setCell ⟨g, j, none⟩ (.int .u8 (f1 i))).drew g n (swF f1 i j) ∧ Sh a b f (swF f1 i j) ∧ Cl ((W1.setCell ⟨g, i, none⟩ (.int .u8 (f1 j))).setCell ⟨g, j, none⟩ (.int .u8 (f1 i))).drew xb 64 [.int .u64 (v1 : Nat)] ∧ Apart (XB g) w ((W1.setCell ⟨g, i, none⟩ (.int .u8 (f1 j))).setCell ⟨g, j, none⟩ (.int .u8 (f1 i))).drew) := ⟨(HW.out.1.swap i j b1 b2).drew, HW.out.2.1.trans (Sh.swap a b f1 i j (by omega) (by omega) (by omega) (by omega)), ((HW.out.2.2.1.other HX.out.1 i _).other HX.out.1 j _).drew, (HW.out.2.2.2.trans ((Apart.at (X := XB g) _ g _ _ rfl).trans (Apart.at (X := XB g) _ g _ _ rfl))).drew⟩
        clear HW
        by_cases eij : i = j
        · subst eij
          go_wp2_with fail
          go_region
          go_wp2
          go_roundw
          case rel => exact ⟨i + 1, v1, _, by omega, by omega, hv1, by go_num, HE⟩
          case measure => simp [intOf]; omega
        · have eji : j ≠ i := fun e => eij e.symm
          go_wp2_with fail
          go_region
          go_wp2
          go_roundw
          case rel => exact ⟨i + 1, v1, _, by omega, by omega, hv1, by go_num, HE⟩
          case measure => simp [intOf]; omega
    · have hiz : ¬ (i : Int) ≤ ((i9 + 1 : Nat) : Int) := by omega
      have hiz2 : ¬ (i : Int) ≤ (i9 : Int) + 1 := by omega
      go_wp2
      go_end0
      exact ⟨rfl, f1, HS.out.1, HS.out.2.1, HS.out.2.2.2⟩
end Go.Proofs.Ytknmbecabgencaa
