/- The library's sort at uint8: the insertion sort. -/
import Derived.Test.YtknmbecabgencaaSo1
namespace Go.Proofs.Ytknmbecabgencaa
open Go.RowKit Go.Maps
set_option linter.unusedVariables false
set_option maxRecDepth 100000
def Srt (a b : Nat) (f : Nat → Int) : Prop := ∀ p q, a ≤ p → p < q → q < b → f p ≤ f q
def Inv (a i j : Nat) (f : Nat → Int) : Prop := ∀ p q, a ≤ p → p < q → q ≤ i → q ≠ j → f p ≤ f q
theorem Inv.step {a i j : Nat} {f : Nat → Int} (h : Inv a i j f) (h1 : a < j) (h2 : j ≤ i) (hl : f j < f (j - 1)) : Inv a i (j - 1) (swF f j (j - 1)) := by
  intro p q h3 h4 h5 h6
  unfold swF
  by_cases eq : q = j
  · subst eq
    rw [if_pos rfl]
    by_cases ep : p = q - 1
    · subst ep
      rw [if_neg (by omega), if_pos rfl]
      omega
    · rw [if_neg (by omega), if_neg ep]
      exact h p (q - 1) h3 (by omega) (by omega) (by omega)
  · rw [if_neg eq, if_neg h6]
    by_cases ep : p = j
    · subst ep
      rw [if_pos rfl]
      exact h (p - 1) q (by omega) (by omega) h5 eq
    · rw [if_neg ep]
      by_cases ep1 : p = j - 1
      · subst ep1
        rw [if_pos rfl]
        exact h j q (by omega) (by omega) h5 eq
      · rw [if_neg ep1]
        exact h p q h3 h4 h5 eq
theorem Inv.endA {a i : Nat} {f : Nat → Int} (h : Inv a i a f) : Srt a (i + 1) f := fun p q h1 h2 h3 => h p q h1 h2 (by omega) (by omega)
theorem Inv.endJ {a i j : Nat} {f : Nat → Int} (h : Inv a i j f) (h1 : a < j) (h2 : j ≤ i) (hl : ¬ f j < f (j - 1)) : Srt a (i + 1) f := fun p q k1 k2 k3 => by
  by_cases e : q = j
  · subst e
    by_cases ep : p = q - 1
    · subst ep
      omega
    · have := h p (q - 1) k1 (by omega) (by omega) (by omega)
      omega
  · exact h p q k1 k2 (by omega) e
theorem Srt.inv {a i : Nat} {f : Nat → Int} (h : Srt a i f) : Inv a i i f := fun p q h1 h2 h3 h4 => h p q h1 h2 (by omega)
theorem Ro.drewN {w : World} {g n : Nat} {f : Nat → Int} (h : Ro w g n f) (k : Nat) : Ro (w.drewN k) g n f := ⟨h.r⟩
theorem apart_drewN (g : Nat) (w : World) (k : Nat) : Apart (XB g) w (w.drewN k) := ⟨rfl, rfl, rfl, Nat.le_refl _, fun _ _ _ => rfl⟩
set_option maxHeartbeats 4000000 in
theorem ins_any (g n cap a b : Nat) (f : Nat → Int) (w : World) (h : Ro w g n f) (hb : b ≤ n) (hn : n ≤ 64) (ha : a ≤ 64) : Calls Try.prog 18 #[.slice (some ⟨g, 0, none⟩) n cap, .int .i64 a, .int .i64 b] w fun r w' => r = .returned (.tuple #[]) ∧ ∃ f', Ro w' g n f' ∧ Sh a b f f' ∧ Srt a b f' ∧ Apart (XB g) w w' := by
  have H0 := Hid3.mk h
  have hw1 : IntKind.i64.wrap ((a : Int) + 1) = ((a + 1 : Nat) : Int) := by rw [IntKind.wrap_i64]; omega
  clear h
  go_enter Try.func18, Try.ntmps18
  go_wp2_with fail
  go_loopw [6] (fun s6 wr => ∃ (i : Nat) (f' : Nat → Int), a + 1 ≤ i ∧ (i ≤ b ∨ i = a + 1) ∧ s6 = .int .i64 i ∧ Hid3 (Ro wr g n f' ∧ Sh a b f f' ∧ Srt a i f' ∧ Apart (XB g) w wr)) (fun s _ => b - (intOf s).toNat)
  case atStart => exact ⟨a + 1, f, by omega, .inr rfl, rfl, ⟨H0.out, Sh.refl _ _ _, fun p q h1 h2 h3 => by omega, Apart.refl _ _⟩⟩
  case round =>
    obtain ⟨i, f1, hi1, hi2, rfl, HS⟩ := hrel
    by_cases hib : i < b
    · have hibz : (i : Int) < (b : Int) := by omega
      have hwi : IntKind.i64.wrap ((i : Int) + 1) = ((i + 1 : Nat) : Int) := by rw [IntKind.wrap_i64]; omega
      go_wp2_with fail
      go_loopw [7] (fun s7 wr => ∃ (j : Nat) (f2 : Nat → Int), a ≤ j ∧ j ≤ i ∧ s7 = .int .i64 j ∧ Hid3 (Ro wr g n f2 ∧ Sh a b f f2 ∧ Inv a i j f2 ∧ Apart (XB g) w wr)) (fun s _ => (intOf s).toNat)
      case atStart => exact ⟨i, f1, by omega, by omega, rfl, ⟨HS.out.1, HS.out.2.1, HS.out.2.2.1.inv, HS.out.2.2.2⟩⟩
      case round =>
        obtain ⟨j, f2, hj1, hj2, rfl, HS2⟩ := hrel
        by_cases hja : a < j
        · have hjaz : (a : Int) < (j : Int) := by omega
          have hgt : decide ((a : Int) < (j : Int)) = true := by simpa using hjaz
          obtain ⟨k, hk⟩ : ∃ k, j - 1 = k := ⟨_, rfl⟩
          have hkj : k < j := by omega
          have HK := Hid3.mk hk
          have hwj : IntKind.i64.wrap ((j : Int) - 1) = (k : Int) := by rw [IntKind.wrap_i64]; omega
          have c1 := HS2.out.1.cell j (by omega)
          have c2 := HS2.out.1.cell k (by omega)
          have t1 := HS2.out.1.thaw j
          have t2 := HS2.out.1.thaw k
          have hg := HS2.out.1.lt
          have b1 : j < n := by omega
          have b2 : k < n := by omega
          have b1z : (j : Int) < (n : Int) := by omega
          have b2z : (k : Int) < (n : Int) := by omega
          have cL := fun W => less_any (f2 j) (f2 k) W
          have hak : a ≤ k := by omega
          clear hk
          by_cases hl : f2 j < f2 k
          · have hld : decide (f2 j < f2 k) = true := by simpa using hl
            rw [hld] at cL
            have HS3 : Hid3 (∀ m, Ro (((wr.drewN m).setCell ⟨g, j, none⟩ (.int .u8 (f2 k))).setCell ⟨g, k, none⟩ (.int .u8 (f2 j))).drew g n (swF f2 j k) ∧ Sh a b f (swF f2 j k) ∧ Inv a i k (swF f2 j k) ∧ Apart (XB g) w (((wr.drewN m).setCell ⟨g, j, none⟩ (.int .u8 (f2 k))).setCell ⟨g, k, none⟩ (.int .u8 (f2 j))).drew) := ⟨fun m => ⟨((HS2.out.1.drewN m).swap j k b1 b2).drew, HS2.out.2.1.trans (Sh.swap a b f2 j k (by omega) (by omega) (by omega) (by omega)), by
              have := HS2.out.2.2.1.step hja hj2 (by rw [HK.out]; exact hl)
              rw [HK.out] at this
              exact this, ((HS2.out.2.2.2.trans (apart_drewN g wr m)).trans ((Apart.at (X := XB g) _ g _ _ rfl).trans (Apart.at (X := XB g) _ g _ _ rfl))).drew⟩⟩
            go_wp2_with fail
            go_quiet ((go_at_call 24; exact Calls.quiet_of_same (cL _)))
            go_wp2_with fail
            have d1 : (wr.drewN nq).cell? ⟨g, j, none⟩ = some (.int .u8 (f2 j)) := c1
            have d2 : (wr.drewN nq).cell? ⟨g, k, none⟩ = some (.int .u8 (f2 k)) := c2
            have e1 : (wr.drewN nq).frozen? ⟨g, j, none⟩ = false := t1
            have e2 : (wr.drewN nq).frozen? ⟨g, k, none⟩ = false := t2
            have hg2 : g < (wr.drewN nq).heap.size := hg
            have HS4 := Hid3.mk (HS3.out nq)
            have hne1 : j ≠ k := by omega
            have hne2 : k ≠ j := by omega
            clear HS3 c1 c2 t1 t2 hg cL HS2
            generalize wr.drewN nq = W6 at *
            go_region
            go_wp2
            go_roundw
            case rel => exact ⟨k, swF f2 j k, hak, by omega, by go_num, HS4⟩
            case measure => simp [intOf]; omega
          · have hld : decide (f2 j < f2 k) = false := by simpa using hl
            rw [hld] at cL
            have HS3 : Hid3 (∀ m, Ro (wr.drewN m) g n f2 ∧ Sh a b f f2 ∧ Srt a (i + 1) f2 ∧ Apart (XB g) w (wr.drewN m)) := ⟨fun m => ⟨HS2.out.1.drewN m, HS2.out.2.1, HS2.out.2.2.1.endJ hja hj2 (by rw [HK.out]; exact hl), HS2.out.2.2.2.trans (apart_drewN g wr m)⟩⟩
            go_wp2_with fail
            go_quiet ((go_at_call 24; exact Calls.quiet_of_same (cL _)))
            go_wp2
            go_roundw
            case rel => exact ⟨i + 1, f2, by omega, .inl (by omega), by go_num, ⟨HS3.out _⟩⟩
            case measure => simp [intOf]; omega
        · obtain rfl : j = a := by omega
          have hgt : decide ((j : Int) < (j : Int)) = false := by simp
          have HS3 : Hid3 (∀ m, Ro (wr.drewN m) g n f2 ∧ Sh j b f f2 ∧ Srt j (i + 1) f2 ∧ Apart (XB g) w (wr.drewN m)) := ⟨fun m => ⟨HS2.out.1.drewN m, HS2.out.2.1, HS2.out.2.2.1.endA, HS2.out.2.2.2.trans (apart_drewN g wr m)⟩⟩
          go_wp2_with fail
          go_quiet (fail)
          go_wp2
          go_roundw
          case rel => exact ⟨i + 1, f2, by omega, .inl (by omega), by go_num, ⟨HS3.out _⟩⟩
          case measure => simp [intOf]; omega
    · have hibz : ¬ (i : Int) < (b : Int) := by omega
      have HE : Hid3 (Srt a b f1) := ⟨fun p q h1 h2 h3 => HS.out.2.2.1 p q h1 h2 (by omega)⟩
      go_wp2
      go_end0
      exact ⟨rfl, f1, HS.out.1, HS.out.2.1, HE.out, HS.out.2.2.2⟩
end Go.Proofs.Ytknmbecabgencaa
