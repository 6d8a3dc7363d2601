/- The library's sort at uint8: reverseRange. -/
import Derived.Test.YtknmbecabgencaaSo4
namespace Go.Proofs.Ytknmbecabgencaa
open Go.RowKit Go.Maps
set_option linter.unusedVariables false
set_option maxRecDepth 100000
set_option maxHeartbeats 4000000 in
theorem rev_any (g n cap a b : Nat) (f : Nat → Int) (w : World) (h : Ro w g n f) (hb : b ≤ n) (hn : n ≤ 64) (ha : a ≤ 64) : Calls Try.prog 22 #[.slice (some ⟨g, 0, none⟩) n cap, .int .i64 a, .int .i64 b] w fun r w' => r = .returned (.tuple #[]) ∧ ∃ f', Ro w' g n f' ∧ Sh a b f f' ∧ Apart (XB g) w w' := by
  have H0 := Hid3.mk h
  have hwb : IntKind.i64.wrap ((b : Int) - 1) = (b : Int) - 1 := by rw [IntKind.wrap_i64]; omega
  clear h
  go_enter Try.func22, Try.ntmps22
  go_wp2_with fail
  go_loopw [6, 7] (fun s6 s7 wr => ∃ (i : Nat) (y : Int) (f1 : Nat → Int), a ≤ i ∧ i ≤ 64 ∧ y ≤ (b : Int) - 1 ∧ -1 ≤ y ∧ s6 = .int .i64 i ∧ s7 = .int .i64 y ∧ Hid3 (Ro wr g n f1 ∧ Sh a b f f1 ∧ Apart (XB g) w wr)) (fun s _ _ => 64 - (intOf s).toNat)
  case atStart => exact ⟨a, (b : Int) - 1, f, by omega, ha, by omega, by omega, rfl, by first | rfl | go_num, ⟨H0.out, Sh.refl _ _ _, Apart.refl _ _⟩⟩
  case round =>
    obtain ⟨i, y, f1, hi1, hi2, hy1, hy2, rfl, rfl, HS⟩ := hrel
    by_cases hiy : (i : Int) < y
    · obtain ⟨j, rfl⟩ : ∃ j : Nat, y = j := ⟨y.toNat, by omega⟩
      have c1 := HS.out.1.cell i (by omega)
      have c2 := HS.out.1.cell j (by omega)
      have t1 := HS.out.1.thaw i
      have t2 := HS.out.1.thaw j
      have hg := HS.out.1.lt
      have b1 : i < n := by omega
      have b2 : j < n := by omega
      have b1z : (i : Int) < (n : Int) := by omega
      have b2z : (j : Int) < (n : Int) := by omega
      have n1 : i ≠ j := by omega
      have n2 : j ≠ i := by omega
      have hwi : IntKind.i64.wrap ((i : Int) + 1) = ((i + 1 : Nat) : Int) := by rw [IntKind.wrap_i64]; omega
      have hwj : IntKind.i64.wrap ((j : Int) - 1) = (j : Int) - 1 := by rw [IntKind.wrap_i64]; omega
      have HS2 : Hid3 (Ro ((wr.setCell ⟨g, i, none⟩ (.int .u8 (f1 j))).setCell ⟨g, j, none⟩ (.int .u8 (f1 i))).drew g n (swF f1 i j) ∧ Sh a b f (swF f1 i j) ∧ Apart (XB g) w ((wr.setCell ⟨g, i, none⟩ (.int .u8 (f1 j))).setCell ⟨g, j, none⟩ (.int .u8 (f1 i))).drew) := ⟨(HS.out.1.swap i j b1 b2).drew, HS.out.2.1.trans (Sh.swap a b f1 i j (by omega) (by omega) (by omega) (by omega)), (HS.out.2.2.trans ((Apart.at (X := XB g) _ g _ _ rfl).trans (Apart.at (X := XB g) _ g _ _ rfl))).drew⟩
      clear HS
      go_wp2_with fail
      go_region
      go_wp2
      go_roundw
      case rel => exact ⟨i + 1, (j : Int) - 1, _, by omega, by omega, by omega, by omega, by go_num, by first | rfl | go_num, HS2⟩
      case measure => simp [intOf]; omega
    · go_wp2
      go_end0
      exact ⟨rfl, f1, HS.out⟩
end Go.Proofs.Ytknmbecabgencaa
