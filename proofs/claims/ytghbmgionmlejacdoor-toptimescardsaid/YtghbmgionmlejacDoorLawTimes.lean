/- The law TopTimes: its walk. -/
import Derived.Test.YtghbmgionmlejacDoorLawSigns
namespace Go.Proofs.YtghbmgionmlejacDoor
open Go.RowKit
set_option linter.unusedVariables false

theorem parse_hexV (a : Int) (w : World) (ha : 0 ≤ a) (ha2 : a ≤ 65535) (hT : Tabs w) :
    Calls Tryd.prog 17 #[.string ((⟨#[120]⟩ : ByteArray) ++ hexV a)] w (fun e w'' => e = .returned (.tuple #[.int .u16 a, .int .i64 0]) ∧ Below w.heap.size w w'') := by
  have p := (push_front 120 (hexV a))
  have hl : ((⟨#[120]⟩ : ByteArray) ++ hexV a).data.toList = [120, hexB (a / 4096), hexB (a / 256 % 16), hexB (a / 16 % 16), hexB (a % 16)] := by rw [p.1]; rfl
  have h := parse_any ((⟨#[120]⟩ : ByteArray) ++ hexV a) w (by rw [p.2]; show 4 + 1 ≤ _; decide) hT
  have hn : numO ((⟨#[120]⟩ : ByteArray) ++ hexV a).data.toList = some a := by
    rw [hl]
    simp only [numO]
    rw [if_pos (by decide)]
    exact hexO_V a ha ha2
  rw [hn] at h
  simp only [wordO, errO] at h
  rw [if_pos (by omega), if_pos (by omega), show a % 65536 = a by omega] at h
  exact h

set_option maxHeartbeats 1000000 in
theorem times_walk (a n : Int) (w : World) (ha : 0 ≤ a) (ha2 : a ≤ 65535) (hn : 0 ≤ n) (hn2 : n ≤ 255) (hT : Tabs w) :
    Calls Tryd.prog 4 #[.int .u16 a, .int .u8 n] w fun e w' => e = .returned (.bool true) ∧ Below w.heap.size w w' := by
  have cM := fun w => mul_any a n w ha ha2 hn (by omega)
  have hb : 0 ≤ loV a n ∧ loV a n ≤ 65535 := by unfold loV; omega
  have cH := fun w => hex_any (loV a n) w hb.1 hb.2
  have cP : ∀ w', Below w.heap.size w w' → Calls Tryd.prog 17 #[.string ((⟨#[120]⟩ : ByteArray) ++ hexV (loV a n))] w' (fun e w'' => e = .returned (.tuple #[.int .u16 (loV a n), .int .i64 0]) ∧ Below w'.heap.size w' w'') := fun w' h => parse_hexV (loV a n) w' hb.1 hb.2 (hT.later h)
  have c7 := fun w => ones_any 7 w (by decide) (by decide)
  rw [show onesV 7 = 3 by decide] at c7
  have c255 := fun w => hex_any 255 w (by decide) (by decide)
  rw [show hexV 255 = ⟨#[48, 48, 102, 102]⟩ by decide] at c255
  have hxs : (hexV (loV a n)).size ≤ 100 := by show 4 ≤ 100; decide
  generalize hexV (loV a n) = hx at *
  clear hT hb
  go_enter Tryd.func4, Tryd.ntmps4
  go_wp2
  go_loop [5, 6, 7] (fun h l i => ∃ k : Nat, (k : Int) ≤ n ∧ i = .int .i64 k ∧ l = .int .u16 (loV a k) ∧ h = .int .u16 (hiV a k)) (fun _ _ i => 256 - (intOf i).toNat)
  case atStart => exact ⟨0, by omega, rfl, by simp [loV], by simp [hiV]⟩
  case round =>
    obtain ⟨k, hk, rfl, rfl, rfl⟩ := hrel
    have hm := mul_bd ha ha2 (show (0 : Int) ≤ (k : Int) by omega) (show (k : Int) ≤ 65535 by omega)
    have hl : 0 ≤ loV a k ∧ loV a k ≤ 65535 := by unfold loV; omega
    have hh : 0 ≤ hiV a k ∧ hiV a k ≤ 65535 := by unfold hiV; omega
    by_cases hlt : (k : Int) < n
    · have cA := fun w => add_any (loV a k) a w hl.1 hl.2 ha ha2
      have cB := fun w => add_any (hiV a k) 1 w hh.1 hh.2 (by decide) (by decide)
      have es : a * ((k + 1 : Nat) : Int) = a * k + a := by rw [Int.natCast_add, Int.mul_add]; simp
      have HS : Hid (a * ((k + 1 : Nat) : Int) = a * k + a) := es
      clear es
      cases hc : carryV (loV a k) a with
      | true =>
        rw [hc] at cA
        have HC : Hid (65536 ≤ loV a k + a) := by show _ ≤ _; unfold carryV at hc; exact of_decide_eq_true hc
        clear hc
        go_wp2_with (first | (go_at_call_of 15 (loV a k); refine (cA _).mono ?_; rintro e w' ⟨rfl, rfl⟩) | (go_at_call 15; refine (cB _).mono ?_; rintro e w' ⟨rfl, rfl⟩))
        go_round
        case rel =>
          have e := HS.out; have c := HC.out
          refine ⟨k + 1, by omega, by go_num, ?_, ?_⟩
          · congr 1; unfold addV loV at *; rw [e]; omega
          · congr 1; unfold addV hiV loV at *; rw [e]; omega
        case measure => simp [intOf]; omega
      | false =>
        rw [hc] at cA
        have HC : Hid (loV a k + a < 65536) := by show _ < _; unfold carryV at hc; have := of_decide_eq_false hc; omega
        clear hc
        go_wp2_with (first | (go_at_call_of 15 (loV a k); refine (cA _).mono ?_; rintro e w' ⟨rfl, rfl⟩) | (go_at_call 15; refine (cB _).mono ?_; rintro e w' ⟨rfl, rfl⟩))
        go_round
        case rel =>
          have e := HS.out; have c := HC.out
          refine ⟨k + 1, by omega, by go_num, ?_, ?_⟩
          · congr 1; unfold addV loV at *; rw [e]; omega
          · congr 1; unfold hiV loV at *; rw [e]; omega
        case measure => simp [intOf]; omega
    · have hkn : (k : Int) = n := by omega
      subst hkn
      clear hlt
      go_wp2_with fail
      refine (cM _).mono fun e y1 ⟨he, hw⟩ => ?_
      subst he; subst hw
      go_wp2_with fail
      refine (cH _).mono fun e y2 ⟨he, hb2⟩ => ?_
      subst he
      go_wp2_with fail
      refine (cP y2 hb2).mono fun e y3 ⟨he, hb3⟩ => ?_
      subst he
      have k3 := hb2.trans (hb3.mono hb2.size)
      go_wp2_with fail
      refine (c7 _).mono fun e y4 ⟨he, hw⟩ => ?_
      subst he; subst hw
      go_wp2_with fail
      refine (c255 _).mono fun e y5 ⟨he, hb5⟩ => ?_
      subst he
      go_wp2
      go_ret
      exact ⟨rfl, k3.trans (hb5.mono k3.size)⟩
end Go.Proofs.YtghbmgionmlejacDoor
