/- The law WordSigns: its walk. -/
import Derived.Test.YteoappoacapdhaaDoorRefP
import Derived.Test.YteoappoacapdhaaDoorLive
namespace Go.Proofs.YteoappoacapdhaaDoor
open Go.RowKit
set_option linter.unusedVariables false

theorem hexN_B (d : Int) (h : 0 ≤ d) (h2 : d < 16) : hexN (hexB d) = some d := by
  have key : ∀ k : Nat, k < 16 → hexN (hexB (k : Int)) = some (k : Int) := by decide
  have := key d.toNat (by omega)
  rwa [show ((d.toNat : Nat) : Int) = d by omega] at this
theorem hexB_dig (d : Int) (h : 0 ≤ d) (h2 : d < 10) : ((hexB d).toNat : Int) = 48 + d := by
  have key : ∀ k : Nat, k < 10 → ((hexB (k : Int)).toNat : Int) = 48 + (k : Int) := by decide
  have := key d.toNat (by omega)
  rwa [show ((d.toNat : Nat) : Int) = d by omega] at this
theorem hexO_V (a : Int) (ha : 0 ≤ a) (ha2 : a ≤ 65535) : hexO [hexB (a / 4096), hexB (a / 256 % 16), hexB (a / 16 % 16), hexB (a % 16)] = some a := by
  unfold hexO
  rw [if_neg (by simp)]
  simp only [hexL, hexN_B _ (show 0 ≤ a / 4096 by omega) (by omega), hexN_B _ (show 0 ≤ a / 256 % 16 by omega) (by omega), hexN_B _ (show 0 ≤ a / 16 % 16 by omega) (by omega), hexN_B _ (show 0 ≤ a % 16 by omega) (by omega)]
  congr 1
  omega
/-- Digits that say a number: no nought ahead. -/
def Says (l : List UInt8) (a : Int) : Prop := decL l 0 = some a ∧ l ≠ [] ∧ (l = [48] ∨ l.head? ≠ some 48)
theorem numO_says (l : List UInt8) (a : Int) (h : Says l a) (ha2 : a ≤ 65535) : numO l = some a := by
  obtain ⟨h1, h2, h3⟩ := h
  match l, h2 with
  | b :: t, _ =>
    have hb : 48 ≤ b.toNat ∧ b.toNat ≤ 57 := by
      simp only [decL] at h1
      split at h1
      · assumption
      · cases h1
    simp only [numO]
    rw [if_neg (by omega), if_neg (by omega), if_neg (by omega)]
    unfold digO
    rw [if_neg, digL_dec _ 0 (by omega) (by omega), h1]
    · show (if a ≤ 65535 then some a else none) = some a
      rw [if_pos ha2]
    · rintro (g | ⟨g, g2⟩)
      · cases g
      · rcases h3 with h3 | h3
        · rw [h3] at g2; simp at g2
        · exact h3 g

theorem push_front (c : UInt8) (s : ByteArray) : ((⟨#[c]⟩ : ByteArray) ++ s).data.toList = c :: s.data.toList ∧ ((⟨#[c]⟩ : ByteArray) ++ s).size = s.size + 1 := by
  have e : ((⟨#[c]⟩ : ByteArray) ++ s).data.toList = c :: s.data.toList := by simp
  exact ⟨e, by rw [Lib.size_eq, e, Lib.size_eq]; rfl⟩
theorem digits_step (s : ByteArray) (x a : Int) (f : Nat) (hx : 0 ≤ x) (hx2 : x ≤ 65535) (hs : s.size + f ≤ 500) (hgo : 0 < x ∨ s.size = 0)
    (H : x < 10 ^ f ∧ decL s.data.toList x = some a ∧ (s.size = 0 → x = a) ∧ (x = 0 → s.size ≠ 0 → (s.data.toList = [48] ∨ s.data.toList.head? ≠ some 48))) :
    ∃ (t : ByteArray) (y : Int) (g : Nat), 0 ≤ y ∧ y ≤ 65535 ∧ y < 10 ^ g ∧ t.size + g ≤ 500 ∧ Value.string (hexT.extract (x % 10).toNat (x % 10 + 1).toNat ++ s) = .string t ∧ Value.int IntKind.i64 (x / 10) = .int .i64 y ∧ decL t.data.toList y = some a ∧ (t.size = 0 → y = a) ∧ (y = 0 → t.size ≠ 0 → (t.data.toList = [48] ∨ t.data.toList.head? ≠ some 48)) := by
  obtain ⟨hf, hd, h0, hh⟩ := H
  rw [hexB_cut (x % 10) (by omega) (by omega)]
  obtain ⟨p1, p2⟩ := push_front (hexB (x % 10)) s
  have hb := hexB_dig (x % 10) (by omega) (by omega)
  have hdec : decL (hexB (x % 10) :: s.data.toList) (x / 10) = some a := by
    simp only [decL]
    rw [if_pos (by omega), show x / 10 * 10 + (((hexB (x % 10)).toNat : Int) - 48) = x by omega]
    exact hd
  have hlast : x / 10 = 0 → ((⟨#[hexB (x % 10)]⟩ : ByteArray) ++ s).size ≠ 0 → (((⟨#[hexB (x % 10)]⟩ : ByteArray) ++ s).data.toList = [48] ∨ ((⟨#[hexB (x % 10)]⟩ : ByteArray) ++ s).data.toList.head? ≠ some 48) := by
    intro hy _
    rw [p1]
    by_cases hx0 : 0 < x
    · refine Or.inr fun e => ?_
      have := Option.some.inj e
      rw [this] at hb
      have h48 : ((48 : UInt8).toNat : Int) = 48 := rfl
      omega
    · have hs0 : s.data.toList = [] := List.eq_nil_of_length_eq_zero (by rw [← Lib.size_eq]; omega)
      have hx00 : x = 0 := by omega
      subst hx00
      rw [hs0]
      exact Or.inl rfl
  cases f with
  | zero =>
    have hx0 : x = 0 := by simp at hf; omega
    exact ⟨_, x / 10, 0, by omega, by omega, by simp; omega, by omega, rfl, rfl, by rw [p1]; exact hdec, fun h => by omega, hlast⟩
  | succ f =>
    exact ⟨_, x / 10, f, by omega, by omega, by rw [Int.pow_succ] at hf; omega, by omega, rfl, rfl, by rw [p1]; exact hdec, fun h => by omega, hlast⟩

set_option maxHeartbeats 1000000 in
theorem digits_says (a : Int) (w : World) (ha : 0 ≤ a) (ha2 : a ≤ 65535) :
    Calls Tryd.prog 42 #[.int .u16 a] w fun e w' => (∃ s : ByteArray, e = .returned (.string s) ∧ Says s.data.toList a ∧ s.size ≤ 1000) ∧ w' = w := by
  go_enter Tryd.func42, Tryd.ntmps42
  go_wp2
  go_loop [3, 4] (fun o i => ∃ (s : ByteArray) (x : Int) (f : Nat), 0 ≤ x ∧ x ≤ 65535 ∧ x < 10 ^ f ∧ s.size + f ≤ 500 ∧ o = .string s ∧ i = .int .i64 x ∧ decL s.data.toList x = some a ∧ (s.size = 0 → x = a) ∧ (x = 0 → s.size ≠ 0 → (s.data.toList = [48] ∨ s.data.toList.head? ≠ some 48))) (fun o i => (intOf i).toNat + (match o with | .string s => if s.size = 0 then 1 else 0 | _ => 0))
  case atStart => exact ⟨⟨#[]⟩, a, 5, ha, ha2, by simp; omega, by decide, rfl, rfl, rfl, fun _ => rfl, fun _ h => absurd rfl h⟩
  case round =>
    obtain ⟨s, x, f, hx, hx2, hf, hs, rfl, rfl, hd, h0, hh⟩ := hrel
    have HX : Hid (x < 10 ^ f ∧ decL s.data.toList x = some a ∧ (s.size = 0 → x = a) ∧ (x = 0 → s.size ≠ 0 → (s.data.toList = [48] ∨ s.data.toList.head? ≠ some 48))) := ⟨hf, hd, h0, hh⟩
    clear hf hd h0 hh
    by_cases hgo : 0 < x ∨ s.size = 0
    · have ht : (0 < x) ∨ (¬ 0 < x ∧ s.toList.isEmpty = true) := by
        by_cases h : 0 < x
        · exact Or.inl h
        · exact Or.inr ⟨h, empty_yes s (by omega)⟩
      rcases ht with ht | ⟨ht, he⟩
      all_goals
        go_wp2
        refine ⟨digits_step s x a f hx hx2 hs hgo HX.out, ?_⟩
        have hp := (push_front (hexB (x % 10)) s).2
        have hm : (hexT.extract (x % 10).toNat (x % 10 + 1).toNat ++ s).size = s.size + 1 := by rw [hexB_cut (x % 10) (by omega) (by omega)]; exact hp
        show (intOf (Value.int IntKind.i64 (x / 10))).toNat + (if (hexT.extract (x % 10).toNat (x % 10 + 1).toNat ++ s).size = 0 then 1 else 0) < (intOf (Value.int IntKind.i64 x)).toNat + (if s.size = 0 then 1 else 0)
        rw [if_neg (by omega)]
        simp only [intOf]
        split <;> omega
    · have hx0 : x = 0 := by omega
      have he := empty_no s (by omega)
      subst hx0
      go_wp2
      go_ret
      exact ⟨⟨s, rfl, ⟨HX.out.2.1, fun e => hgo (Or.inr (by rw [Lib.size_eq, e]; rfl)), HX.out.2.2.2 trivial (by omega)⟩, by omega⟩, rfl⟩

end Go.Proofs.YteoappoacapdhaaDoor
