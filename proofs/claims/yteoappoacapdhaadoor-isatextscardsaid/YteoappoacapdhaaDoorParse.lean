/- A word as text, as the program reads it. -/
import Derived.Test.YteoappoacapdhaaDoorSign
import Derived.Test.YteoappoacapdhaaDoorHexW
namespace Go.Proofs.YteoappoacapdhaaDoor
open Go.RowKit
set_option linter.unusedVariables false

theorem head_at (s : ByteArray) (h : 0 < s.size) : s.data.toList = s[0] :: s.data.toList.drop 1 := by
  have := drop_at s 0 h
  simpa using this
theorem tail_of (s : ByteArray) : (s.extract 1 s.size).data.toList = s.data.toList.drop 1 := Lib.extract_to_end s 1
theorem u8_eq (b c : UInt8) (h : b.toNat = c.toNat) : b = c := UInt8.toNat_inj.1 h

theorem digits_any (s : ByteArray) (w : World) (hsz : s.size ≤ 9223372036854775807) :
    Calls Tryd.prog 70 #[.string s] w fun e w' => e = .returned (.tuple #[.int .i64 (optN (digO s.data.toList)), .bool (digO s.data.toList).isSome]) ∧ Below w.heap.size w w' := by
  by_cases h0 : s.size = 0
  · have he := empty_yes s h0
    have e : digO s.data.toList = none := by
      unfold digO; rw [if_pos (Or.inl (List.eq_nil_of_length_eq_zero (by rw [← Lib.size_eq]; exact h0)))]
    rw [e]
    go_enter Tryd.func70, Tryd.ntmps70
    go_wp2
    go_ret2
    exact ⟨rfl, Below.refl _ _⟩
  · have hp : 0 < s.size := by omega
    have he := empty_no s hp
    have hl := head_at s hp
    have hne : s.data.toList ≠ [] := by rw [hl]; simp
    by_cases h1 : s[0].toNat = 48 ∧ 1 < s.size
    · obtain ⟨g1, g2⟩ := h1
      have e : digO s.data.toList = none := by
        unfold digO; rw [if_pos (Or.inr ⟨by rw [hl]; simp; exact u8_eq _ _ g1, by rw [← Lib.size_eq]; exact g2⟩)]
      rw [e]
      have hz : ((s[0].toNat : Int) == 48) = true := by rw [g1]; rfl
      have g3 : (1 : Int) < (s.size : Int) := by omega
      clear e hl hne g2
      go_enter Tryd.func70, Tryd.ntmps70
      go_wp2
      go_ret2
      exact ⟨rfl, Below.refl _ _⟩
    · have e : digO s.data.toList = digL s.data.toList 0 := by
        unfold digO
        rw [if_neg]
        rintro (g | ⟨g, g2⟩)
        · exact hne g
        · rw [hl] at g; simp at g; rw [← Lib.size_eq] at g2
          exact h1 ⟨by rw [g]; rfl, g2⟩
      rw [e]
      refine digits_loop s w he hp ?_
      by_cases g : s[0].toNat = 48
      · exact Or.inr ⟨by rw [g]; rfl, by omega⟩
      · exact Or.inl (by rw [beq_eq_false_iff_ne]; omega)

/-- Behind a - . -/
def minO (o : Option Int) : Option Int := match o with
  | some n => if 0 < n then some (-n) else none
  | none => none
theorem digL_bd : ∀ (l : List UInt8) (n m : Int), 0 ≤ n → n ≤ 65535 → digL l n = some m → 0 ≤ m ∧ m ≤ 65535
  | [], n, m, h, h2, e => by simp only [digL, Option.some.injEq] at e; omega
  | b :: l, n, m, h, h2, e => by
    simp only [digL] at e
    split at e
    · split at e
      · exact digL_bd l _ m (by omega) (by omega) e
      · cases e
    · cases e
theorem digO_bd (l : List UInt8) (m : Int) (e : digO l = some m) : 0 ≤ m ∧ m ≤ 65535 := by
  unfold digO at e
  split at e
  · cases e
  · exact digL_bd l 0 m (by omega) (by omega) e

theorem number_minus (s : ByteArray) (w : World) (hsz : s.size ≤ 9223372036854775807) (hp : 0 < s.size) (h : s[0].toNat = 45) :
    Calls Tryd.prog 57 #[.string s] w fun e w' => e = .returned (.tuple #[.int .i64 (optN (minO (digO (s.data.toList.drop 1)))), .bool (minO (digO (s.data.toList.drop 1))).isSome]) ∧ Below w.heap.size w w' := by
  have he := empty_no s hp
  have hx : (s.extract 1 s.size).size ≤ s.size := by rw [Lib.size_eq, tail_of, List.length_drop, ← Lib.size_eq]; omega
  have cD := fun w => digits_any (s.extract 1 s.size) w (by omega)
  rw [tail_of] at cD
  have hz : (s[0].toNat : Int) = 45 := by omega
  have h1 : (1 : Int) ≤ (s.size : Int) := by omega
  clear hx
  have hb := digO_bd (s.data.toList.drop 1)
  generalize digO (s.data.toList.drop 1) = O at *
  cases O with
  | none =>
    replace cD : ∀ w, Calls Tryd.prog 70 #[.string (s.extract 1 s.size)] w fun e w' => e = .returned (.tuple #[.int .i64 0, .bool false]) ∧ Below w.heap.size w w' := cD
    show Calls Tryd.prog 57 #[.string s] w fun e w' => e = .returned (.tuple #[.int .i64 0, .bool false]) ∧ Below w.heap.size w w'
    go_enter Tryd.func57, Tryd.ntmps57
    go_wp2_with (go_at_call 70; refine (cD _).mono ?_; rintro e w1 ⟨rfl, hb1⟩)
    go_ret2
    exact ⟨rfl, hb1⟩
  | some n =>
    have hn := hb n rfl
    clear hb
    replace cD : ∀ w, Calls Tryd.prog 70 #[.string (s.extract 1 s.size)] w fun e w' => e = .returned (.tuple #[.int .i64 n, .bool true]) ∧ Below w.heap.size w w' := cD
    by_cases g : 0 < n
    · have e : minO (some n) = some (-n) := by simp only [minO]; rw [if_pos g]
      rw [e]
      show Calls Tryd.prog 57 #[.string s] w fun e w' => e = .returned (.tuple #[.int .i64 (-n), .bool true]) ∧ Below w.heap.size w w'
      have hd : decide (0 < n) = true := decide_eq_true g
      clear e g
      go_enter Tryd.func57, Tryd.ntmps57
      go_wp2_with (go_at_call 70; refine (cD _).mono ?_; rintro e w1 ⟨rfl, hb1⟩)
      go_ret2
      exact ⟨rfl, hb1⟩
    · have e : minO (some n) = none := by simp only [minO]; rw [if_neg g]
      have g0 : n = 0 := by omega
      subst g0
      rw [e]
      show Calls Tryd.prog 57 #[.string s] w fun e w' => e = .returned (.tuple #[.int .i64 0, .bool false]) ∧ Below w.heap.size w w'
      clear e g
      go_enter Tryd.func57, Tryd.ntmps57
      go_wp2_with (go_at_call 70; refine (cD _).mono ?_; rintro e w1 ⟨rfl, hb1⟩)
      go_ret2
      exact ⟨rfl, hb1⟩

theorem number_quote (s : ByteArray) (w : World) (hsz : s.size ≤ 9223372036854775807) (hp : 0 < s.size) (h : s[0].toNat = 39) (hT : Tabs w) :
    Calls Tryd.prog 57 #[.string s] w fun e w' => e = .returned (.tuple #[.int .i64 (optN (signO (s.data.toList.drop 1))), .bool (signO (s.data.toList.drop 1)).isSome]) ∧ Below w.heap.size w w' := by
  have he := empty_no s hp
  have hx : (s.extract 1 s.size).size ≤ s.size := by rw [Lib.size_eq, tail_of, List.length_drop, ← Lib.size_eq]; omega
  have cD := sign_any (s.extract 1 s.size) w (by omega) hT
  rw [tail_of] at cD
  have hz : (s[0].toNat : Int) = 39 := by omega
  have h1 : (1 : Int) ≤ (s.size : Int) := by omega
  clear hx
  generalize signO (s.data.toList.drop 1) = O at *
  generalize optN O = v at *
  generalize O.isSome = f at *
  go_enter Tryd.func57, Tryd.ntmps57
  go_wp2_with (go_at_call 69; refine cD.mono ?_; rintro e w1 ⟨rfl, hb1⟩)
  go_ret2
  exact ⟨rfl, hb1⟩

theorem number_none (s : ByteArray) (w : World) (h0 : s.size = 0) :
    Calls Tryd.prog 57 #[.string s] w fun e w' => e = .returned (.tuple #[.int .i64 0, .bool false]) ∧ Below w.heap.size w w' := by
  have he := empty_yes s h0
  go_enter Tryd.func57, Tryd.ntmps57
  go_wp2
  go_ret2
  exact ⟨rfl, Below.refl _ _⟩

theorem number_else (s : ByteArray) (w : World) (hsz : s.size ≤ 9223372036854775807) (hp : 0 < s.size) (h1 : s[0].toNat ≠ 39) (h2 : s[0].toNat ≠ 45) (h3 : s[0].toNat ≠ 120) :
    Calls Tryd.prog 57 #[.string s] w fun e w' => e = .returned (.tuple #[.int .i64 (optN (digO s.data.toList)), .bool (digO s.data.toList).isSome]) ∧ Below w.heap.size w w' := by
  have he := empty_no s hp
  have cD := digits_any s w hsz
  have z1 : ((s[0].toNat : Int) == 39) = false := by rw [beq_eq_false_iff_ne]; omega
  have z2 : ((s[0].toNat : Int) == 45) = false := by rw [beq_eq_false_iff_ne]; omega
  have z3 : ((s[0].toNat : Int) == 120) = false := by rw [beq_eq_false_iff_ne]; omega
  clear h1 h2 h3
  generalize digO s.data.toList = O at *
  generalize optN O = v at *
  generalize O.isSome = f at *
  go_enter Tryd.func57, Tryd.ntmps57
  go_wp2_with (go_at_call 70; refine cD.mono ?_; rintro e w1 ⟨rfl, hb1⟩)
  go_ret2
  exact ⟨rfl, hb1⟩

/-- From a number, or none, to the word, or the error. -/
def wordO (o : Option Int) : Int := match o with
  | some n => if -32768 ≤ n ∧ n ≤ 65535 then n % 65536 else 0
  | none => 0
def errO (o : Option Int) : Int := match o with
  | some n => if -32768 ≤ n ∧ n ≤ 65535 then 0 else 3
  | none => 3
theorem parse_of (s : ByteArray) (w : World) (o : Option Int)
    (c : Calls Tryd.prog 57 #[.string s] w fun e w' => e = .returned (.tuple #[.int .i64 (optN o), .bool o.isSome]) ∧ Below w.heap.size w w') :
    Calls Tryd.prog 50 #[.string s] w fun e w' => e = .returned (.tuple #[.int .u16 (wordO o), .int .i64 (errO o)]) ∧ Below w.heap.size w w' := by
  cases o with
  | none =>
    replace c : Calls Tryd.prog 57 #[.string s] w fun e w' => e = .returned (.tuple #[.int .i64 0, .bool false]) ∧ Below w.heap.size w w' := c
    show Calls Tryd.prog 50 #[.string s] w fun e w' => e = .returned (.tuple #[.int .u16 0, .int .i64 3]) ∧ Below w.heap.size w w'
    go_enter Tryd.func50, Tryd.ntmps50
    go_wp2_with (go_at_call 57; refine c.mono ?_; rintro e w1 ⟨rfl, hb1⟩)
    go_ret2
    exact ⟨rfl, hb1⟩
  | some n =>
    replace c : Calls Tryd.prog 57 #[.string s] w fun e w' => e = .returned (.tuple #[.int .i64 n, .bool true]) ∧ Below w.heap.size w w' := c
    by_cases h : -32768 ≤ n ∧ n ≤ 65535
    · have e1 : wordO (some n) = n % 65536 := by simp only [wordO]; rw [if_pos h]
      have e2 : errO (some n) = 0 := by simp only [errO]; rw [if_pos h]
      rw [e1, e2]
      have cF := fun w => from_yes n w h.1 h.2
      clear e1 e2
      go_enter Tryd.func50, Tryd.ntmps50
      go_wp2_with (first | (go_at_call 57; refine c.mono ?_; rintro e w1 ⟨rfl, hb1⟩) | (go_at_call 58; refine (cF _).mono ?_; rintro e w2 ⟨rfl, rfl⟩))
      go_ret2
      exact ⟨rfl, hb1⟩
    · have e1 : wordO (some n) = 0 := by simp only [wordO]; rw [if_neg h]
      have e2 : errO (some n) = 3 := by simp only [errO]; rw [if_neg h]
      rw [e1, e2]
      have cF := fun w => from_no n w (by omega)
      clear e1 e2 h
      go_enter Tryd.func50, Tryd.ntmps50
      go_wp2_with (first | (go_at_call 57; refine c.mono ?_; rintro e w1 ⟨rfl, hb1⟩) | (go_at_call 58; refine (cF _).mono ?_; rintro e w2 ⟨rfl, rfl⟩))
      go_ret2
      exact ⟨rfl, hb1⟩
end Go.Proofs.YteoappoacapdhaaDoor
