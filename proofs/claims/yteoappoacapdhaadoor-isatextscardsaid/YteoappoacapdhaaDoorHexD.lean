/- Digits in hex as the program reads them. -/
import Derived.Test.YteoappoacapdhaaDoorIndex
import Derived.Test.YteoappoacapdhaaDoorParse
namespace Go.Proofs.YteoappoacapdhaaDoor
open Go.RowKit
set_option linter.unusedVariables false

theorem enc_facts (r : Int) (E : ByteArray) (hE : Utf8.encode r = E) (h : 128 ≤ r) (hv : Lib.validRune r = true) : ∃ (L : Nat) (e : E.size = L + 1), 1 ≤ L ∧ L ≤ 3 ∧ 128 ≤ (E[L]'(by omega)).toNat := by
  have hval : Utf8.valid r = true := by
    simp only [Lib.validRune, decide_eq_true_eq] at hv
    simp only [Utf8.valid]
    simp
    omega
  have hlast : ∀ c : Nat, 128 ≤ (UInt8.ofNat (128 + c % 64)).toNat := fun c => by
    rw [UInt8.toNat_ofNat']
    omega
  have sh : (∃ x, Utf8.encode r = ⟨#[x, UInt8.ofNat (128 + r.toNat % 64)]⟩) ∨ (∃ x y, Utf8.encode r = ⟨#[x, y, UInt8.ofNat (128 + r.toNat % 64)]⟩) ∨ (∃ x y z, Utf8.encode r = ⟨#[x, y, z, UInt8.ofNat (128 + r.toNat % 64)]⟩) := by
    unfold Utf8.encode
    simp only [hval, if_true]
    rw [if_neg (by omega)]
    split
    · exact Or.inl ⟨_, rfl⟩
    · split
      · exact Or.inr (Or.inl ⟨_, _, rfl⟩)
      · exact Or.inr (Or.inr ⟨_, _, _, rfl⟩)
  rw [hE] at sh
  rcases sh with ⟨x, rfl⟩ | ⟨x, y, rfl⟩ | ⟨x, y, z, rfl⟩
  · exact ⟨1, rfl, by omega, by omega, hlast _⟩
  · exact ⟨2, rfl, by omega, by omega, hlast _⟩
  · exact ⟨3, rfl, by omega, by omega, hlast _⟩

theorem idx_high (s : ByteArray) (r : Int) (w : World) (h : 128 ≤ r) (hs : Asc s) (hsz : s.size ≤ 1000) :
    Calls Tryd.prog 79 #[.string s, .int .i32 r] w fun e w' => e = .returned (.int .i64 (-1)) ∧ Below w.heap.size w w' := by
  by_cases h1 : r = 65533
  · subst h1; exact idx_err s w hs hsz
  · have hne : (r == 65533) = false := by rw [beq_eq_false_iff_ne]; exact h1
    cases hv : Lib.validRune r with
    | false => exact idx_bad s r w h hv hne
    | true =>
      obtain ⟨L, e, a1, a2, a3⟩ := enc_facts r _ rfl h hv
      exact idx_good s _ L r w h hv hne rfl e a1 a2 a3 hs hsz

/-- A digit in hex, or none. -/
def hexN (b : UInt8) : Option Int := if 48 ≤ b.toNat ∧ b.toNat ≤ 57 then some ((b.toNat : Int) - 48) else if 97 ≤ b.toNat ∧ b.toNat ≤ 102 then some ((b.toNat : Int) - 87) else none
def hexL : List UInt8 → Int → Option Int
  | [], n => some n
  | b :: l, n => match hexN b with
    | some d => hexL l (n * 16 + d)
    | none => none
def hexO (l : List UInt8) : Option Int := if l = [] ∨ 4 < l.length then none else hexL l 0
theorem idx_hex (b : UInt8) : Lib.indexByte hexT.data.toList b = (hexN b).getD (-1) := by
  have key : ∀ n : Nat, n < 256 → Lib.indexByte hexT.data.toList (UInt8.ofNat n) = (hexN (UInt8.ofNat n)).getD (-1) := by decide +kernel
  have := key b.toNat b.toNat_lt
  rwa [UInt8.ofNat_toNat] at this
theorem hexN_bd (b : UInt8) (d : Int) (h : hexN b = some d) : 0 ≤ d ∧ d ≤ 15 ∧ b.toNat < 128 := by
  unfold hexN at h
  split at h
  · simp at h; omega
  · split at h
    · simp at h; omega
    · cases h
theorem hexT_asc : Asc hexT := by
  intro k h
  have key : ∀ k : Nat, k < 16 → (hexT.data.getD k 0).toNat < 128 := by decide
  have := key k h
  simp only [Array.getD] at this
  rw [dif_pos (show k < hexT.data.size from h)] at this
  exact this

set_option maxHeartbeats 1000000 in
theorem hexd_loop (s : ByteArray) (w : World) (he : s.toList.isEmpty = false) (hs : 0 < s.size) (h4 : (s.size : Int) ≤ 4) :
    Calls Tryd.prog 68 #[.string s] w fun e w' => e = .returned (.tuple #[.int .i64 (optN (hexL s.data.toList 0)), .bool (hexL s.data.toList 0).isSome]) ∧ Below w.heap.size w w' := by
  obtain ⟨O, hO⟩ : ∃ O, hexL s.data.toList 0 = O := ⟨_, rfl⟩
  rw [hO]
  have HO : Hid (hexL s.data.toList 0 = O) := hO
  clear hO
  go_enter Tryd.func68, Tryd.ntmps68
  go_wp2
  go_loopw [4] (fun n w' => ∃ (pos : Nat) (acc : Int) , w' = w.iter s pos ∧ n = .int .i64 acc ∧ 0 ≤ acc ∧ acc < 16 ^ pos ∧ pos ≤ s.size ∧ hexL (s.data.toList.drop pos) acc = O) (fun _ w' => s.size - w'.iterPos w.heap.size)
  case atStart => exact ⟨0, 0, rfl, rfl, by omega, by decide, by omega, HO.out⟩
  case round =>
    obtain ⟨pos, acc, rfl, rfl, ha, ha2, hps, hd⟩ := hrel
    by_cases hp : pos < s.size
    · rw [drop_at s pos hp] at hd
      have h16 : acc ≤ 65535 := by
        have : ∀ k : Nat, k < 4 → (16 : Int) ^ k ≤ 65535 := by decide
        have := this pos (by omega)
        omega
      by_cases hasc : (s[pos]'hp).toNat < 128
      · have hnx : ∀ ty, (Instr.next (.pointer (some ⟨w.heap.size, 0, none⟩)) true ty).run Tryd.prog (w.iter s pos) = .ok (.tuple #[.bool true, .int .i64 pos, .int .i32 ((s[pos]'hp).toNat : Int)]) (w.iter s (pos + 1)) := fun ty => by
          rw [run_next_any w s pos ty hp, decode_ascii s pos hp hasc]
        have cI := fun w => Tryd.strings_IndexRune_ascii hexT ((s[pos]'hp).toNat : Int) w (by omega) (by omega)
        rw [show (((s[pos]'hp).toNat : Nat) : Int).toNat.toUInt8 = s[pos]'hp by simp, idx_hex] at cI
        cases hN : hexN (s[pos]'hp) with
        | none =>
          simp only [hexL, hN] at hd
          rw [hN] at cI
          replace cI : ∀ w, Calls Tryd.prog 79 #[.string ⟨#[48, 49, 50, 51, 52, 53, 54, 55, 56, 57, 97, 98, 99, 100, 101, 102]⟩, .int .i32 ((s[pos]'hp).toNat : Int)] w fun e w' => e = .returned (.int .i64 (-1)) ∧ w' = w := cI
          subst hd
          clear HO hN
          go_wp2_with (go_at_call 79; refine (cI _).mono ?_; rintro e w' ⟨rfl, rfl⟩)
          go_ret2
          exact ⟨rfl, iter_below _ _ _⟩
        | some d =>
          simp only [hexL, hN] at hd
          rw [hN] at cI
          replace cI : ∀ w, Calls Tryd.prog 79 #[.string ⟨#[48, 49, 50, 51, 52, 53, 54, 55, 56, 57, 97, 98, 99, 100, 101, 102]⟩, .int .i32 ((s[pos]'hp).toNat : Int)] w fun e w' => e = .returned (.int .i64 d) ∧ w' = w := cI
          have hdb := hexN_bd _ d hN
          have HD : Hid (hexL (List.drop (pos + 1) s.data.toList) (acc * 16 + d) = O ∧ acc < 16 ^ pos) := ⟨hd, ha2⟩
          clear hd HO hN ha2
          go_wp2_with (go_at_call 79; refine (cI _).mono ?_; rintro e w' ⟨rfl, hw⟩; subst hw)
          go_roundw
          case rel => exact ⟨pos + 1, acc * 16 + d, rfl, by go_num, by omega, by have := HD.out.2; rw [Int.pow_succ]; omega, by omega, HD.out.1⟩
          case measure => simp; omega
      · have hh := decode_high s pos hp (by omega)
        have hnx : ∀ ty, (Instr.next (.pointer (some ⟨w.heap.size, 0, none⟩)) true ty).run Tryd.prog (w.iter s pos) = _ := fun ty => run_next_any w s pos ty hp
        have hN : hexN (s[pos]'hp) = none := by
          cases hN : hexN (s[pos]'hp) with
          | none => rfl
          | some d => exact absurd (hexN_bd _ d hN).2.2 hasc
        simp only [hexL, hN] at hd
        have cI : ∀ w, Calls Tryd.prog 79 #[.string ⟨#[48, 49, 50, 51, 52, 53, 54, 55, 56, 57, 97, 98, 99, 100, 101, 102]⟩, .int .i32 ((Utf8.decode s pos).1 : Int)] w fun e w' => e = .returned (.int .i64 (-1)) ∧ Below w.heap.size w w' := fun w => idx_high hexT _ w (by omega) hexT_asc (by decide)
        subst hd
        clear HO hN ha2
        go_wp2_with (go_at_call 79; refine (cI _).mono ?_; rintro e w' ⟨rfl, hbI⟩)
        go_ret2
        exact ⟨rfl, (iter_below w s (pos + (Utf8.decode s pos).2)).trans (hbI.mono (iter_below w s _).size)⟩
    · rw [List.drop_eq_nil_of_le (by simp; omega)] at hd
      simp only [hexL] at hd
      subst hd
      clear HO ha2
      have hnx : ∀ ty, (Instr.next (.pointer (some ⟨w.heap.size, 0, none⟩)) true ty).run Tryd.prog (w.iter s pos) = _ := fun ty => run_next_end w s pos ty hp
      go_wp2
      go_ret2
      exact ⟨rfl, iter_below _ _ _⟩
theorem hexd_any (s : ByteArray) (w : World) (hsz : s.size ≤ 9223372036854775807) :
    Calls Tryd.prog 68 #[.string s] w fun e w' => e = .returned (.tuple #[.int .i64 (optN (hexO s.data.toList)), .bool (hexO s.data.toList).isSome]) ∧ Below w.heap.size w w' := by
  by_cases h0 : s.size = 0
  · have he := empty_yes s h0
    have e : hexO s.data.toList = none := by
      unfold hexO; rw [if_pos (Or.inl (List.eq_nil_of_length_eq_zero (by rw [← Lib.size_eq]; exact h0)))]
    rw [e]
    go_enter Tryd.func68, Tryd.ntmps68
    go_wp2
    go_ret2
    exact ⟨rfl, Below.refl _ _⟩
  · have hp : 0 < s.size := by omega
    have he := empty_no s hp
    have hne : s.data.toList ≠ [] := by rw [head_at s hp]; simp
    by_cases h1 : 4 < s.size
    · have e : hexO s.data.toList = none := by
        unfold hexO; rw [if_pos (Or.inr (by rw [← Lib.size_eq]; exact h1))]
      rw [e]
      have g3 : (4 : Int) < (s.size : Int) := by omega
      clear e hne h1
      go_enter Tryd.func68, Tryd.ntmps68
      go_wp2
      go_ret2
      exact ⟨rfl, Below.refl _ _⟩
    · have e : hexO s.data.toList = hexL s.data.toList 0 := by
        unfold hexO
        rw [if_neg]
        rintro (g | g)
        · exact hne g
        · rw [← Lib.size_eq] at g; exact h1 g
      rw [e]
      exact hexd_loop s w he hp (by omega)
theorem number_hex (s : ByteArray) (w : World) (hsz : s.size ≤ 9223372036854775807) (hp : 0 < s.size) (h : s[0].toNat = 120) :
    Calls Tryd.prog 57 #[.string s] w fun e w' => e = .returned (.tuple #[.int .i64 (optN (hexO (s.data.toList.drop 1))), .bool (hexO (s.data.toList.drop 1)).isSome]) ∧ Below w.heap.size w w' := by
  have he := empty_no s hp
  have hx : (s.extract 1 s.size).size ≤ s.size := by rw [Lib.size_eq, tail_of, List.length_drop, ← Lib.size_eq]; omega
  have cD := hexd_any (s.extract 1 s.size) w (by omega)
  rw [tail_of] at cD
  have hz : (s[0].toNat : Int) = 120 := by omega
  have h1 : (1 : Int) ≤ (s.size : Int) := by omega
  clear hx
  generalize hexO (s.data.toList.drop 1) = O at *
  generalize optN O = v at *
  generalize O.isSome = f at *
  go_enter Tryd.func57, Tryd.ntmps57
  go_wp2_with (go_at_call 68; refine cD.mono ?_; rintro e w1 ⟨rfl, hb1⟩)
  go_ret2
  exact ⟨rfl, hb1⟩
/-- The number that a text says, or none. -/
def numO : List UInt8 → Option Int
  | [] => none
  | b :: l => if b.toNat = 120 then hexO l else if b.toNat = 39 then signO l else if b.toNat = 45 then minO (digO l) else digO (b :: l)
theorem number_any (s : ByteArray) (w : World) (hsz : s.size ≤ 9223372036854775807) (hT : Tabs w) :
    Calls Tryd.prog 57 #[.string s] w fun e w' => e = .returned (.tuple #[.int .i64 (optN (numO s.data.toList)), .bool (numO s.data.toList).isSome]) ∧ Below w.heap.size w w' := by
  by_cases h0 : s.size = 0
  · have : s.data.toList = [] := List.eq_nil_of_length_eq_zero (by rw [← Lib.size_eq]; exact h0)
    rw [this]
    exact number_none s w h0
  · have hp : 0 < s.size := by omega
    have hl := head_at s hp
    by_cases h1 : s[0].toNat = 120
    · have e : numO s.data.toList = hexO (s.data.toList.drop 1) := by rw [hl, numO, if_pos h1]; simp
      rw [e]; exact number_hex s w hsz hp h1
    by_cases h2 : s[0].toNat = 39
    · have e : numO s.data.toList = signO (s.data.toList.drop 1) := by rw [hl, numO, if_neg h1, if_pos h2]; simp
      rw [e]; exact number_quote s w hsz hp h2 hT
    by_cases h3 : s[0].toNat = 45
    · have e : numO s.data.toList = minO (digO (s.data.toList.drop 1)) := by rw [hl, numO, if_neg h1, if_neg h2, if_pos h3]; simp
      rw [e]; exact number_minus s w hsz hp h3
    · have e : numO s.data.toList = digO s.data.toList := by rw [hl, numO, if_neg h1, if_neg h2, if_neg h3]
      rw [e]; exact number_else s w hsz hp h2 h3 h1
theorem parse_any (s : ByteArray) (w : World) (hsz : s.size ≤ 9223372036854775807) (hT : Tabs w) :
    Calls Tryd.prog 50 #[.string s] w fun e w' => e = .returned (.tuple #[.int .u16 (wordO (numO s.data.toList)), .int .i64 (errO (numO s.data.toList))]) ∧ Below w.heap.size w w' :=
  parse_of s w _ (number_any s w hsz hT)
end Go.Proofs.YteoappoacapdhaaDoor
