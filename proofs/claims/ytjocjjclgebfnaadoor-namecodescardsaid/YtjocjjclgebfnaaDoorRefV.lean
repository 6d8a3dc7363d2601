/- The document's rights as letters, and the rights that letters say. -/
import Derived.Test.YtjocjjclgebfnaaDoorNameR
namespace Go.Proofs.YtjocjjclgebfnaaDoor
open Go.RowKit Go.Shelf
set_option linter.unusedVariables false

theorem bit_rem (r : BitVec 8) (k : Nat) (hk : k < 5) : (((r.toNat : Int) / 2 ^ k).tmod 2 == 1) = r.getLsbD k := by
  have e1 : ((r.toNat : Int) / 2 ^ k) = ((r.toNat / 2 ^ k : Nat) : Int) := by push_cast; rfl
  have key : ∀ r : BitVec 8, ∀ k : Fin 5, ((((r.toNat / 2 ^ k.val : Nat) : Int)).tmod 2 == 1) = r.getLsbD k.val := by decide +kernel
  rw [e1]
  exact key r ⟨k, hk⟩
theorem letters_nil (r : BitVec 8) (h : r.toNat < 32) : lettersK r 5 = [] ↔ r = 0#8 := by
  have key : ∀ a : Fin 32, lettersK (BitVec.ofNat 8 a.val) 5 = [] ↔ BitVec.ofNat 8 a.val = 0#8 := by decide +kernel
  have := key ⟨r.toNat, h⟩
  simpa using this
theorem five_cut (k : Nat) (hk : k < 5) : fiveS.extract k (k + 1) = ⟨#[fiveL.getD k 0]⟩ := by
  have key : ∀ k : Fin 5, fiveS.extract k.val (k.val + 1) = ⟨#[fiveL.getD k.val 0]⟩ := by decide
  exact key ⟨k, hk⟩
theorem push_text (l m : List UInt8) : (⟨l.toArray⟩ : ByteArray) ++ (⟨m.toArray⟩ : ByteArray) = ⟨(l ++ m).toArray⟩ := by
  apply ByteArray.ext
  apply Array.toList_inj.1
  simp [ByteArray.data_append]
set_option maxHeartbeats 2000000 in
theorem rrights_in (r : BitVec 8) (X : List UInt8) (w : World) (h31 : (r.toNat : Int) ≤ 31) (HX : Hid (X = if r = 0#8 then [45] else lettersK r 5)) :
    Calls Tryd.prog 32 #[.int .u8 r.toNat] w fun e w' => e = .returned (textV (X, 0)) ∧ w' = w := by
  have h31' : ¬ (31 : Int) < (r.toNat : Int) := by omega
  have h32 : r.toNat < 32 := by omega
  have HN := letters_nil r h32
  have HN' : Hid (lettersK r 5 = [] ↔ r = 0#8) := HN
  clear HN
  go_enter Tryd.func32, Tryd.ntmps32
  go_wp2
  go_loopw [4, 5] (fun v i W => ∃ k : Nat, k ≤ 5 ∧ v = .string ⟨(lettersK r k).toArray⟩ ∧ i = .int .i64 k ∧ W = w) (fun _ i _ => 5 - (intOf i).toNat)
  case atStart => exact ⟨0, by omega, rfl, rfl, rfl⟩
  case round =>
    obtain ⟨k, hk, rfl, rfl, rfl⟩ := hrel
    have hlen := letters_len r k
    by_cases hp : k < 5
    · have hp' : (k : Int) < 5 := by omega
      have hb := bit_rem r k hp
      cases hbit : r.getLsbD k with
      | true =>
        rw [hbit] at hb
        have HL : Hid (lettersK r (k + 1) = lettersK r k ++ [fiveL.getD k 0]) := by
          show _ = _
          rw [lettersK, hbit, if_pos rfl]
        have HC : Hid (fiveS.extract k (k + 1) = ⟨#[fiveL.getD k 0]⟩) := five_cut k hp
        clear hbit
        go_wp2
        go_roundw
        case rel =>
          refine ⟨k + 1, by omega, ?_, by go_num, trivial⟩
          show Value.string ((⟨(lettersK r k).toArray⟩ : ByteArray) ++ fiveS.extract k (k + 1)) = _
          rw [HC.out, HL.out]
          exact congrArg Value.string (push_text _ [fiveL.getD k 0])
        case measure => simp [intOf]; omega
      | false =>
        rw [hbit] at hb
        have HL : Hid (lettersK r (k + 1) = lettersK r k) := by
          show _ = _
          rw [lettersK, hbit, if_neg (by simp), List.append_nil]
        clear hbit
        go_wp2
        go_roundw
        case rel => exact ⟨k + 1, by omega, by rw [HL.out], by go_num, trivial⟩
        case measure => simp [intOf]; omega
    · obtain rfl : k = 5 := by omega
      by_cases h0 : r = 0#8
      · have e := HN'.out.2 h0
        have hX : X = [45] := by rw [HX.out, if_pos h0]
        subst hX
        clear HX HN' h0
        generalize lettersK r 5 = L at *
        subst e
        go_wp2
        go_ret2
        exact ⟨rfl, rfl⟩
      · have e : ¬ lettersK r 5 = [] := fun h => h0 (HN'.out.1 h)
        have hX : Hid (X = lettersK r 5) := by show _ = _; rw [HX.out, if_neg h0]
        clear HX HN' h0
        have hb : (lettersK r 5).isEmpty = false := by
          cases h : lettersK r 5 with
          | nil => exact absurd h e
          | cons a t => rfl
        generalize lettersK r 5 = L at *
        clear e
        go_wp2
        go_ret2
        exact ⟨by rw [hX.out]; rfl, rfl⟩
theorem rrights_any (r : BitVec 8) (w : World) :
    Calls Tryd.prog 32 #[.int .u8 r.toNat] w fun e w' => e = .returned (textV (rightsO r)) ∧ w' = w := by
  unfold rightsO
  by_cases h31 : (31 : Int) < r.toNat
  · rw [if_pos h31]
    go_enter Tryd.func32, Tryd.ntmps32
    go_wp2
    go_ret2
    exact ⟨rfl, rfl⟩
  · rw [if_neg h31]
    by_cases h0 : r = 0#8
    · rw [if_pos h0]
      exact rrights_in r [45] w (by omega) (by show _ = _; rw [if_pos h0])
    · rw [if_neg h0]
      exact rrights_in r (lettersK r 5) w (by omega) (by show _ = _; rw [if_neg h0])

set_option maxHeartbeats 2000000 in
theorem rread_in (s : ByteArray) (O : BitVec 8 × Int) (w : World) (HO : Hid (O = readO s.data.toList)) :
    Calls Tryd.prog 35 #[.string s] w fun e w' => e = .returned (bitsV O) ∧ w' = w := by
  go_enter Tryd.func35, Tryd.ntmps35
  go_wp2
  go_loopw [4] (fun i W => ∃ k : Nat, k ≤ 32 ∧ i = .int .i64 k ∧ W = w ∧ ∀ j, j < k → (rightsO (BitVec.ofNat 8 j)).1 ≠ s.data.toList) (fun i _ => 32 - (intOf i).toNat)
  case atStart => exact ⟨0, by omega, rfl, rfl, fun j h => by omega⟩
  case round =>
    obtain ⟨k, hk, rfl, rfl, hno⟩ := hrel
    by_cases hp : k < 32
    · have hp' : (k : Int) ≤ 31 := by omega
      have ek : ((BitVec.ofNat 8 k).toNat : Int) = (k : Int) := by rw [BitVec.toNat_ofNat]; omega
      have cR := fun w => rrights_any (BitVec.ofNat 8 k) w
      rw [ek] at cR
      unfold textV at cR
      have hwr : IntKind.u8.wrap (k : Int) = (k : Int) := by
        rw [← ek, wrap8]
      by_cases he : (rightsO (BitVec.ofNat 8 k)).1 = s.data.toList
      · have hO := readO_hit (BitVec.ofNat 8 k) (by rw [BitVec.toNat_ofNat]; omega)
        rw [he] at hO
        have hO2 : O = (BitVec.ofNat 8 k, 0) := HO.out.trans hO
        subst hO2
        clear HO
        have hb : ((⟨(rightsO (BitVec.ofNat 8 k)).1.toArray⟩ : ByteArray).toList == s.toList) = true := by
          rw [he]
          exact beq_iff_eq.2 rfl
        generalize (⟨(rightsO (BitVec.ofNat 8 k)).1.toArray⟩ : ByteArray) = X at *
        generalize (rightsO (BitVec.ofNat 8 k)).2 = Y at *
        have E : Hid (bitsV (BitVec.ofNat 8 k, 0) = .tuple #[.int .u8 (k : Int), .int .i64 0]) := by
          show Value.tuple #[.int .u8 (((BitVec.ofNat 8 k).toNat : Nat) : Int), .int .i64 0] = _
          rw [ek]
        clear hno he hO ek
        go_wp2_with (go_at_call 32; refine (cR _).mono ?_; rintro e w' ⟨rfl, hw'⟩; subst hw')
        go_ret2
        exact ⟨by rw [E.out]; rfl, rfl⟩
      · have hb : ((⟨(rightsO (BitVec.ofNat 8 k)).1.toArray⟩ : ByteArray).toList == s.toList) = false := by
          rw [beq_eq_false_iff_ne, Lib.toList_data, Lib.toList_data]
          exact he
        have HN : Hid (∀ j, j < k + 1 → (rightsO (BitVec.ofNat 8 j)).1 ≠ s.data.toList) := by
          intro j hj
          by_cases hjk : j = k
          · subst hjk; exact he
          · exact hno j (by omega)
        clear hno he
        generalize (⟨(rightsO (BitVec.ofNat 8 k)).1.toArray⟩ : ByteArray) = X at *
        generalize (rightsO (BitVec.ofNat 8 k)).2 = Y at *
        clear ek
        go_wp2_with (go_at_call 32; refine (cR _).mono ?_; rintro e w' ⟨rfl, hw'⟩; subst hw')
        go_roundw
        case rel => exact ⟨k + 1, by omega, by go_num, trivial, HN.out⟩
        case measure => simp [intOf]; omega
    · obtain rfl : k = 32 := by omega
      have hO2 : O = (0#8, 3) := HO.out.trans (readO_miss hno)
      subst hO2
      clear hno HO
      go_wp2
      go_ret2
      exact ⟨rfl, rfl⟩
theorem rread_any (s : ByteArray) (w : World) :
    Calls Tryd.prog 35 #[.string s] w fun e w' => e = .returned (bitsV (readO s.data.toList)) ∧ w' = w := rread_in s _ w rfl
end Go.Proofs.YtjocjjclgebfnaaDoor
