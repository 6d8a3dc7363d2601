/- A text is cut at its first blank; a part of an instruction is read: the program. -/
import Derived.Test.YteoappoacapdhaaDoorIsaX
import Derived.Test.YteoappoacapdhaaDoorLawParses
namespace Go.Proofs.YteoappoacapdhaaDoor
open Go.RowKit
set_option linter.unusedVariables false

theorem extract_mkW (s : ByteArray) (a b : Nat) (h : b ≤ s.size) : s.extract a b = ⟨((s.data.toList.take b).drop a).toArray⟩ := by
  have e : (s.extract a b).data.toList = (s.data.toList.take b).drop a := by
    have := Lib.extract_toList s a b
    rw [Lib.toList_data] at this
    rw [this, List.drop_take]
  generalize s.extract a b = E at *
  obtain ⟨⟨l⟩⟩ := E
  simp only at e
  rw [e]
theorem index_at (c : UInt8) (q : List UInt8) : ∀ p : List UInt8, c ∉ p → Lib.indexByte (p ++ c :: q) c = (p.length : Int)
  | [], _ => by simp [Lib.indexByte]
  | b :: t, h => by
    have hb : (b == c) = false := by rw [beq_eq_false_iff_ne]; exact fun e => h (by simp [e])
    have ih := index_at c q t (fun e => h (by simp [e]))
    simp only [List.cons_append, Lib.indexByte, hb]
    rw [ih]
    have h1 : (((t.length : Int)) == -1) = false := by rw [beq_eq_false_iff_ne]; omega
    simp [h1]
theorem cutT_c (c : UInt8) (s b a : ByteArray) (i : Int) (f : Bool) (w : World) (hi : Lib.indexByte s.data.toList c = i) (hs : s.size ≤ 100000)
    (h : (f = true ∧ 0 ≤ i ∧ i < s.size ∧ s.extract 0 i.toNat = b ∧ s.extract (i + 1).toNat s.size = a) ∨ (f = false ∧ i = -1 ∧ b = s ∧ a = ⟨#[]⟩)) :
    Calls Tryd.prog 49 #[.string s, .string ⟨#[c]⟩] w fun e w' => e = .returned (.tuple #[.string b, .string a, .bool f]) ∧ Below w.heap.size w w' := by
  have cI := fun w => Tryd.stringslite_Index_one s c w
  rw [hi] at cI
  clear hi
  rcases h with ⟨rfl, h0, h1, rfl, rfl⟩ | ⟨rfl, rfl, rfl, rfl⟩
  · have h0' : ¬ i < 0 := by omega
    obtain ⟨k, rfl⟩ : ∃ k : Nat, i = (k : Int) := ⟨i.toNat, by omega⟩
    have h2 : k < s.size := by omega
    have h3 : ((k : Int) + 1).toNat = k + 1 := by omega
    rw [h3]
    simp only [Int.toNat_natCast]
    go_enter Tryd.func49, Tryd.ntmps49
    go_wp2_with fail
    refine (cI _).mono ?_
    rintro e W1 ⟨rfl, hw⟩
    rw [hw]
    clear hw W1
    go_wp2
    go_quiet (fail)
    go_wp2
    go_ret3
    exact ⟨rfl, ⟨rfl, rfl, rfl, Nat.le_refl _, fun _ _ => rfl⟩⟩
  · go_enter Tryd.func49, Tryd.ntmps49
    go_wp2_with fail
    refine (cI _).mono ?_
    rintro e W1 ⟨rfl, hw⟩
    rw [hw]
    clear hw W1
    go_wp2
    go_ret3
    exact ⟨rfl, Below.refl _ _⟩
theorem cutU_c (c : UInt8) (s b a : ByteArray) (f : Bool) (w : World)
    (h : ∀ w, Calls Tryd.prog 49 #[.string s, .string ⟨#[c]⟩] w fun e w' => e = .returned (.tuple #[.string b, .string a, .bool f]) ∧ Below w.heap.size w w') :
    Calls Tryd.prog 43 #[.string s, .string ⟨#[c]⟩] w fun e w' => e = .returned (.tuple #[.string b, .string a, .bool f]) ∧ Below w.heap.size w w' := by
  go_enter Tryd.func43, Tryd.ntmps43
  go_wp2_with fail
  refine (h _).mono ?_
  rintro e W1 ⟨rfl, hB1⟩
  go_wp2
  go_ret3
  exact ⟨rfl, hB1⟩
theorem cut_some (c : UInt8) (s : ByteArray) (p q : List UInt8) (w : World) (hs : s.size ≤ 100000) (hd : s.data.toList = p ++ c :: q) (h : c ∉ p) :
    Calls Tryd.prog 43 #[.string s, .string ⟨#[c]⟩] w fun e w' => e = .returned (.tuple #[.string ⟨p.toArray⟩, .string ⟨q.toArray⟩, .bool true]) ∧ Below w.heap.size w w' := by
  have hz : s.size = p.length + 1 + q.length := by rw [Lib.size_eq, hd]; simp; omega
  have hi : Lib.indexByte s.data.toList c = (p.length : Int) := by rw [hd]; exact index_at c q p h
  refine cutU_c c s _ _ _ w fun w => cutT_c c s _ _ _ _ w hi hs (.inl ⟨rfl, by omega, by omega, ?_, ?_⟩)
  · rw [Int.toNat_natCast, extract_mkW s 0 _ (by omega), hd]
    simp
  · have e : ((p.length : Int) + 1).toNat = p.length + 1 := by omega
    rw [e, extract_mkW s _ _ (Nat.le_refl _), hd, hz]
    congr 2
    rw [List.take_of_length_le (by simp; omega), show p ++ c :: q = (p ++ [c]) ++ q by simp, List.drop_left' (by simp)]
theorem cut_no (c : UInt8) (s : ByteArray) (w : World) (hs : s.size ≤ 100000) (h : c ∉ s.data.toList) :
    Calls Tryd.prog 43 #[.string s, .string ⟨#[c]⟩] w fun e w' => e = .returned (.tuple #[.string s, .string ⟨#[]⟩, .bool false]) ∧ Below w.heap.size w w' :=
  cutU_c c s _ _ _ w fun w => cutT_c c s _ _ _ _ w (indexByte_not _ c (fun b hb e => h (e ▸ hb))) hs (.inr ⟨rfl, rfl, rfl, rfl⟩)
theorem cut3_any (l : List UInt8) (w : World) (hs : l.length ≤ 100000) :
    Calls Tryd.prog 43 #[.string ⟨l.toArray⟩, .string ⟨#[32]⟩] w fun e w' => e = .returned (.tuple #[.string ⟨(cut3 l).1.toArray⟩, .string ⟨(cut3 l).2.1.toArray⟩, .bool (cut3 l).2.2]) ∧ Below w.heap.size w w' := by
  unfold cut3
  rcases cutW_cases l with ⟨h1, h2⟩ | ⟨p, q, h1, h2, h3⟩
  · rw [h1]
    exact cut_no 32 ⟨l.toArray⟩ w hs h2
  · rw [h1]
    exact cut_some 32 ⟨l.toArray⟩ p q w hs h3 h2
theorem cut3_len (l : List UInt8) : (cut3 l).1.length ≤ l.length ∧ (cut3 l).2.1.length ≤ l.length := by
  unfold cut3
  rcases cutW_cases l with ⟨h1, h2⟩ | ⟨p, q, h1, h2, h3⟩
  · rw [h1]; simp
  · rw [h1]
    subst h3
    constructor <;> simp <;> omega

set_option maxHeartbeats 2000000 in
set_option maxRecDepth 100000 in
theorem read_len (k : Nat) (hk : k = 0 ∨ k = 1) (z : Int) (x : ByteArray) (w : World) (hx : ((x.size : Int) != 2) = true) :
    Calls Tryd.prog 44 #[.string x, partV (k, z)] w fun e w' => e = .returned (.tuple #[.nilIface, .bool false]) ∧ w' = w := by
  have t1 := assAM
  have t2 := assBM
  rcases hk with rfl | rfl
  all_goals
    unfold partV
    go_enter Tryd.func44, Tryd.ntmps44
    go_wp2
    go_ret2
    exact ⟨rfl, rfl⟩
set_option maxHeartbeats 4000000 in
set_option maxRecDepth 100000 in
theorem read_two (k : Nat) (hk : k = 0 ∨ k = 1) (z : Int) (r d : UInt8) (w : World) :
    Calls Tryd.prog 44 #[.string ⟨#[r, d]⟩, partV (k, z)] w fun e w' => e = .returned (.tuple #[(match regO [r, d] with | some n => partV (k, n) | none => .nilIface), .bool (regO [r, d]).isSome]) ∧ w' = w := by
  have t1 := assAM
  have t2 := assBM
  have t3 := assAA
  have t4 := assBA
  have hr := r.toNat_lt
  have hd := d.toNat_lt
  have hsz : (⟨#[r, d]⟩ : ByteArray).size = 2 := rfl
  have h0 : (⟨#[r, d]⟩ : ByteArray)[0] = r := rfl
  have h1 : (⟨#[r, d]⟩ : ByteArray)[1] = d := rfl
  by_cases c1 : r = 114
  · subst c1
    by_cases c2 : 48 ≤ d.toNat
    · by_cases c3 : d.toNat < 56
      · have e : regO [114, d] = some ((d.toNat : Int) - 48) := by simp [regO, c2, c3]
        rw [e]
        have n1 : ¬ (d.toNat : Int) < 48 := by omega
        have n2 : ¬ 56 ≤ (d.toNat : Int) := by omega
        have n3 : IntKind.u8.wrap ((d.toNat : Int) - 48) = (d.toNat : Int) - 48 := by rw [IntKind.wrap_u8]; omega
        rcases hk with rfl | rfl
        all_goals
          unfold partV
          go_enter Tryd.func44, Tryd.ntmps44
          go_wp2
          go_ret2
          exact ⟨rfl, rfl⟩
      · have e : regO [114, d] = none := by simp [regO]; omega
        rw [e]
        have n1 : ¬ (d.toNat : Int) < 48 := by omega
        have n2 : 56 ≤ (d.toNat : Int) := by omega
        rcases hk with rfl | rfl
        all_goals
          unfold partV
          go_enter Tryd.func44, Tryd.ntmps44
          go_wp2
          go_ret2
          exact ⟨rfl, rfl⟩
    · have e : regO [114, d] = none := by simp [regO]; omega
      rw [e]
      have n1 : (d.toNat : Int) < 48 := by omega
      rcases hk with rfl | rfl
      all_goals
        unfold partV
        go_enter Tryd.func44, Tryd.ntmps44
        go_wp2
        go_ret2
        exact ⟨rfl, rfl⟩
  · have e : regO [r, d] = none := by simp [regO, c1]
    rw [e]
    have n1 : ((r.toNat : Int) != 114) = true := by
      rw [bne_iff_ne]
      intro g
      apply c1
      apply UInt8.toNat_inj.1
      have e114 : (114 : UInt8).toNat = 114 := rfl
      omega
    rcases hk with rfl | rfl
    all_goals
      unfold partV
      go_enter Tryd.func44, Tryd.ntmps44
      go_wp2
      go_ret2
      exact ⟨rfl, rfl⟩
set_option maxRecDepth 100000 in
theorem read_num0 (z v x : Int) (s : ByteArray) (w : World)
    (cP : Calls Tryd.prog 50 #[.string s] w fun e w' => e = .returned (.tuple #[.int .u16 v, .int .i64 x]) ∧ Below w.heap.size w w') :
    Calls Tryd.prog 44 #[.string s, .iface 82 (.int .u16 z)] w fun e w' => e = .returned (.tuple #[.iface 82 (.int .u16 v), .bool (x == 0)]) ∧ Below w.heap.size w w' := by
  have t1 := assMM
  go_enter Tryd.func44, Tryd.ntmps44
  go_wp2_with (go_at_call 50; refine cP.mono ?_; rintro e w' ⟨rfl, hB⟩)
  go_ret2
  exact ⟨rfl, hB⟩
/-- A part is read: whether it is one; and it. -/
theorem read_any (k : Nat) (z : Int) (s : List UInt8) (w : World) (hs : s.length ≤ 100000) (hT : Tabs w) :
    Calls Tryd.prog 44 #[.string ⟨s.toArray⟩, partV (k, z)] w fun e w' => (∃ v, e = .returned (.tuple #[v, .bool (readP k s).isSome]) ∧ ∀ n, readP k s = some n → v = partV (k, n)) ∧ Below w.heap.size w w' := by
  have hreg : ∀ k, (k = 0 ∨ k = 1) → Calls Tryd.prog 44 #[.string ⟨s.toArray⟩, partV (k, z)] w fun e w' => (∃ v, e = .returned (.tuple #[v, .bool (regO s).isSome]) ∧ ∀ n, regO s = some n → v = partV (k, n)) ∧ Below w.heap.size w w' := by
    intro k hk
    by_cases h2 : s.length = 2
    · match s, h2 with
      | [r, d], _ =>
        refine (read_two k hk z r d w).mono ?_
        rintro e w' ⟨rfl, rfl⟩
        refine ⟨⟨_, rfl, fun n hn => ?_⟩, Below.refl _ _⟩
        rw [hn]
    · have e : regO s = none := by
        match s, h2 with
        | [], _ => rfl
        | [_], _ => rfl
        | _ :: _ :: _ :: _, _ => rfl
        | [_, _], h => exact absurd rfl h
      rw [e]
      refine (read_len k hk z ⟨s.toArray⟩ w (by rw [bne_iff_ne]; show ((s.length : Nat) : Int) ≠ 2; omega)).mono ?_
      rintro e w' ⟨rfl, rfl⟩
      exact ⟨⟨_, rfl, fun n hn => by cases hn⟩, Below.refl _ _⟩
  match k with
  | 0 => exact hreg 0 (.inl rfl)
  | 1 => exact hreg 1 (.inr rfl)
  | k + 2 =>
    have cP := parse_any ⟨s.toArray⟩ w (by show s.length ≤ _; omega) hT
    refine (read_num0 z _ _ ⟨s.toArray⟩ w cP).mono ?_
    rintro e w' ⟨rfl, hB⟩
    refine ⟨⟨.iface 82 (.int .u16 (wordO (numO s))), ?_, fun n hn => ?_⟩, hB⟩
    · show Ending.returned (.tuple #[.iface 82 (.int .u16 (wordO (numO s))), .bool (errO (numO s) == 0)]) = .returned (.tuple #[.iface 82 (.int .u16 (wordO (numO s))), .bool (impO s).isSome])
      have hb : (errO (numO s) == 0) = (impO s).isSome := by
        unfold impO
        by_cases h : errO (numO s) = 0
        · rw [if_pos h, h]; rfl
        · rw [if_neg h]
          simpa using h
      rw [hb]
    · have hn' : impO s = some n := hn
      unfold impO at hn'
      split at hn'
      · injection hn' with hn'
        subst hn'
        rfl
      · cases hn'
end Go.Proofs.YteoappoacapdhaaDoor
