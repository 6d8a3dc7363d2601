/- The rights that letters say: as the program reads them, letter by letter. -/
import Derived.Test.YtjocjjclgebfnaaDoorNameI
namespace Go.Proofs.YtjocjjclgebfnaaDoor
open Go.RowKit Go.Shelf
set_option linter.unusedVariables false

/-- A letter's bit. -/
def bitR (c : Int) : BitVec 8 := if c = 114 then 1#8 else if c = 119 then 2#8 else if c = 120 then 4#8 else if c = 103 then 8#8 else if c = 100 then 16#8 else 0#8
/-- What letters add, one behind the other. -/
def readB : BitVec 8 → List UInt8 → Option (BitVec 8)
  | a, [] => some a
  | a, b :: t => if (bitR (b.toNat : Int)).toNat ≤ a.toNat then none else readB (a ||| bitR (b.toNat : Int)) t
def readO (s : List UInt8) : BitVec 8 × Int := if s = [45] then (0#8, 0) else match readB 0#8 s with
  | none => (0#8, 3)
  | some a => if a = 0#8 then (0#8, 3) else (a, 0)
def bitsV (o : BitVec 8 × Int) : Value := .tuple #[.int .u8 (o.1.toNat : Int), .int .i64 o.2]

theorem bits_or8 (x y : BitVec 8) : bits BinOp.or IntKind.u8 (x.toNat : Int) (y.toNat : Int) = ((x ||| y).toNat : Int) := by
  show IntKind.u8.wrap ((BitVec.ofInt 8 (x.toNat : Int) ||| (BitVec.ofInt 8 (y.toNat : Int))).toNat : Int) = _
  rw [ofInt8, ofInt8, wrap8]
theorem five_bit (c : Int) (k : Nat) (hk : k < 5) (h : ((fiveS[k]'hk).toNat : Int) = c) : bitR c = 1#8 <<< k := by
  subst h
  have key : ∀ k : Fin 5, bitR ((fiveS[k.val]'k.isLt).toNat : Int) = 1#8 <<< k.val := by decide
  exact key ⟨k, hk⟩
theorem bit_none (c : Int) (h : ∀ j (hj : j < 5), ((fiveS[j]'hj).toNat : Int) ≠ c) : bitR c = 0#8 := by
  have h0 : (114 : Int) ≠ c := h 0 (by omega)
  have h1 : (119 : Int) ≠ c := h 1 (by omega)
  have h2 : (120 : Int) ≠ c := h 2 (by omega)
  have h3 : (103 : Int) ≠ c := h 3 (by omega)
  have h4 : (100 : Int) ≠ c := h 4 (by omega)
  unfold bitR
  rw [if_neg (Ne.symm h0), if_neg (Ne.symm h1), if_neg (Ne.symm h2), if_neg (Ne.symm h3), if_neg (Ne.symm h4)]

set_option maxHeartbeats 1000000 in
theorem rightOf_any (c : Int) (w : World) :
    Calls Tryd.prog 47 #[.int .i32 c] w fun e w' => e = .returned (.int .u8 ((bitR c).toNat : Int)) ∧ Below w.heap.size w w' := by
  go_enter Tryd.func47, Tryd.ntmps47
  go_wp2
  go_loopw [] (fun W => ∃ k : Nat, k ≤ 5 ∧ W = w.iter fiveS k ∧ ∀ j (hj : j < 5), j < k → ((fiveS[j]'hj).toNat : Int) ≠ c) (fun W => 5 - W.iterPos w.heap.size)
  case atStart => exact ⟨0, by omega, rfl, fun j _ h => by omega⟩
  case round =>
    obtain ⟨k, hk, rfl, hno⟩ := hrel
    have HN : Hid (∀ j (hj : j < 5), j < k → ((fiveS[j]'hj).toNat : Int) ≠ c) := hno
    clear hno
    by_cases hp : k < 5
    · have hnx : ∀ ty, (Instr.next (.pointer (some ⟨w.heap.size, 0, none⟩)) true ty).run Tryd.prog (w.iter fiveS k) = _ := fun ty => run_next_ascii w fiveS k ty hp (five_enc k hp).2
      by_cases he : ((fiveS[k]'hp).toNat : Int) = c
      · have hb : Hid (bitR c = 1#8 <<< k) := five_bit c k hp he
        have hbe : (((fiveS[k]'hp).toNat : Int) == c) = true := beq_iff_eq.2 he
        have hW : Below w.heap.size w (w.iter fiveS (k + 1)) := iter_below w fiveS (k + 1)
        generalize ((fiveS[k]'hp).toNat : Int) = d at *
        clear he HN
        have hk' : k = 0 ∨ k = 1 ∨ k = 2 ∨ k = 3 ∨ k = 4 := by omega
        rcases hk' with rfl | rfl | rfl | rfl | rfl
        all_goals go_wp2
        all_goals go_ret
        all_goals exact ⟨by rw [hb.out]; rfl, hW⟩
      · have hbe : (((fiveS[k]'hp).toNat : Int) == c) = false := beq_eq_false_iff_ne.2 he
        have HN2 : Hid (∀ j (hj : j < 5), j < k + 1 → ((fiveS[j]'hj).toNat : Int) ≠ c) := by
          intro j hj hjk
          by_cases hj2 : j = k
          · subst hj2; exact he
          · exact HN.out j hj (by omega)
        clear HN
        generalize ((fiveS[k]'hp).toNat : Int) = d at *
        clear he
        go_wp2
        go_roundw
        case rel => exact ⟨k + 1, by omega, rfl, HN2.out⟩
        case measure => simp; omega
    · obtain rfl : k = 5 := by omega
      have hnx : ∀ ty, (Instr.next (.pointer (some ⟨w.heap.size, 0, none⟩)) true ty).run Tryd.prog (w.iter fiveS 5) = _ := fun ty => run_next_end w fiveS 5 ty (by decide)
      have hb : Hid (bitR c = 0#8) := bit_none c (fun j hj => HN.out j hj hj)
      clear HN
      go_wp2
      go_ret
      exact ⟨by rw [hb.out]; rfl, iter_below w fiveS 5⟩

theorem read_step (s : ByteArray) (pos : Nat) (h : pos < s.size) : bitR ((Utf8.decode s pos).1 : Int) = bitR ((s[pos]'h).toNat : Int) ∧ (bitR ((Utf8.decode s pos).1 : Int) ≠ 0#8 → (Utf8.decode s pos).2 = 1) := by
  have hd := Lib.decode_at s pos
  obtain ⟨c, k, e, hf⟩ := decodeN_form (s.size - pos) (s.get! pos).toNat (s.get! (pos + 1)).toNat (s.get! (pos + 2)).toNat (s.get! (pos + 3)).toNat
  rw [e] at hd
  rw [hd, ← get_list s pos h]
  have big : ∀ x : Int, 128 ≤ x → bitR x = 0#8 := fun x hx => by
    unfold bitR
    rw [if_neg (by omega), if_neg (by omega), if_neg (by omega), if_neg (by omega), if_neg (by omega)]
  simp only
  rcases hf with ⟨rfl, ⟨rfl, h1⟩ | ⟨rfl, h1⟩⟩ | ⟨rfl, h1, h2, _⟩ | ⟨rfl, h1, h2, _⟩ | ⟨rfl, h1, h2, _⟩
  · exact ⟨rfl, fun _ => rfl⟩
  · rw [big _ (by omega), big _ (by omega)]
    exact ⟨rfl, fun h => absurd rfl h⟩
  · rw [big _ (by omega), big _ (by omega)]
    exact ⟨rfl, fun h => absurd rfl h⟩
  · rw [big _ (by omega), big _ (by omega)]
    exact ⟨rfl, fun h => absurd rfl h⟩
  · rw [big _ (by omega), big _ (by omega)]
    exact ⟨rfl, fun h => absurd rfl h⟩
theorem drop_at (s : ByteArray) (pos : Nat) (h : pos < s.size) : s.data.toList.drop pos = (s[pos]'h) :: s.data.toList.drop (pos + 1) :=
  List.drop_eq_getElem_cons (by rw [← Lib.size_eq]; exact h)

set_option maxHeartbeats 1000000 in
theorem read_in (s : ByteArray) (w : World) (hs : s ≠ ⟨#[45]⟩) (V : Option (BitVec 8)) (hV : readB 0#8 s.data.toList = V) :
    Calls Tryd.prog 34 #[.string s] w fun e w' => e = .returned (bitsV (match (generalizing := false) V with
      | none => (0#8, 3)
      | some a => if a = 0#8 then (0#8, 3) else (a, 0))) ∧ Below w.heap.size w w' := by
  have HV : Hid (readB 0#8 (s.data.toList.drop 0) = V) := by rw [List.drop_zero]; exact hV
  clear hV
  have hsb : (s.toList == [45]) = false := by
    rw [beq_eq_false_iff_ne, Lib.toList_data]
    exact fun h => hs (by obtain ⟨⟨l⟩⟩ := s; simp only at h; subst h; rfl)
  go_enter Tryd.func34, Tryd.ntmps34
  go_wp2
  go_loopw [4] (fun v W => ∃ (pos : Nat) (a : BitVec 8), v = .int .u8 (a.toNat : Int) ∧ W.heap[w.heap.size]? = some (.stringIter s pos) ∧ readB a (s.data.toList.drop pos) = V ∧ Below w.heap.size w W) (fun _ W => s.size - W.iterPos w.heap.size)
  case atStart => exact ⟨0, 0#8, rfl, World.iter_heap w s 0, HV.out, iter_below w s 0⟩
  case round =>
    obtain ⟨pos, a, rfl, hit, hv, hB⟩ := hrel
    have hBs := hB.size
    by_cases hp : pos < s.size
    · obtain ⟨st1, st2⟩ := read_step s pos hp
      have hnx := fun ty => Lib.run_next_any_at (P := Tryd.prog) wr w.heap.size s pos ty hit hp
      have hit2 := Lib.iterAt_heap wr w.heap.size s pos (pos + (Utf8.decode s pos).2) hit
      have hB2 : Below w.heap.size w (wr.iterAt w.heap.size s (pos + (Utf8.decode s pos).2)) := Lib.below_iterAt hB (Nat.le_refl _) s _
      have hm0 : wr.iterPos w.heap.size = pos := iterPos_of hit
      have hw1 := width_pos s pos hp
      rw [drop_at s pos hp] at hv
      simp only [readB] at hv
      rw [← st1] at hv
      clear st1
      have cR := fun W => rightOf_any ((Utf8.decode s pos).1 : Int) W
      generalize ((Utf8.decode s pos).1 : Int) = c at *
      generalize (Utf8.decode s pos).2 = n at *
      generalize bitR c = q at *
      generalize wr.iterAt w.heap.size s (pos + n) = W2 at *
      have hs2 := hB2.size
      have hlt2 : w.heap.size < W2.heap.size := (Array.getElem?_eq_some_iff.1 hit2).1
      by_cases hq : q.toNat ≤ a.toNat
      · rw [if_pos hq] at hv
        subst hv
        clear HV st2
        have hq' : (q.toNat : Int) ≤ (a.toNat : Int) := by omega
        go_wp2_with fail
        refine (cR _).mono ?_
        rintro e W3 ⟨rfl, hB3⟩
        go_wp2
        go_ret2
        exact ⟨rfl, hB2.trans (hB3.mono hs2)⟩
      · rw [if_neg hq] at hv
        obtain rfl : n = 1 := st2 (fun h => hq (by rw [h]; simp))
        have HW : Hid (readB (a ||| q) (s.data.toList.drop (pos + 1)) = V) := hv
        clear HV st2 hv
        have hq' : ¬ (q.toNat : Int) ≤ (a.toNat : Int) := by omega
        have hor := bits_or8 a q
        generalize a ||| q = A at *
        go_wp2_with fail
        refine (cR _).mono ?_
        rintro e W3 ⟨rfl, hB3⟩
        have hit3 := (hB3.block w.heap.size hlt2).trans hit2
        have hm3 : W3.iterPos w.heap.size = pos + 1 := iterPos_of hit3
        go_wp2
        go_roundw
        case rel => exact ⟨pos + 1, A, rfl, hit3, HW.out, hB2.trans (hB3.mono hs2)⟩
        case measure => rw [hm3, hm0]; omega
    · have hnx := fun ty => Lib.run_next_end_at (P := Tryd.prog) wr w.heap.size s pos ty hit hp
      rw [List.drop_eq_nil_of_le (by rw [← Lib.size_eq]; omega)] at hv
      simp only [readB] at hv
      subst hv
      clear HV
      have hz := zero8 a
      by_cases h0 : a = 0#8
      · rw [beq_iff_eq.2 h0] at hz
        have H0 : Hid (a = 0#8) := h0
        clear h0
        go_wp2
        go_ret2
        exact ⟨rfl, hB⟩
      · rw [beq_eq_false_iff_ne.2 h0] at hz
        have H0 : Hid (a ≠ 0#8) := h0
        clear h0
        go_wp2
        go_ret2
        exact ⟨rfl, hB⟩
theorem read_any (s : ByteArray) (w : World) :
    Calls Tryd.prog 34 #[.string s] w fun e w' => e = .returned (bitsV (readO s.data.toList)) ∧ Below w.heap.size w w' := by
  by_cases hs : s = ⟨#[45]⟩
  · subst hs
    go_enter Tryd.func34, Tryd.ntmps34
    go_wp2
    go_ret2
    exact ⟨rfl, Below.refl _ _⟩
  · have hn : s.data.toList ≠ [45] := fun h => hs (by obtain ⟨⟨l⟩⟩ := s; simp only at h; subst h; rfl)
    unfold readO
    rw [if_neg hn]
    exact read_in s w hs _ rfl

/-- What is read is what would be written. -/
theorem readB_spec : ∀ (l : List UInt8) (a x : BitVec 8), a.toNat < 32 → readB a l = some x → x.toNat < 32 ∧ lettersK x 5 = lettersK a 5 ++ l
  | [], a, x, ha, h => by
    simp only [readB, Option.some.injEq] at h
    subst h
    exact ⟨ha, by simp⟩
  | b :: t, a, x, ha, h => by
    simp only [readB] at h
    split at h
    · cases h
    · rename_i hb
      have hn : bitR (b.toNat : Int) ≠ 0#8 := fun e => hb (by rw [e]; simp)
      have five : ∃ k : Fin 5, b = fiveL.getD k.val 0 := by
        revert hn
        have : ∀ b : Fin 256, bitR ((UInt8.ofNat b.val).toNat : Int) ≠ 0#8 → ∃ k : Fin 5, UInt8.ofNat b.val = fiveL.getD k.val 0 := by decide +kernel
        have h2 := this ⟨b.toNat, b.toNat_lt⟩
        simpa using h2
      obtain ⟨k, rfl⟩ := five
      have key : ∀ a : Fin 32, ∀ k : Fin 5, ¬ (bitR ((fiveL.getD k.val 0).toNat : Int)).toNat ≤ (BitVec.ofNat 8 a.val).toNat →
          (BitVec.ofNat 8 a.val ||| bitR ((fiveL.getD k.val 0).toNat : Int)).toNat < 32 ∧ lettersK (BitVec.ofNat 8 a.val ||| bitR ((fiveL.getD k.val 0).toNat : Int)) 5 = lettersK (BitVec.ofNat 8 a.val) 5 ++ [fiveL.getD k.val 0] := by decide +kernel
      have ea : BitVec.ofNat 8 a.toNat = a := by simp
      have k1 := key ⟨a.toNat, ha⟩ k
      simp only [ea] at k1
      obtain ⟨k2, k3⟩ := k1 hb
      obtain ⟨r1, r2⟩ := readB_spec t _ x k2 h
      exact ⟨r1, by rw [r2, k3]; simp⟩
theorem readO_hit (r : BitVec 8) (h : r.toNat < 32) : readO (rightsO r).1 = (r, 0) := by
  have key : ∀ a : Fin 32, readO (rightsO (BitVec.ofNat 8 a.val)).1 = (BitVec.ofNat 8 a.val, 0) := by decide +kernel
  have := key ⟨r.toNat, h⟩
  simpa using this
theorem readO_back {s : List UInt8} {r : BitVec 8} (h : readO s = (r, 0)) : r.toNat < 32 ∧ rightsO r = (s, 0) := by
  unfold readO at h
  split at h
  · rename_i hs
    subst hs
    cases h
    exact ⟨by decide, by decide⟩
  · cases hb : readB 0#8 s with
    | none => rw [hb] at h; cases h
    | some a =>
      rw [hb] at h
      simp only at h
      split at h
      · cases h
      · rename_i h0
        cases h
        obtain ⟨h1, h2⟩ := readB_spec s 0#8 r (by decide) hb
        refine ⟨h1, ?_⟩
        unfold rightsO
        rw [if_neg (by omega), if_neg h0, h2]
        rfl
theorem readO_err (s : List UInt8) : (readO s).2 = 0 ∨ readO s = (0#8, 3) := by
  unfold readO
  repeat' split
  all_goals simp
theorem readO_miss {s : List UInt8} (h : ∀ j, j < 32 → (rightsO (BitVec.ofNat 8 j)).1 ≠ s) : readO s = (0#8, 3) := by
  rcases readO_err s with h0 | h0
  · obtain ⟨h1, h2⟩ := readO_back (s := s) (r := (readO s).1) (by rw [← h0])
    exact absurd (by simpa using congrArg Prod.fst h2) (h _ h1)
  · exact h0
theorem rightsO_ok (r : BitVec 8) : (rightsO r).2 = 0 ↔ r.toNat < 32 := by
  unfold rightsO
  split
  · rename_i h
    simp
    omega
  · rename_i h
    split <;> simp <;> omega
end Go.Proofs.YtjocjjclgebfnaaDoor
