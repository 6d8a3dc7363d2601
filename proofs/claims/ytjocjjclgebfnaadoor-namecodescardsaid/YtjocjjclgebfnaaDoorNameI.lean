/- Rights as letters; a capability as text. -/
import Derived.Test.YtjocjjclgebfnaaDoorNameH
namespace Go.Proofs.YtjocjjclgebfnaaDoor
open Go.RowKit Go.Shelf
set_option linter.unusedVariables false

def fiveL : List UInt8 := [114, 119, 120, 103, 100]
def fiveS : ByteArray := ⟨#[114, 119, 120, 103, 100]⟩
/-- The letters of the first k rights. -/
def lettersK (r : BitVec 8) : Nat → List UInt8
  | 0 => []
  | k + 1 => lettersK r k ++ (if r.getLsbD k then [fiveL.getD k 0] else [])
def rightsO (r : BitVec 8) : List UInt8 × Int := if (31 : Int) < r.toNat then ([], 3) else if r = 0#8 then ([45], 0) else (lettersK r 5, 0)
theorem letters_len (r : BitVec 8) : ∀ k, (lettersK r k).length ≤ k
  | 0 => by simp [lettersK]
  | k + 1 => by
    have := letters_len r k
    simp only [lettersK, List.length_append]
    split <;> simp <;> omega
theorem Bld.iterAt {B b j : Nat} {l : List UInt8} {w : World} {s : ByteArray} {p : Nat} (h : Bld B b l w) (hj : w.heap[j]? = some (.stringIter s p)) (p' : Nat) : Bld B b l (w.iterAt j s p') := by
  have key : ∀ q, Lib.BuilderAt 46 5 B b q (Lib.byteCells l) w → Lib.BuilderAt 46 5 B b q (Lib.byteCells l) (w.iterAt j s p') := by
    rintro q ⟨hB, v, hb, hown, hne⟩
    refine ⟨hB, v, ?_, ownsRow_putObj hown _ hj rfl, hne⟩
    have hbj : b ≠ j := by rintro rfl; rw [hb] at hj; cases hj
    exact ((grownBy_putObj' w j _).block b (Array.getElem?_eq_some_iff.1 hb).1 (fun e => hbj (by cases e; rfl))).trans hb
  rcases h with h | h
  · exact .inl (key _ h)
  · exact .inr (key _ h)
theorem Oth.iter {b j : Nat} {w w' : World} {s : ByteArray} {p : Nat} (h : Oth b w w') (hne : j ≠ b) (hj : w.heap[j]? = some (.stringIter s p)) : w'.heap[j]? = some (.stringIter s p) := by
  refine h j _ hj (fun e => hne (by cases e; rfl)) (fun c fz e => by cases e)

theorem bit_at (r : BitVec 8) (k : Nat) (hk : k < 5) : (bits BinOp.and IntKind.u8 ((r.toNat : Int) / 2 ^ k) 1 == 1) = r.getLsbD k := by
  have e1 : ((r.toNat : Int) / 2 ^ k) = ((r >>> k).toNat : Int) := by
    rw [BitVec.toNat_ushiftRight, Nat.shiftRight_eq_div_pow]
    push_cast
    rfl
  rw [e1, show (1 : Int) = (((1#8 : BitVec 8).toNat : Nat) : Int) from rfl, bits_and8]
  have key : ∀ r : BitVec 8, ∀ k : Fin 5, ((((r >>> k.val) &&& 1#8).toNat : Int) == (((1#8 : BitVec 8).toNat : Nat) : Int)) = r.getLsbD k.val := by decide
  exact key r ⟨k, hk⟩
theorem five_enc (k : Nat) (hk : k < 5) : Lib.encodeRune ((fiveS[k]'hk).toNat : Int) = [fiveL.getD k 0] ∧ (fiveS[k]'hk).toNat < 128 := by
  have key : ∀ k : Fin 5, Lib.encodeRune ((fiveS[k.val]'k.isLt).toNat : Int) = [fiveL.getD k.val 0] ∧ (fiveS[k.val]'k.isLt).toNat < 128 := by decide
  exact key ⟨k, hk⟩

set_option maxHeartbeats 2000000 in
set_option maxRecDepth 100000 in
theorem rights_in (r : BitVec 8) (w : World) (h31 : (r.toNat : Int) ≤ 31) (h0 : r ≠ 0#8) :
    Calls Tryd.prog 31 #[.int .u8 r.toNat] w fun e W' => e = .returned (.tuple #[.string ⟨(lettersK r 5).toArray⟩, .int .i64 0]) ∧ Below w.heap.size w W' := by
  have hz := zero8 r
  rw [beq_eq_false_iff_ne.2 h0] at hz
  have h31' : ¬ (31 : Int) < (r.toNat : Int) := by omega
  go_enter Tryd.func31, Tryd.ntmps31
  go_wp2
  go_loopw [] (fun W => ∃ k : Nat, k ≤ 5 ∧ W.heap[w.heap.size + 1]? = some (.stringIter fiveS k) ∧ Bld w.heap.size w.heap.size (lettersK r k) W ∧ Below w.heap.size w W) (fun W => 5 - W.iterPos (w.heap.size + 1))
  case atStart =>
    refine ⟨0, by omega, ?_, Bld.alloc (l := []) (Lib.fresh_isBuilder 46 5 w) _, ((Below.refl _ w).alloc (Nat.le_refl _) _).alloc (by simp) _⟩
    have := World.iter_heap (w.alloc (.cells #[.pointer none, .slice none 0 0] 46)) fiveS 0
    rw [World.size_alloc] at this
    exact this
  case round =>
    obtain ⟨k, hk, hit, hbld, hB⟩ := hrel
    by_cases hp : k < 5
    · obtain ⟨henc, hasc⟩ := five_enc k hp
      have hnx := fun ty => Lib.run_next_ascii_at (P := Tryd.prog) wr (w.heap.size + 1) fiveS k ty hit hp hasc
      have hit2 := Lib.iterAt_heap wr (w.heap.size + 1) fiveS k (k + 1) hit
      have hbld2 := hbld.iterAt hit (k + 1)
      have hB2 : Below w.heap.size w (wr.iterAt (w.heap.size + 1) fiveS (k + 1)) := Lib.below_iterAt hB (by omega) fiveS (k + 1)
      have hm0 : wr.iterPos (w.heap.size + 1) = k := iterPos_of hit
      have hbit := bit_at r k hp
      have hlen := letters_len r k
      generalize wr.iterAt (w.heap.size + 1) fiveS (k + 1) = W2 at *
      have hs2 := hB2.size
      have hc0 : (0 : Int) ≤ ((fiveS[k]'hp).toNat : Int) := by omega
      have hc1 : ((fiveS[k]'hp).toNat : Int) < 128 := by omega
      generalize ((fiveS[k]'hp).toNat : Int) = c at *
      clear hasc
      cases hb : r.getLsbD k with
      | true =>
        rw [hb] at hbit
        have HL : Hid (lettersK r (k + 1) = lettersK r k ++ Lib.encodeRune c) := by
          show _ = _
          rw [henc, lettersK, hb, if_pos rfl]
        clear hb henc
        go_wp2_with fail
        refine (write_rune w.heap.size w.heap.size (lettersK r k) c (by omega) (by omega) W2 hbld2 (by omega) hs2).mono ?_
        rintro e W3 ⟨⟨v3, rfl⟩, hbld3, hB3, hO3⟩
        have hit3 := Oth.iter hO3 (by omega) hit2
        have hm3 : W3.iterPos (w.heap.size + 1) = k + 1 := iterPos_of hit3
        go_wp2
        go_roundw
        case rel => exact ⟨k + 1, by omega, hit3, by rw [HL.out]; exact hbld3, hB2.trans hB3⟩
        case measure => rw [hm3, hm0]; omega
      | false =>
        rw [hb] at hbit
        have HL : Hid (lettersK r (k + 1) = lettersK r k) := by
          show _ = _
          rw [lettersK, hb, if_neg (by simp), List.append_nil]
        clear hb henc
        have hm3 : W2.iterPos (w.heap.size + 1) = k + 1 := iterPos_of hit2
        go_wp2
        go_roundw
        case rel => exact ⟨k + 1, by omega, hit2, by rw [HL.out]; exact hbld2, hB2⟩
        case measure => rw [hm3, hm0]; omega
    · obtain rfl : k = 5 := by omega
      have hnx := fun ty => Lib.run_next_end_at (P := Tryd.prog) wr (w.heap.size + 1) fiveS 5 ty hit (by decide)
      have hs2 := hB.size
      go_wp2_with fail
      refine (built w.heap.size w.heap.size (lettersK r 5) wr hbld hs2).mono ?_
      rintro e W2 ⟨rfl, hB2⟩
      go_wp2
      go_ret2
      exact ⟨rfl, hB.trans hB2⟩

theorem rights_any (r : BitVec 8) (w : World) :
    Calls Tryd.prog 31 #[.int .u8 r.toNat] w fun e W' => e = .returned (textV (rightsO r)) ∧ Below w.heap.size w W' := by
  unfold rightsO
  by_cases h31 : (31 : Int) < r.toNat
  · rw [if_pos h31]
    go_enter Tryd.func31, Tryd.ntmps31
    go_wp2
    go_ret2
    exact ⟨rfl, Below.refl _ _⟩
  · rw [if_neg h31]
    by_cases h0 : r = 0#8
    · rw [if_pos h0]
      subst h0
      go_enter Tryd.func31, Tryd.ntmps31
      go_wp2
      go_ret2
      exact ⟨rfl, Below.refl _ _⟩
    · rw [if_neg h0]
      exact rights_in r w (by omega) h0

theorem rightsO_len (r : BitVec 8) : (rightsO r).1.length ≤ 5 := by
  have := letters_len r 5
  unfold rightsO
  split
  · simp
  · split
    · simp
    · exact this
theorem cat3 (n : ByteArray) (o : List UInt8) : n ++ (⟨#[32]⟩ : ByteArray) ++ (⟨o.toArray⟩ : ByteArray) = ⟨(n.data.toList ++ 32 :: o).toArray⟩ := by
  apply ByteArray.ext
  apply Array.toList_inj.1
  simp [ByteArray.data_append]
def printO (n : List UInt8) (r : BitVec 8) : List UInt8 × Int := if rightB n r.toNat then (n ++ [32] ++ (rightsO r).1, 0) else ([], 3)
theorem print_any (n : ByteArray) (r : BitVec 8) (w : World) (hn : n.size ≤ 1000) :
    Calls Tryd.prog 16 #[capV n r.toNat] w fun e W' => e = .returned (textV (printO n.data.toList r)) ∧ Below w.heap.size w W' := by
  unfold printO
  have cR := fun w => right_any n r.toNat w hn
  have cT := fun w => rights_any r w
  have ho := rightsO_len r
  obtain ⟨o1, o2, hO⟩ : ∃ o1 o2, rightsO r = (o1, o2) := ⟨_, _, rfl⟩
  rw [hO] at cT ho ⊢
  have ho1 : ¬ 9223372036854775807 < n.size + 1 + o1.length := by simp only at ho; omega
  clear ho
  clear hO
  unfold textV at cT
  unfold capV at cR ⊢
  simp only at cT ⊢
  cases hR : rightB n.data.toList r.toNat with
  | false =>
    rw [hR] at cR
    clear hR
    go_enter Tryd.func16, Tryd.ntmps16
    go_wp2_with fail
    refine (cT _).mono ?_
    rintro e W1 ⟨rfl, hB1⟩
    rw [World.size_alloc] at hB1
    have hs1 := hB1.size
    rw [World.size_alloc] at hs1
    have hC := (Two.new w 34 (.string n) (.int .u8 r.toNat)).below hB1 (by omega)
    have a0 := hC.c0
    have a1 := hC.c1
    have hB1' : Below w.heap.size w W1 := ((Below.refl _ w).alloc (Nat.le_refl _) _).trans (hB1.mono (by omega))
    go_wp2_with fail
    refine (cR _).mono ?_
    rintro e W2 ⟨rfl, hB2⟩
    go_wp2
    go_ret2
    exact ⟨rfl, hB1'.trans (hB2.mono (by omega))⟩
  | true =>
    rw [hR] at cR
    clear hR
    go_enter Tryd.func16, Tryd.ntmps16
    go_wp2_with fail
    refine (cT _).mono ?_
    rintro e W1 ⟨rfl, hB1⟩
    rw [World.size_alloc] at hB1
    have hs1 := hB1.size
    rw [World.size_alloc] at hs1
    have hC := (Two.new w 34 (.string n) (.int .u8 r.toNat)).below hB1 (by omega)
    have a0 := hC.c0
    have a1 := hC.c1
    have hB1' : Below w.heap.size w W1 := ((Below.refl _ w).alloc (Nat.le_refl _) _).trans (hB1.mono (by omega))
    go_wp2_with fail
    refine (cR _).mono ?_
    rintro e W2 ⟨rfl, hB2⟩
    have a0' := (hC.below hB2 (by omega)).c0
    clear a0
    go_wp2
    go_ret2
    exact ⟨by rw [cat3]; rfl, hB1'.trans (hB2.mono (by omega))⟩
end Go.Proofs.YtjocjjclgebfnaaDoor
