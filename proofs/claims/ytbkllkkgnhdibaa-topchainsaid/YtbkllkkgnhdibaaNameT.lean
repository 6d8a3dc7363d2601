/- A capability's bytes, and the capability that bytes say. -/
import Derived.Test.YtbkllkkgnhdibaaNameM
import Derived.Lib.AppendStr
import Derived.Laws.BytesArg
import Derived.Deep.RegionHeld3
namespace Go.Proofs.Ytbkllkkgnhdibaa
open Go.RowKit Go.Shelf
set_option linter.unusedVariables false

/-- A slice holds these bytes. -/
def Byt (w : World) (v : Value) (bs : List UInt8) : Prop := ∃ a cap, v = .slice a bs.length cap ∧ bs.length ≤ cap ∧ cap ≤ maxLen ∧ ∀ j x, bs[j]? = some x → ∃ g off, a = some ⟨g, off, none⟩ ∧ w.cell? ⟨g, off + j, none⟩ = some (.int .u8 (x.toNat : Int))
theorem Byt.below {w w' : World} {v : Value} {bs : List UInt8} {B : Nat} (h : Byt w v bs) (hb : Below B w w') (hB : w.heap.size ≤ B) : Byt w' v bs := by
  obtain ⟨a, cap, rfl, hcap, hm, hc⟩ := h
  refine ⟨a, cap, rfl, hcap, hm, fun j x hx => ?_⟩
  obtain ⟨g, off, e, hcell⟩ := hc j x hx
  exact ⟨g, off, e, (hb.cell (p := ⟨g, off + j, none⟩) (Nat.lt_of_lt_of_le (World.block_lt_of_cell? _ _ hcell) hB)).trans hcell⟩
def byteV (x : UInt8) : Value := .int .u8 (x.toNat : Int)
theorem Byt.nil (w : World) : Byt w (.slice none 0 0) [] := ⟨none, 0, rfl, Nat.le_refl _, Nat.zero_le _, fun j x h => by cases h⟩
theorem Byt.of_own {w : World} {base : Nat} {v : Value} {n : Nat} {bs : List UInt8} (h : w.ownsRow base 5 1 v n (bs.map byteV)) : Byt w v bs := by
  have hn : n = bs.length := by have := h.1; simpa using this.symm
  subst hn
  rcases h.2 with ⟨rfl, h0⟩ | ⟨g, cap, cur, rfl, _, hb, hk, hm, _, htk⟩
  · obtain rfl : bs = [] := List.eq_nil_of_length_eq_zero h0
    exact Byt.nil w
  · refine ⟨_, cap, rfl, hk, hm, fun j x hx => ⟨g, 0, rfl, ?_⟩⟩
    have h1 : (List.take (bs.length * 1) cur.toList)[j]? = some (byteV x) := by rw [htk, List.getElem?_map, hx]; rfl
    have hj : j < bs.length := (List.getElem?_eq_some_iff.1 hx).1
    rw [List.getElem?_take, if_pos (by omega)] at h1
    simp only [Nat.zero_add, World.cell?, hb]
    simpa [byteV] using h1
def encL (n : List UInt8) (r : BitVec 8) : List UInt8 := UInt8.ofNat r.toNat :: UInt8.ofNat n.length :: n
def decodeO : List UInt8 → List UInt8 × BitVec 8 × Int
  | a :: b :: t => if b.toNat = t.length ∧ rightB t (a.toNat : Int) = true then (t, BitVec.ofNat 8 a.toNat, 0) else ([], 0#8, 3)
  | _ => ([], 0#8, 3)
theorem byte_bits (a : UInt8) : (BitVec.ofNat 8 a.toNat).toNat = a.toNat := by
  have := a.toNat_lt
  rw [BitVec.toNat_ofNat]
  omega
theorem bits_byte (r : BitVec 8) : (UInt8.ofNat r.toNat).toNat = r.toNat := by
  have := r.isLt
  simp
/-- What was written is read again. -/
theorem decode_encode {n : List UInt8} {r : BitVec 8} (h : rightB n r.toNat = true) : decodeO (encL n r) = (n, r, 0) := by
  have hl := right_len h
  have e1 : (UInt8.ofNat n.length).toNat = n.length := by simp; omega
  show (if (UInt8.ofNat n.length).toNat = n.length ∧ rightB n ((UInt8.ofNat r.toNat).toNat : Int) = true then (n, BitVec.ofNat 8 (UInt8.ofNat r.toNat).toNat, 0) else ([], 0#8, 3)) = _
  rw [bits_byte, if_pos ⟨e1, h⟩]
  simp
theorem encode_decode {bs n : List UInt8} {r : BitVec 8} (h : decodeO bs = (n, r, 0)) : bs = encL n r ∧ rightB n r.toNat = true := by
  match bs, h with
  | [], h => cases h
  | [_], h => cases h
  | a :: b :: t, h =>
    replace h : (if b.toNat = t.length ∧ rightB t (a.toNat : Int) = true then (t, BitVec.ofNat 8 a.toNat, (0 : Int)) else ([], 0#8, 3)) = (n, r, 0) := h
    split at h
    · rename_i hc
      have e1 : t = n := congrArg Prod.fst h
      have e2 : BitVec.ofNat 8 a.toNat = r := congrArg (fun x => x.2.1) h
      subst e1 e2
      rw [byte_bits]
      refine ⟨?_, hc.2⟩
      unfold encL
      rw [byte_bits, ← hc.1]
      simp
    · cases h

theorem Byt.alloc {w : World} {v : Value} {bs : List UInt8} (h : Byt w v bs) (o : Obj) : Byt (w.alloc o) v bs := h.below ((Below.refl w.heap.size w).alloc (Nat.le_refl _) o) (Nat.le_refl _)
theorem strOf_bytes (t : List UInt8) : strOfNums (t.map fun x => (x.toNat : Int)) = ⟨t.toArray⟩ := by
  unfold strOfNums
  congr 2
  rw [List.map_map]
  conv => rhs; rw [← List.map_id t]
  apply List.map_congr_left
  intro x _
  simp
theorem byt_text (w : World) (src : TypeId) (g off cap : Nat) (t : List UInt8) (hs : Try.prog.underlying src = some (.slice 5)) (hc : ∀ j x, t[j]? = some x → w.cell? ⟨g, off + j, none⟩ = some (.int .u8 (x.toNat : Int))) :
    (convert src 9 (.slice (some ⟨g, off, none⟩) t.length cap)).run Try.prog w = .ok (.string ⟨t.toArray⟩) w := by
  have := run_convert_bytes_arg (P := Try.prog) w src 5 hs Try.underlying5 g off t.length cap (t.map fun x => (x.toNat : Int)) (by simp) (fun i hi => by
    rw [hc i _ (List.getElem?_eq_getElem hi)]
    simp [List.getD, List.getElem?_eq_getElem hi])
  rw [strOf_bytes] at this
  exact this 9 Try.underlying9

theorem Byt.text {w : World} {v : Value} {bs : List UInt8} (h : Byt w v bs) (hne : bs ≠ []) : (convert 22 9 v).run Try.prog w = .ok (.string ⟨bs.toArray⟩) w := by
  obtain ⟨a, cap, rfl, hcap, hm, hc⟩ := h
  cases bs with
  | nil => exact absurd rfl hne
  | cons x t =>
    obtain ⟨g, off, rfl, h0⟩ := hc 0 x rfl
    exact byt_text w 22 g off cap (x :: t) Try.underlying22 (fun j b hb => by
      obtain ⟨g', off', e, h⟩ := hc j b hb
      cases e
      exact h)
end Go.Proofs.Ytbkllkkgnhdibaa
