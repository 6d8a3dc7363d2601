/- Digits as the program reads them: the number, or none. -/
import Derived.Test.YteoappoacapdhaaDoorWords
namespace Go.Proofs.YteoappoacapdhaaDoor
open Go.RowKit
set_option linter.unusedVariables false

/-- Digits, one behind the other, as long as no word is so great. -/
def digL : List UInt8 → Int → Option Int
  | [], n => some n
  | b :: l, n => if 48 ≤ b.toNat ∧ b.toNat ≤ 57 then (if n * 10 + ((b.toNat : Int) - 48) ≤ 65535 then digL l (n * 10 + ((b.toNat : Int) - 48)) else none) else none
def digO (l : List UInt8) : Option Int := if l = [] ∨ (l.head? = some 48 ∧ 1 < l.length) then none else digL l 0
def optN (o : Option Int) : Int := o.getD 0

theorem drop_at (s : ByteArray) (k : Nat) (h : k < s.size) : s.data.toList.drop k = s[k] :: s.data.toList.drop (k + 1) := by
  rw [List.drop_eq_getElem_cons (by simpa using h)]; rfl
theorem iter_below (w : World) (s : ByteArray) (pos : Nat) : Below w.heap.size w (w.iter s pos) := (Below.refl _ _).alloc (Nat.le_refl _) _

theorem digL_hi (b : UInt8) (l : List UInt8) (n : Int) (h : b.toNat < 48 ∨ 57 < b.toNat) : digL (b :: l) n = none := by
  simp only [digL]; rw [if_neg (by omega)]
theorem digL_yes (b : UInt8) (l : List UInt8) (n : Int) (h : 48 ≤ b.toNat) (h2 : b.toNat ≤ 57) (h3 : n * 10 + ((b.toNat : Int) - 48) ≤ 65535) : digL (b :: l) n = digL l (n * 10 + ((b.toNat : Int) - 48)) := by
  simp only [digL]; rw [if_pos ⟨h, h2⟩, if_pos h3]
theorem digL_big (b : UInt8) (l : List UInt8) (n : Int) (h : 48 ≤ b.toNat) (h2 : b.toNat ≤ 57) (h3 : 65535 < n * 10 + ((b.toNat : Int) - 48)) : digL (b :: l) n = none := by
  simp only [digL]; rw [if_pos ⟨h, h2⟩, if_neg (by omega)]

set_option maxHeartbeats 1000000 in
theorem digits_loop (s : ByteArray) (w : World) (he : s.toList.isEmpty = false) (hs : 0 < s.size) (h1 : (((s[0].toNat : Int) == 48) = false) ∨ (((s[0].toNat : Int) == 48) = true ∧ (s.size : Int) ≤ 1)) :
    Calls Tryd.prog 70 #[.string s] w fun e w' => e = .returned (.tuple #[.int .i64 (optN (digL s.data.toList 0)), .bool (digL s.data.toList 0).isSome]) ∧ Below w.heap.size w w' := by
  obtain ⟨O, hO⟩ : ∃ O, digL s.data.toList 0 = O := ⟨_, rfl⟩
  rw [hO]
  have HO : Hid (digL s.data.toList 0 = O) := hO
  clear hO
  rcases h1 with hz | ⟨hz, hz2⟩
  all_goals
    go_enter Tryd.func70, Tryd.ntmps70
    go_wp2
    go_loopw [4] (fun n w' => ∃ (pos : Nat) (acc : Int), w' = w.iter s pos ∧ n = .int .i64 acc ∧ 0 ≤ acc ∧ acc ≤ 65535 ∧ pos ≤ s.size ∧ digL (s.data.toList.drop pos) acc = O) (fun _ w' => s.size - w'.iterPos w.heap.size)
    case atStart => exact ⟨0, 0, rfl, rfl, by omega, by omega, by omega, HO.out⟩
    case round =>
      obtain ⟨pos, acc, rfl, rfl, ha, ha2, hps, hd⟩ := hrel
      by_cases hp : pos < s.size
      · rw [drop_at s pos hp] at hd
        by_cases hasc : (s[pos]'hp).toNat < 128
        · have hnx : ∀ ty, (Instr.next (.pointer (some ⟨w.heap.size, 0, none⟩)) true ty).run Tryd.prog (w.iter s pos) = .ok (.tuple #[.bool true, .int .i64 pos, .int .i32 ((s[pos]'hp).toNat : Int)]) (w.iter s (pos + 1)) := fun ty => by
            rw [run_next_any w s pos ty hp, decode_ascii s pos hp hasc]
          by_cases hdig : 48 ≤ (s[pos]'hp).toNat ∧ (s[pos]'hp).toNat ≤ 57
          · obtain ⟨g1, g2⟩ := hdig
            by_cases hbig : acc * 10 + (((s[pos]'hp).toNat : Int) - 48) ≤ 65535
            · rw [digL_yes _ _ _ g1 g2 hbig] at hd
              have HD : Hid (digL (List.drop (pos + 1) s.data.toList) (acc * 10 + (((s[pos]'hp).toNat : Int) - 48)) = O) := hd
              clear hd HO
              go_wp2
              go_roundw
              case rel => exact ⟨pos + 1, acc * 10 + (((s[pos]'hp).toNat : Int) - 48), rfl, by go_num, by omega, by omega, by omega, HD.out⟩
              case measure => simp; omega
            · rw [digL_big _ _ _ g1 g2 (by omega)] at hd
              subst hd
              clear HO
              go_wp2
              go_ret2
              exact ⟨rfl, iter_below _ _ _⟩
          · rw [digL_hi _ _ _ (by omega)] at hd
            subst hd
            clear HO
            rcases (show (s[pos]'hp).toNat < 48 ∨ 57 < (s[pos]'hp).toNat by omega) with g | g
            · go_wp2
              go_ret2
              exact ⟨rfl, iter_below _ _ _⟩
            · go_wp2
              go_ret2
              exact ⟨rfl, iter_below _ _ _⟩
        · have hh := decode_high s pos hp (by omega)
          have hnx : ∀ ty, (Instr.next (.pointer (some ⟨w.heap.size, 0, none⟩)) true ty).run Tryd.prog (w.iter s pos) = _ := fun ty => run_next_any w s pos ty hp
          rw [digL_hi _ _ _ (by omega)] at hd
          subst hd
          clear HO
          go_wp2
          go_ret2
          exact ⟨rfl, iter_below _ _ _⟩
      · rw [List.drop_eq_nil_of_le (by simp; omega)] at hd
        simp only [digL] at hd
        subst hd
        clear HO
        have hnx : ∀ ty, (Instr.next (.pointer (some ⟨w.heap.size, 0, none⟩)) true ty).run Tryd.prog (w.iter s pos) = _ := fun ty => run_next_end w s pos ty hp
        go_wp2
        go_ret2
        exact ⟨rfl, iter_below _ _ _⟩
end Go.Proofs.YteoappoacapdhaaDoor
