/- Where a rune from 128 on stands in a text of ASCII: nowhere. -/
import Derived.Test.YteoappoacapdhaaDoorSign
import Derived.Test.YteoappoacapdhaaDoorHexW
import Derived.WalkMore
namespace Go.Proofs.YteoappoacapdhaaDoor
open Go.RowKit
set_option linter.unusedVariables false

def Asc (s : ByteArray) : Prop := ∀ (k : Nat) (h : k < s.size), (s[k]'h).toNat < 128

set_option maxHeartbeats 1000000 in
set_option maxRecDepth 100000 in
theorem idx_err (s : ByteArray) (w : World) (hs : Asc s) (hsz : s.size ≤ 1000) :
    Calls Tryd.prog 79 #[.string s, .int .i32 65533] w fun e w' => e = .returned (.int .i64 (-1)) ∧ Below w.heap.size w w' := by
  go_enter Tryd.func79, Tryd.ntmps79
  go_wp2
  go_loopw [] (fun w' => ∃ (pos : Nat), w' = w.iter s pos ∧ pos ≤ s.size) (fun w' => s.size - w'.iterPos w.heap.size)
  case atStart => exact ⟨0, rfl, by omega⟩
  case round =>
    obtain ⟨pos, rfl, hp⟩ := hrel
    by_cases h : pos < s.size
    · have ha := hs pos h
      have hne : (((s[pos]'h).toNat : Int) == 65533) = false := by rw [beq_eq_false_iff_ne]; omega
      have hnx : ∀ ty, (Instr.next (.pointer (some ⟨w.heap.size, 0, none⟩)) true ty).run Tryd.prog (w.iter s pos) = .ok (.tuple #[.bool true, .int .i64 pos, .int .i32 ((s[pos]'h).toNat : Int)]) (w.iter s (pos + 1)) := fun ty => by
        rw [run_next_any w s pos ty h, decode_ascii s pos h ha]
      clear hs
      go_wp2
      go_roundw
      case rel => exact ⟨pos + 1, rfl, by omega⟩
      case measure => simp; omega
    · have hnx : ∀ ty, (Instr.next (.pointer (some ⟨w.heap.size, 0, none⟩)) true ty).run Tryd.prog (w.iter s pos) = _ := fun ty => run_next_end w s pos ty h
      clear hs
      go_wp2
      go_ret
      exact ⟨rfl, iter_below _ _ _⟩

set_option maxHeartbeats 1000000 in
set_option maxRecDepth 100000 in
theorem idx_bad (s : ByteArray) (r : Int) (w : World) (h : 128 ≤ r) (hv : Lib.validRune r = false) (hne : (r == 65533) = false) :
    Calls Tryd.prog 79 #[.string s, .int .i32 r] w fun e w' => e = .returned (.int .i64 (-1)) ∧ Below w.heap.size w w' := by
  have cV := Tryd.utf8_ValidRune r w
  rw [hv] at cV
  go_enter Tryd.func79, Tryd.ntmps79
  go_wp2_with (go_at_call 88; refine cV.mono ?_; rintro e w' ⟨rfl, rfl⟩)
  go_ret
  exact ⟨rfl, Below.refl _ _⟩

theorem indexByte_not (l : List UInt8) (c : UInt8) (h : ∀ b ∈ l, b ≠ c) : Lib.indexByte l c = -1 := by
  induction l with
  | nil => rfl
  | cons b l ih =>
    have h1 : (b == c) = false := by rw [beq_eq_false_iff_ne]; exact h b (by simp)
    rw [Lib.indexByte, h1, ih (fun x hx => h x (by simp [hx]))]
    rfl
theorem Asc.mem {s : ByteArray} (hs : Asc s) (b : UInt8) (h : b ∈ s.data.toList) : b.toNat < 128 := by
  obtain ⟨k, hk, e⟩ := List.getElem_of_mem h
  have := hs k (by simpa using hk)
  rw [← e]
  exact this

theorem run_ix (s : ByteArray) (k : Nat) (h : k < s.size) (w : World) : (Instr.index 9 (.string s) (.int .i64 (k : Int))).run Tryd.prog w = .ok (.int .u8 ((s[k]'h).toNat : Int)) w := by
  have h' : (k : Int) < (s.size : Int) := by omega
  simp [go_sem, Tryd.underlying9, h']
theorem run_sl (s : ByteArray) (k : Nat) (h : k ≤ s.size) (w : World) : (Instr.slice 9 (.string s) (some (.int .i64 (k : Int))) none none).run Tryd.prog w = .ok (.string (s.extract k s.size)) w := by
  have h' : (k : Int) ≤ (s.size : Int) := by omega
  simp [go_sem, Tryd.underlying9, h']

set_option maxHeartbeats 1000000 in
set_option maxRecDepth 100000 in
theorem idx_good (s rs : ByteArray) (L : Nat) (r : Int) (w : World) (h : 128 ≤ r) (hv : Lib.validRune r = true) (hne : (r == 65533) = false) (hrs : Utf8.encode r = rs) (hz : rs.size = L + 1) (hz1 : 1 ≤ L) (hz2 : L ≤ 3) (hl : 128 ≤ (rs[L]'(by omega)).toNat) (hs : Asc s) (hsz : s.size ≤ 1000) :
    Calls Tryd.prog 79 #[.string s, .int .i32 r] w fun e w' => e = .returned (.int .i64 (-1)) ∧ Below w.heap.size w w' := by
  have cV := Tryd.utf8_ValidRune r w
  rw [hv] at cV
  by_cases hlt : L < s.size
  · have ha := hs L hlt
    have hlt' : (L : Int) < (s.size : Int) := by omega
    have hb : L < rs.size := by omega
    have hn : (((s[L]'hlt).toNat : Int) != ((rs[L]'hb).toNat : Int)) = true := by rw [bne_iff_ne]; omega
    have c53 := fun w => Tryd.strings_IndexByte (s.extract (L + 1) s.size) ((rs[L]'hb).toNat : Int) w
    have e53 : Lib.indexByte (s.extract (L + 1) s.size).data.toList ((rs[L]'hb).toNat : Int).toNat.toUInt8 = -1 := by
      refine indexByte_not _ _ fun b hm e => ?_
      rw [Lib.extract_to_end] at hm
      have h1 := hs.mem b (List.mem_of_mem_drop hm)
      rw [e] at h1
      simp at h1
      omega
    rw [e53] at c53
    clear e53
    have hwr : IntKind.i64.wrap ((L : Int) + 1) = (L : Int) + 1 := by rw [IntKind.wrap_i64]; omega
    have hle : (L : Int) + 1 ≤ (s.size : Int) := by omega
    have hix := run_ix rs L hb
    have hsl := run_sl s (L + 1) (by omega)
    rw [show ((L + 1 : Nat) : Int) = (L : Int) + 1 by omega] at hsl
    go_enter Tryd.func79, Tryd.ntmps79
    go_wp2_with (go_at_call 88; refine cV.mono ?_; rintro e w' ⟨rfl, rfl⟩)
    go_step3
    go_wp2
    refine wp_loop_rounds 1 ?_
    rw [rounds_succ]
    go_wp2
    go_step3
    go_wp2
    go_quiet (fail)
    have hB : Below w'.heap.size w' (w'.drewN nq) := below_drewN (Below.refl _ _) nq
    generalize w'.drewN nq = y at *
    go_wp2
    go_quiet ((go_at_call 87; exact Calls.quiet_of_same (c53 _)))
    go_wp2
    rw [Exit.noGoto_ret]
    go_wp2
    rw [Exit.noGoto_ret]
    go_ret
    exact ⟨rfl, below_drewN hB _⟩
  · have hlt' : ¬ (L : Int) < (s.size : Int) := by omega
    go_enter Tryd.func79, Tryd.ntmps79
    go_wp2_with (go_at_call 88; refine cV.mono ?_; rintro e w' ⟨rfl, rfl⟩)
    go_step3
    go_wp2
    refine wp_loop_rounds 1 ?_
    rw [rounds_succ]
    go_wp2
    rw [Exit.noGoto_ret]
    go_ret
    exact ⟨rfl, Below.refl _ _⟩
end Go.Proofs.YteoappoacapdhaaDoor
