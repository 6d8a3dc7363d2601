/- What each function of words does, told by the numbers of the text Nums: both the program's and the document's own. -/
import Derived.Test.YteoappoacapdhaaDoorRows
import Derived.Test.YteoappoacapdhaaDoorNums
import Derived.WalkKit
import Derived.WalkSpells
import Derived.WalkLawsBesides
import Derived.Handy
import Derived.Deep.QuietTactic
import Derived.BigQuiet
namespace Go.Proofs.YteoappoacapdhaaDoor
open Go.RowKit
set_option linter.unusedVariables false

theorem ret1 {v v' : Value} (h : v = v') : Ending.returned v = .returned v' := by rw [h]
theorem int1 {k : IntKind} {a b : Int} (h : a = b) : Value.int k a = .int k b := by rw [h]

theorem from_yes (n : Int) (w : World) (h : -32768 ≤ n) (h2 : n ≤ 65535) :
    Calls Tryd.prog 58 #[.int .i64 n] w fun e w' => e = .returned (.tuple #[.int .u16 (n % 65536), .bool true]) ∧ w' = w := by
  have H : Hid (IntKind.u16.wrap n = n % 65536) := u16w n
  go_enter Tryd.func58, Tryd.ntmps58
  go_wp2
  go_ret2
  refine ⟨?_, rfl⟩
  rw [← H.out]
  rfl
theorem from_no (n : Int) (w : World) (h : n < -32768 ∨ 65535 < n) :
    Calls Tryd.prog 58 #[.int .i64 n] w fun e w' => e = .returned (.tuple #[.int .u16 0, .bool false]) ∧ w' = w := by
  rcases h with h | h <;> (go_enter Tryd.func58, Tryd.ntmps58; go_wp2; go_ret2; exact ⟨rfl, rfl⟩)
theorem rfrom_yes (n : Int) (w : World) (h : -32768 ≤ n) (h2 : n ≤ 65535) :
    Calls Tryd.prog 54 #[.int .i64 n] w fun e w' => e = .returned (.tuple #[.int .u16 (n % 65536), .bool true]) ∧ w' = w := by
  by_cases h0 : n < 0
  · have H : Hid (n + 65536 = n % 65536) := by show _ = _; omega
    go_enter Tryd.func54, Tryd.ntmps54
    go_wp2
    go_ret2
    refine ⟨?_, rfl⟩
    rw [← H.out]
    rfl
  · have H : Hid (n = n % 65536) := by show _ = _; omega
    go_enter Tryd.func54, Tryd.ntmps54
    go_wp2
    go_ret2
    refine ⟨?_, rfl⟩
    show Ending.returned (.tuple #[.int .u16 n, .bool true]) = _
    exact ret1 (congrArg (fun z => Value.tuple #[.int .u16 z, .bool true]) H.out)
theorem rfrom_no (n : Int) (w : World) (h : n < -32768 ∨ 65535 < n) :
    Calls Tryd.prog 54 #[.int .i64 n] w fun e w' => e = .returned (.tuple #[.int .u16 0, .bool false]) ∧ w' = w := by
  rcases h with h | h <;> (go_enter Tryd.func54, Tryd.ntmps54; go_wp2; go_ret2; exact ⟨rfl, rfl⟩)
theorem bytes_any (a : Int) (w : World) (ha : 0 ≤ a) (ha2 : a ≤ 65535) :
    Calls Tryd.prog 38 #[.int .u16 a] w fun e w' => e = .returned (.agg #[.int .u8 (a / 256), .int .u8 (a % 256)]) ∧ Below w.heap.size w w' := by
  go_enter Tryd.func38, Tryd.ntmps38
  go_wp2
  exact bodyPost_ret (v := .agg #[.int .u8 (a / 256), .int .u8 (a % 256)]) (by simp [results, Tryd.results38, go_sem]) rfl ⟨rfl, (Below.refl _ _).alloc (Nat.le_refl _) _⟩
theorem rbytes_any (a : Int) (w : World) (ha : 0 ≤ a) (ha2 : a ≤ 65535) :
    Calls Tryd.prog 33 #[.int .u16 a] w fun e w' => e = .returned (.agg #[.int .u8 (a / 256), .int .u8 (a % 256)]) ∧ Below w.heap.size w w' := by
  go_enter Tryd.func33, Tryd.ntmps33
  go_wp2
  exact bodyPost_ret (v := .agg #[.int .u8 (a / 256), .int .u8 (a % 256)]) (by simp [results, Tryd.results33, go_sem]) rfl ⟨rfl, (Below.refl _ _).alloc (Nat.le_refl _) _⟩
theorem join_any (h l : Int) (w : World) (ha : 0 ≤ h) (ha2 : h ≤ 255) (hb : 0 ≤ l) (hb2 : l ≤ 255) :
    Calls Tryd.prog 34 #[.int .u8 h, .int .u8 l] w fun e w' => e = .returned (.int .u16 (h * 256 + l)) ∧ w' = w := by
  have H : Hid (bits BinOp.or IntKind.u16 (h * 256) l = h * 256 + l) :=
    bits_join .u16 16 (by decide) (fun n g1 g2 => by rw [u16w]; omega) 8 _ _ (by omega) (by omega) (by omega) hb (by omega) (by omega)
  go_enter Tryd.func34, Tryd.ntmps34
  go_wp2
  go_ret
  refine ⟨?_, rfl⟩
  rw [← H.out]
  rfl
end Go.Proofs.YteoappoacapdhaaDoor
