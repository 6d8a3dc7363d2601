/- What each function of words does, told by the numbers of the text Nums: both the program's and the document's own. -/
import Derived.Test.YteoappoacapdhabDoorRows
import Derived.Test.YteoappoacapdhabDoorNums
import Derived.WalkKit
import Derived.WalkSpells
import Derived.WalkLawsBesides
import Derived.Handy
import Derived.Deep.QuietTactic
import Derived.BigQuiet
namespace Go.Proofs.YteoappoacapdhabDoor
open Go.RowKit
set_option linter.unusedVariables false

theorem ret1 {v v' : Value} (h : v = v') : Ending.returned v = .returned v' := by rw [h]
theorem int1 {k : IntKind} {a b : Int} (h : a = b) : Value.int k a = .int k b := by rw [h]

theorem from_yes (n : Int) (w : World) (h : -32768 ≤ n) (h2 : n ≤ 65535) :
    Calls Tryd.prog 27 #[.int .i64 n] w fun e w' => e = .returned (.tuple #[.int .u16 (n % 65536), .bool true]) ∧ w' = w := by
  have H : Hid (IntKind.u16.wrap n = n % 65536) := u16w n
  go_enter Tryd.func27, Tryd.ntmps27
  go_wp2
  go_ret2
  refine ⟨?_, rfl⟩
  rw [← H.out]
  rfl
theorem from_no (n : Int) (w : World) (h : n < -32768 ∨ 65535 < n) :
    Calls Tryd.prog 27 #[.int .i64 n] w fun e w' => e = .returned (.tuple #[.int .u16 0, .bool false]) ∧ w' = w := by
  rcases h with h | h <;> (go_enter Tryd.func27, Tryd.ntmps27; go_wp2; go_ret2; exact ⟨rfl, rfl⟩)
theorem bytes_any (a : Int) (w : World) (ha : 0 ≤ a) (ha2 : a ≤ 65535) :
    Calls Tryd.prog 23 #[.int .u16 a] w fun e w' => e = .returned (.agg #[.int .u8 (a / 256), .int .u8 (a % 256)]) ∧ Below w.heap.size w w' := by
  go_enter Tryd.func23, Tryd.ntmps23
  go_wp2
  exact bodyPost_ret (v := .agg #[.int .u8 (a / 256), .int .u8 (a % 256)]) (by simp [results, Tryd.results23, go_sem]) rfl ⟨rfl, (Below.refl _ _).alloc (Nat.le_refl _) _⟩
theorem join_any (h l : Int) (w : World) (ha : 0 ≤ h) (ha2 : h ≤ 255) (hb : 0 ≤ l) (hb2 : l ≤ 255) :
    Calls Tryd.prog 6 #[.int .u8 h, .int .u8 l] w fun e w' => e = .returned (.int .u16 (h * 256 + l)) ∧ w' = w := by
  have H : Hid (bits BinOp.or IntKind.u16 (h * 256) l = h * 256 + l) :=
    bits_join .u16 16 (by decide) (fun n g1 g2 => by rw [u16w]; omega) 8 _ _ (by omega) (by omega) (by omega) hb (by omega) (by omega)
  go_enter Tryd.func6, Tryd.ntmps6
  go_wp2
  go_ret
  refine ⟨?_, rfl⟩
  rw [← H.out]
  rfl
end Go.Proofs.YteoappoacapdhabDoor
