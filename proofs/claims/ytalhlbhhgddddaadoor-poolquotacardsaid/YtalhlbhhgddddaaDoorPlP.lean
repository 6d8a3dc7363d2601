/- math/bits.TrailingZeros64 of a set of at most nine; its table as the program's text lays it. -/
import Derived.Test.YtalhlbhhgddddaaDoorPlO
import Derived.Shelf.Spec.TrailingZeros
namespace Go.Proofs.YtalhlbhhgddddaaDoor
open Go.RowKit Go.Maps Go.Shelf
set_option linter.unusedVariables false
set_option maxRecDepth 100000
def TzTab (w : World) : Prop := TabAt 0 Lib.deBruijn64tab w
def ix9 (s : Nat) : Nat := 2 ^ tz9 s * 285870213051353865 % 18446744073709551616 / 288230376151711744
theorem tz_key : ∀ x : Nat, x < 512 → x ≠ 0 → IntKind.u64.wrap (bits BinOp.and IntKind.u64 (x : Int) (IntKind.u64.wrap (-(x : Int))) * 285870213051353865) / 288230376151711744 = ((ix9 x : Nat) : Int) ∧ ix9 x < 64 ∧ ix9 x < Lib.deBruijn64tab.length ∧ Lib.deBruijn64tab.getD (ix9 x) 0 = tz9 x := by decide +kernel
theorem TzTab.low {w w' : World} (h : TzTab w) (k : Below w.heap.size w w') : TzTab w' := fun j hj => (k.cell (World.block_lt_of_cell? w _ (h j hj))).trans (h j hj)
set_option maxHeartbeats 1000000 in
theorem tz_core (x k idx : Nat) (w : World) (hx0 : ((x : Int) == 0) = false) (key : IntKind.u64.wrap (bits BinOp.and IntKind.u64 (x : Int) (IntKind.u64.wrap (-(x : Int))) * 285870213051353865) / 288230376151711744 = (idx : Int)) (hi : idx < 64) (hk : k < 64) (hcell : w.cell? ⟨0, idx, none⟩ = some (.int .u8 k)) :
    Calls Tryd.prog 70 #[.int .u64 x] w fun r w' => r = .returned (.int .i64 k) ∧ w' = w := by
  go_enter Tryd.func70, Tryd.ntmps70
  go_wp2_with (simp only [key])
  go_ret
  exact ⟨rfl, rfl⟩
theorem tz_any (x : Nat) (hx : x < 512) (h0 : x ≠ 0) (w : World) (hT : TzTab w) : Calls Tryd.prog 70 #[.int .u64 x] w fun r w' => r = .returned (.int .i64 (tz9 x)) ∧ w' = w := by
  obtain ⟨key, k1, k2, k3⟩ := tz_key x hx h0
  have hcell := hT (ix9 x) k2
  rw [k3] at hcell
  have htz := (bitsL_step x hx h0).2.1
  exact tz_core x (tz9 x) (ix9 x) w (by simpa using h0) key k1 (by omega) hcell
end Go.Proofs.YtalhlbhhgddddaaDoor
