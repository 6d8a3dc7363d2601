/- The instruction that four bytes say: the program. -/
import Derived.Test.YtnknhkkhabnnkaaIsaC
import Derived.Deep.RegionHeld3
namespace Go.Proofs.Ytnknhkkhabnnkaa
open Go.RowKit
set_option linter.unusedVariables false

theorem and15b (n : Int) (h : 0 ≤ n) (h2 : n ≤ 255) : bits .and .u8 n 15 = n % 16 := by
  have h15 : (BitVec.ofInt 8 15).toNat = 2 ^ 4 - 1 := by decide
  have key : (BitVec.ofInt 8 n &&& BitVec.ofInt 8 15).toNat = (n % ((2 ^ 8 : Nat) : Int)).toNat % 2 ^ 4 := by
    rw [BitVec.toNat_and, BitVec.toNat_ofInt, h15, Nat.and_two_pow_sub_one_eq_mod]
  show IntKind.u8.wrap ((BitVec.ofInt 8 n &&& BitVec.ofInt 8 15).toNat : Nat) = n % 16
  rw [key, u8w]
  omega
def insE0 : Value := .tuple #[.agg #[.int .u8 0, .int .u8 0, .int .u8 0, .int .u16 0], .int .i64 3]
/-- An instruction and an error, as they are handed back. -/
def decEV (r : Option (Int × Int × Int × Int)) : Value := match r with
  | some i => .tuple #[.agg #[.int .u8 i.1, .int .u8 i.2.1, .int .u8 i.2.2.1, .int .u16 i.2.2.2], .int .i64 0]
  | none => insE0
end Go.Proofs.Ytnknhkkhabnnkaa
