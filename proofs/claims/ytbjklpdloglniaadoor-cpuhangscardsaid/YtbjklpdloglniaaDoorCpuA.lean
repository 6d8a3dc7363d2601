/- A processor as plain functions: what an instruction does to the registers, what it asks for, which registers it reads and writes; no program is named here. -/
import Derived.Test.YtbjklpdloglniaaDoorNums
import Derived.Test.YtbjklpdloglniaaDoorIsaA
import Derived.WalkKit
namespace Go.Proofs.YtbjklpdloglniaaDoor
open Go.RowKit
set_option linter.unusedVariables false

def upd (r : Nat → Int) (k : Nat) (v : Int) : Nat → Int := fun j => if j = k then v else r j
/-- Words. -/
def Wd (v : Int) : Prop := 0 ≤ v ∧ v ≤ 65535
def Rg (pc : Int) (r : Nat → Int) : Prop := Wd pc ∧ ∀ k, Wd (r k)
/-- What an operation makes of two words. -/
def recV (o a b : Int) : Int :=
  if o = 4 then addV a b else if o = 5 then subV a b else if o = 6 then loV a b else if o = 8 then bits .and .u16 a b
  else if o = 9 then bits .or .u16 a b else if o = 10 then bits .xor .u16 a b else if o = 11 then shlV a b else if o = 12 then shrV a b else a
/-- What a processor asks for: the kind, the address, the value, the register, the error. -/
abbrev Acc := Int × Int × Int × Int × Int
/-- What a right instruction makes of the registers, and what it asks for. -/
def doesP (pc : Int) (r : Nat → Int) (o a b m : Int) : (Int × (Nat → Int)) × Acc :=
  if o = 2 then ((addV pc 4, upd r a.toNat m), (0, 0, 0, 0, 0))
  else if o = 3 then ((addV pc 4, upd r a.toNat (r b.toNat)), (0, 0, 0, 0, 0))
  else if o = 7 then ((addV pc 4, upd r a.toNat (r a.toNat / r b.toNat)), (0, 0, 0, 0, 0))
  else if o = 13 then ((addV pc 4, r), (1, addV (r b.toNat) m, 0, a, 0))
  else if o = 14 then ((addV pc 4, r), (2, addV (r b.toNat) m, r a.toNat, 0, 0))
  else if o = 15 then ((addV pc 4, r), (3, addV (r b.toNat) m, 0, a, 0))
  else if o = 16 then ((addV pc 4, r), (4, addV (r b.toNat) m, r a.toNat % 256, 0, 0))
  else if o = 17 then ((m, r), (0, 0, 0, 0, 0))
  else if o = 18 then ((if r a.toNat = 0 then m else addV pc 4, r), (0, 0, 0, 0, 0))
  else if o = 19 then ((if r a.toNat = 0 then addV pc 4 else m, r), (0, 0, 0, 0, 0))
  else if o = 20 then ((if r a.toNat < r b.toNat then m else addV pc 4, r), (0, 0, 0, 0, 0))
  else if o = 21 then ((m, upd r 7 (addV pc 4)), (0, 0, 0, 0, 0))
  else if o = 22 then ((r 7, r), (0, 0, 0, 0, 0))
  else if o = 23 then ((addV pc 4, r), (5, 0, m, 0, 0))
  else if o = 0 then ((addV pc 4, r), (0, 0, 0, 0, 0))
  else ((addV pc 4, upd r a.toNat (recV o (r a.toNat) (r b.toNat))), (0, 0, 0, 0, 0))
def execP (pc : Int) (r : Nat → Int) (o a b m : Int) : (Int × (Nat → Int)) × Acc :=
  if insR o a b m = false then ((pc, r), (7, 0, 0, 0, 3))
  else if o = 1 then ((pc, r), (6, 0, 0, 0, 0))
  else if o = 7 ∧ r b.toNat = 0 then ((pc, r), (7, 0, 0, 0, 14))
  else doesP pc r o a b m
end Go.Proofs.YtbjklpdloglniaaDoor
