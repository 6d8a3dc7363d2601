/- The program's pool: had, Share. -/
import Derived.Test.YtedknoadcdnioaaPlE
namespace Go.Proofs.Ytedknoadcdnioaa
open Go.RowKit Go.Maps
set_option linter.unusedVariables false
set_option maxRecDepth 100000
def hadE (n : Nat) (q : Ps) (e f : Nat) : Int := if 6 ≤ e ∨ n ≤ f then 2 else if (oF n q f).testBit e = false then 7 else 0
def shE (n : Nat) (q : Ps) (a c f : Nat) : Int := if (6 ≤ a ∨ 6 ≤ c) ∨ n ≤ f then 2 else if (oF n q f).testBit a = false then 7 else if (oF n q f).testBit c = true then 6 else if fullN n q c = true then 11 else 0
def shQ (n : Nat) (q : Ps) (a c f : Nat) : Ps := if shE n q a c f = 0 then giveQ 2 c f q else q
end Go.Proofs.Ytedknoadcdnioaa
