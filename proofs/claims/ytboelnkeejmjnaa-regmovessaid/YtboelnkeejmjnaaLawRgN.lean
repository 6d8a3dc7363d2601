/- RegNone: the walk. -/
import Derived.Test.YtboelnkeejmjnaaRgN
namespace Go.Proofs.Ytboelnkeejmjnaa
open Go.RowKit Go.Maps
set_option linter.unusedVariables false
set_option maxRecDepth 100000
/-- A deed: kind, sector, two frames, whether. -/
structure Dd where
  k : Int
  s : Int
  f : Int
  g : Int
  on : Bool
def Dd.vs (d : Dd) : List Value := [.int .i64 d.k, .int .i64 d.s, .int .u8 d.f, .int .u8 d.g, .bool d.on]
def Dd.V (d : Dd) : Value := .agg d.vs.toArray
def Dd.Ok (d : Dd) : Prop := 0 ≤ d.f ∧ 0 ≤ d.g
end Go.Proofs.Ytboelnkeejmjnaa
