/- A nil book. -/
import Derived.Test.YtpmndhbcohjboaaRvM
namespace Go.Proofs.Ytpmndhbcohjboaa
open Go.RowKit Go.Maps
set_option linter.unusedVariables false
set_option maxRecDepth 100000
set_option maxHeartbeats 1000000 in
theorem nask (x y n k : Int) (w : World) : Calls Try.prog 13 #[.pointer none, .int .u8 x, .int .u8 y, .int .i64 n, .int .i64 k] w fun r w' => r = .returned (.int .i64 1) ∧ Below w.heap.size w w' := by
  have HX := Hid3.mk (Below.refl w.heap.size w)
  go_enter Try.func13, Try.ntmps13
  go_wp2
  go_ret
  exact ⟨rfl, HX.out⟩
set_option maxHeartbeats 1000000 in
theorem ndone (x y : Int) (w : World) : Calls Try.prog 16 #[.pointer none, .int .u8 x, .int .u8 y] w fun r w' => r = .returned (.int .i64 1) ∧ Below w.heap.size w w' := by
  have HX := Hid3.mk (Below.refl w.heap.size w)
  go_enter Try.func16, Try.ntmps16
  go_wp2
  go_ret
  exact ⟨rfl, HX.out⟩
set_option maxHeartbeats 1000000 in
theorem ndue (t : Int) (w : World) : Calls Try.prog 15 #[.pointer none, .int .i64 t] w fun r w' => r = .returned (.slice none 0 0) ∧ Below w.heap.size w w' := by
  have HX := Hid3.mk ((below_new w (.cells #[.pointer none] 23)).trans ((below_new (w.alloc (.cells #[.pointer none] 23)) (.cells #[.int .i64 t] 3)).mono (below_new w (.cells #[.pointer none] 23)).size))
  go_enter Try.func15, Try.ntmps15
  go_wp2
  go_ret
  exact ⟨rfl, HX.out⟩
set_option maxHeartbeats 1000000 in
theorem nnext (x : Int) (w : World) : Calls Try.prog 19 #[.pointer none, .int .u8 x] w fun r w' => r = .returned (.tuple #[.int .u8 0, .bool false]) ∧ Below w.heap.size w w' := by
  have HX := Hid3.mk (Below.refl w.heap.size w)
  go_enter Try.func19, Try.ntmps19
  go_wp2
  go_ret2
  exact ⟨rfl, HX.out⟩
set_option maxHeartbeats 1000000 in
theorem nout (x : Int) (w : World) : Calls Try.prog 12 #[.pointer none, .int .u8 x] w fun r w' => r = .returned (.int .i64 0) ∧ Below w.heap.size w w' := by
  have HX := Hid3.mk (below_new w (.cells #[.int .u8 x] 5))
  go_enter Try.func12, Try.ntmps12
  go_wp2
  go_ret
  exact ⟨rfl, HX.out⟩
set_option maxHeartbeats 1000000 in
theorem nopen  (w : World) : Calls Try.prog 14 #[.pointer none] w fun r w' => r = .returned (.slice none 0 0) ∧ Below w.heap.size w w' := by
  have HX := Hid3.mk (Below.refl w.heap.size w)
  go_enter Try.func14, Try.ntmps14
  go_wp2
  go_ret
  exact ⟨rfl, HX.out⟩
set_option maxHeartbeats 1000000 in
theorem nlost (x : Int) (w : World) : Calls Try.prog 18 #[.pointer none, .int .u8 x] w fun r w' => r = .returned (.slice none 0 0) ∧ Below w.heap.size w w' := by
  have HX := Hid3.mk (Below.refl w.heap.size w)
  go_enter Try.func18, Try.ntmps18
  go_wp2
  go_ret
  exact ⟨rfl, HX.out⟩
set_option maxHeartbeats 1000000 in
theorem nasked (x y : Int) (w : World) : Calls Try.prog 17 #[.pointer none, .int .u8 x, .int .u8 y] w fun r w' => r = .returned (.tuple #[.int .i64 0, .bool false]) ∧ Below w.heap.size w w' := by
  have HX := Hid3.mk (Below.refl w.heap.size w)
  go_enter Try.func17, Try.ntmps17
  go_wp2
  go_ret2
  exact ⟨rfl, HX.out⟩
set_option maxHeartbeats 1000000 in
theorem nfork  (w : World) : Calls Try.prog 20 #[.pointer none] w fun r w' => r = .returned (.pointer none) ∧ Below w.heap.size w w' := by
  have HX := Hid3.mk (Below.refl w.heap.size w)
  go_enter Try.func20, Try.ntmps20
  go_wp2
  go_ret
  exact ⟨rfl, HX.out⟩
/-- A deed: kind, now, within, environment, frame. -/
structure Dd where
  k : Int
  n : Int
  h : Int
  e : Int
  f : Int
def Dd.vs (d : Dd) : List Value := [.int .i64 d.k, .int .i64 d.n, .int .i64 d.h, .int .u8 d.e, .int .u8 d.f]
def Dd.V (d : Dd) : Value := .agg d.vs.toArray
def Dd.Ok (d : Dd) : Prop := 0 ≤ d.e ∧ 0 ≤ d.f
end Go.Proofs.Ytpmndhbcohjboaa
