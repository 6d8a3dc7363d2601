/- A nil book. -/
import Derived.Test.YtpmndhbcohjboabRvM
namespace Go.Proofs.Ytpmndhbcohjboab
open Go.RowKit Go.Maps
set_option linter.unusedVariables false
set_option maxRecDepth 100000
set_option maxHeartbeats 1000000 in
theorem nask (x y n k : Int) (w : World) : Calls Try.prog 7 #[.pointer none, .int .u8 x, .int .u8 y, .int .i64 n, .int .i64 k] w fun r w' => r = .returned (.int .i64 1) ∧ Below w.heap.size w w' := by
  have HX := Hid3.mk (Below.refl w.heap.size w)
  go_enter Try.func7, Try.ntmps7
  go_wp2
  go_ret
  exact ⟨rfl, HX.out⟩
set_option maxHeartbeats 1000000 in
theorem ndone (x y : Int) (w : World) : Calls Try.prog 8 #[.pointer none, .int .u8 x, .int .u8 y] w fun r w' => r = .returned (.int .i64 1) ∧ Below w.heap.size w w' := by
  have HX := Hid3.mk (Below.refl w.heap.size w)
  go_enter Try.func8, Try.ntmps8
  go_wp2
  go_ret
  exact ⟨rfl, HX.out⟩
set_option maxHeartbeats 1000000 in
theorem ndue (t : Int) (w : World) : Calls Try.prog 9 #[.pointer none, .int .i64 t] w fun r w' => r = .returned (.slice none 0 0) ∧ Below w.heap.size w w' := by
  have HX := Hid3.mk ((below_new w (.cells #[.pointer none] 24)).trans ((below_new (w.alloc (.cells #[.pointer none] 24)) (.cells #[.int .i64 t] 3)).mono (below_new w (.cells #[.pointer none] 24)).size))
  go_enter Try.func9, Try.ntmps9
  go_wp2
  go_ret
  exact ⟨rfl, HX.out⟩
set_option maxHeartbeats 1000000 in
theorem nnext (x : Int) (w : World) : Calls Try.prog 4 #[.pointer none, .int .u8 x] w fun r w' => r = .returned (.tuple #[.int .u8 0, .bool false]) ∧ Below w.heap.size w w' := by
  have HX := Hid3.mk (Below.refl w.heap.size w)
  go_enter Try.func4, Try.ntmps4
  go_wp2
  go_ret2
  exact ⟨rfl, HX.out⟩
set_option maxHeartbeats 1000000 in
theorem nout (x : Int) (w : World) : Calls Try.prog 10 #[.pointer none, .int .u8 x] w fun r w' => r = .returned (.int .i64 0) ∧ Below w.heap.size w w' := by
  have HX := Hid3.mk (below_new w (.cells #[.int .u8 x] 5))
  go_enter Try.func10, Try.ntmps10
  go_wp2
  go_ret
  exact ⟨rfl, HX.out⟩
set_option maxHeartbeats 1000000 in
theorem nopen  (w : World) : Calls Try.prog 11 #[.pointer none] w fun r w' => r = .returned (.slice none 0 0) ∧ Below w.heap.size w w' := by
  have HX := Hid3.mk (Below.refl w.heap.size w)
  go_enter Try.func11, Try.ntmps11
  go_wp2
  go_ret
  exact ⟨rfl, HX.out⟩
set_option maxHeartbeats 1000000 in
theorem nlost (x : Int) (w : World) : Calls Try.prog 12 #[.pointer none, .int .u8 x] w fun r w' => r = .returned (.slice none 0 0) ∧ Below w.heap.size w w' := by
  have HX := Hid3.mk (Below.refl w.heap.size w)
  go_enter Try.func12, Try.ntmps12
  go_wp2
  go_ret
  exact ⟨rfl, HX.out⟩
set_option maxHeartbeats 1000000 in
theorem nasked (x y : Int) (w : World) : Calls Try.prog 5 #[.pointer none, .int .u8 x, .int .u8 y] w fun r w' => r = .returned (.tuple #[.int .i64 0, .bool false]) ∧ Below w.heap.size w w' := by
  have HX := Hid3.mk (Below.refl w.heap.size w)
  go_enter Try.func5, Try.ntmps5
  go_wp2
  go_ret2
  exact ⟨rfl, HX.out⟩
set_option maxHeartbeats 1000000 in
theorem nfork  (w : World) : Calls Try.prog 13 #[.pointer none] w fun r w' => r = .returned (.pointer none) ∧ Below w.heap.size w w' := by
  have HX := Hid3.mk (Below.refl w.heap.size w)
  go_enter Try.func13, Try.ntmps13
  go_wp2
  go_ret
  exact ⟨rfl, HX.out⟩
/-- A deed: kind, now, within, environment, frame. -/
structure Dd where
  k : Int
  n : Int
  h : Int
  e : Int
  f : Int
def Dd.vs (d : Dd) : List Value := [.int .i64 d.k, .int .i64 d.n, .int .i64 d.h, .int .u8 d.e, .int .u8 d.f]
def Dd.V (d : Dd) : Value := .agg d.vs.toArray
def Dd.Ok (d : Dd) : Prop := 0 ≤ d.e ∧ 0 ≤ d.f
set_option maxHeartbeats 4000000 in
theorem none_law (x : Dd) (w : World) : Calls Try.prog 3 #[x.V] w fun e w' => e = .returned (.bool true) ∧ Below w.heap.size w w' := by
  obtain ⟨kk, nn, hh, ee, ff⟩ := x
  have HB0 := Hid3.mk (below_new w (.cells #[.int .i64 kk, .int .i64 nn, .int .i64 hh, .int .u8 ee, .int .u8 ff] 23))
  have HC0 := Hid3.mk (Cl.new w 23 [.int .i64 kk, .int .i64 nn, .int .i64 hh, .int .u8 ee, .int .u8 ff])
  change Calls _ _ #[.agg #[.int .i64 kk, .int .i64 nn, .int .i64 hh, .int .u8 ee, .int .u8 ff]] _ _
  go_enter Try.func3, Try.ntmps3
  go_wp2_with fail
  refine (nnext ee _).mono ?_
  rintro e V1 ⟨rfl, hB⟩
  have HB1 := Hid3.mk (HB0.out.trans (hB.mono HB0.out.size))
  have HC1 := Hid3.mk (HC0.out.below hB)
  clear hB HC0 HB0
  have y1 : V1.cell? ⟨w.heap.size, 1, none⟩ = some (.int .i64 nn) := HC1.out.cell 1
  have y2 : V1.cell? ⟨w.heap.size, 2, none⟩ = some (.int .i64 hh) := HC1.out.cell 2
  have y3 : V1.cell? ⟨w.heap.size, 3, none⟩ = some (.int .u8 ee) := HC1.out.cell 3
  have y4 : V1.cell? ⟨w.heap.size, 4, none⟩ = some (.int .u8 ff) := HC1.out.cell 4
  have yl := HC1.out.lt
  go_wp2_with fail
  refine (nasked ee ff _).mono ?_
  rintro e V2 ⟨rfl, hB⟩
  have HB2 := Hid3.mk (HB1.out.trans (hB.mono HB1.out.size))
  have HC2 := Hid3.mk (HC1.out.below hB)
  clear hB HC1 HB1 y1 y2 y3 y4 yl
  have y1 : V2.cell? ⟨w.heap.size, 1, none⟩ = some (.int .i64 nn) := HC2.out.cell 1
  have y2 : V2.cell? ⟨w.heap.size, 2, none⟩ = some (.int .i64 hh) := HC2.out.cell 2
  have y3 : V2.cell? ⟨w.heap.size, 3, none⟩ = some (.int .u8 ee) := HC2.out.cell 3
  have y4 : V2.cell? ⟨w.heap.size, 4, none⟩ = some (.int .u8 ff) := HC2.out.cell 4
  have yl := HC2.out.lt
  go_wp2_with fail
  refine (live_any _).mono ?_
  rintro e V3 ⟨rfl, hB⟩
  have HB3 := Hid3.mk (HB2.out.trans (hB.mono HB2.out.size))
  have HC3 := Hid3.mk (HC2.out.below hB)
  clear hB HC2 HB2 y1 y2 y3 y4 yl
  have y1 : V3.cell? ⟨w.heap.size, 1, none⟩ = some (.int .i64 nn) := HC3.out.cell 1
  have y2 : V3.cell? ⟨w.heap.size, 2, none⟩ = some (.int .i64 hh) := HC3.out.cell 2
  have y3 : V3.cell? ⟨w.heap.size, 3, none⟩ = some (.int .u8 ee) := HC3.out.cell 3
  have y4 : V3.cell? ⟨w.heap.size, 4, none⟩ = some (.int .u8 ff) := HC3.out.cell 4
  have yl := HC3.out.lt
  go_wp2_with fail
  refine (nask ee ff nn hh _).mono ?_
  rintro e V4 ⟨rfl, hB⟩
  have HB4 := Hid3.mk (HB3.out.trans (hB.mono HB3.out.size))
  have HC4 := Hid3.mk (HC3.out.below hB)
  clear hB HC3 HB3 y1 y2 y3 y4 yl
  have y1 : V4.cell? ⟨w.heap.size, 1, none⟩ = some (.int .i64 nn) := HC4.out.cell 1
  have y2 : V4.cell? ⟨w.heap.size, 2, none⟩ = some (.int .i64 hh) := HC4.out.cell 2
  have y3 : V4.cell? ⟨w.heap.size, 3, none⟩ = some (.int .u8 ee) := HC4.out.cell 3
  have y4 : V4.cell? ⟨w.heap.size, 4, none⟩ = some (.int .u8 ff) := HC4.out.cell 4
  have yl := HC4.out.lt
  go_wp2_with fail
  refine (ndone ee ff _).mono ?_
  rintro e V5 ⟨rfl, hB⟩
  have HB5 := Hid3.mk (HB4.out.trans (hB.mono HB4.out.size))
  have HC5 := Hid3.mk (HC4.out.below hB)
  clear hB HC4 HB4 y1 y2 y3 y4 yl
  have y1 : V5.cell? ⟨w.heap.size, 1, none⟩ = some (.int .i64 nn) := HC5.out.cell 1
  have y2 : V5.cell? ⟨w.heap.size, 2, none⟩ = some (.int .i64 hh) := HC5.out.cell 2
  have y3 : V5.cell? ⟨w.heap.size, 3, none⟩ = some (.int .u8 ee) := HC5.out.cell 3
  have y4 : V5.cell? ⟨w.heap.size, 4, none⟩ = some (.int .u8 ff) := HC5.out.cell 4
  have yl := HC5.out.lt
  go_wp2_with fail
  refine (ndue nn _).mono ?_
  rintro e V6 ⟨rfl, hB⟩
  have HB6 := Hid3.mk (HB5.out.trans (hB.mono HB5.out.size))
  have HC6 := Hid3.mk (HC5.out.below hB)
  clear hB HC5 HB5 y1 y2 y3 y4 yl
  have y1 : V6.cell? ⟨w.heap.size, 1, none⟩ = some (.int .i64 nn) := HC6.out.cell 1
  have y2 : V6.cell? ⟨w.heap.size, 2, none⟩ = some (.int .i64 hh) := HC6.out.cell 2
  have y3 : V6.cell? ⟨w.heap.size, 3, none⟩ = some (.int .u8 ee) := HC6.out.cell 3
  have y4 : V6.cell? ⟨w.heap.size, 4, none⟩ = some (.int .u8 ff) := HC6.out.cell 4
  have yl := HC6.out.lt
  go_wp2_with fail
  refine (nout ee _).mono ?_
  rintro e V7 ⟨rfl, hB⟩
  have HB7 := Hid3.mk (HB6.out.trans (hB.mono HB6.out.size))
  have HC7 := Hid3.mk (HC6.out.below hB)
  clear hB HC6 HB6 y1 y2 y3 y4 yl
  have y1 : V7.cell? ⟨w.heap.size, 1, none⟩ = some (.int .i64 nn) := HC7.out.cell 1
  have y2 : V7.cell? ⟨w.heap.size, 2, none⟩ = some (.int .i64 hh) := HC7.out.cell 2
  have y3 : V7.cell? ⟨w.heap.size, 3, none⟩ = some (.int .u8 ee) := HC7.out.cell 3
  have y4 : V7.cell? ⟨w.heap.size, 4, none⟩ = some (.int .u8 ff) := HC7.out.cell 4
  have yl := HC7.out.lt
  go_wp2_with fail
  refine (nopen _).mono ?_
  rintro e V8 ⟨rfl, hB⟩
  have HB8 := Hid3.mk (HB7.out.trans (hB.mono HB7.out.size))
  have HC8 := Hid3.mk (HC7.out.below hB)
  clear hB HC7 HB7 y1 y2 y3 y4 yl
  have y1 : V8.cell? ⟨w.heap.size, 1, none⟩ = some (.int .i64 nn) := HC8.out.cell 1
  have y2 : V8.cell? ⟨w.heap.size, 2, none⟩ = some (.int .i64 hh) := HC8.out.cell 2
  have y3 : V8.cell? ⟨w.heap.size, 3, none⟩ = some (.int .u8 ee) := HC8.out.cell 3
  have y4 : V8.cell? ⟨w.heap.size, 4, none⟩ = some (.int .u8 ff) := HC8.out.cell 4
  have yl := HC8.out.lt
  go_wp2_with fail
  refine (nlost ee _).mono ?_
  rintro e V9 ⟨rfl, hB⟩
  have HB9 := Hid3.mk (HB8.out.trans (hB.mono HB8.out.size))
  have HC9 := Hid3.mk (HC8.out.below hB)
  clear hB HC8 HB8 y1 y2 y3 y4 yl
  have y1 : V9.cell? ⟨w.heap.size, 1, none⟩ = some (.int .i64 nn) := HC9.out.cell 1
  have y2 : V9.cell? ⟨w.heap.size, 2, none⟩ = some (.int .i64 hh) := HC9.out.cell 2
  have y3 : V9.cell? ⟨w.heap.size, 3, none⟩ = some (.int .u8 ee) := HC9.out.cell 3
  have y4 : V9.cell? ⟨w.heap.size, 4, none⟩ = some (.int .u8 ff) := HC9.out.cell 4
  have yl := HC9.out.lt
  go_wp2_with fail
  refine (nfork _).mono ?_
  rintro e V10 ⟨rfl, hB⟩
  have HB10 := Hid3.mk (HB9.out.trans (hB.mono HB9.out.size))
  have HC10 := Hid3.mk (HC9.out.below hB)
  clear hB HC9 HB9 y1 y2 y3 y4 yl
  have y1 : V10.cell? ⟨w.heap.size, 1, none⟩ = some (.int .i64 nn) := HC10.out.cell 1
  have y2 : V10.cell? ⟨w.heap.size, 2, none⟩ = some (.int .i64 hh) := HC10.out.cell 2
  have y3 : V10.cell? ⟨w.heap.size, 3, none⟩ = some (.int .u8 ee) := HC10.out.cell 3
  have y4 : V10.cell? ⟨w.heap.size, 4, none⟩ = some (.int .u8 ff) := HC10.out.cell 4
  have yl := HC10.out.lt
  go_wp2
  go_ret
  exact ⟨rfl, HB10.out⟩
end Go.Proofs.Ytpmndhbcohjboab
