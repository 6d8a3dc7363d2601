/- RegNone: the walk. -/
import Derived.Test.YtjmdnlfgdnmjiaaRgN
namespace Go.Proofs.Ytjmdnlfgdnmjiaa
open Go.RowKit Go.Maps
set_option linter.unusedVariables false
set_option maxRecDepth 100000
/-- A deed: kind, sector, two frames, whether. -/
structure Dd where
  k : Int
  s : Int
  f : Int
  g : Int
  on : Bool
def Dd.vs (d : Dd) : List Value := [.int .i64 d.k, .int .i64 d.s, .int .u8 d.f, .int .u8 d.g, .bool d.on]
def Dd.V (d : Dd) : Value := .agg d.vs.toArray
def Dd.Ok (d : Dd) : Prop := 0 ≤ d.f ∧ 0 ≤ d.g
set_option maxHeartbeats 4000000 in
theorem none_law (x : Dd) (w : World) : Calls Try.prog 8 #[x.V] w fun e w' => e = .returned (.bool true) ∧ Below w.heap.size w w' := by
  obtain ⟨kk, ss, ff, gg, on⟩ := x
  have HX := Hid3.mk (below_new w (.cells #[.int .i64 kk, .int .i64 ss, .int .u8 ff, .int .u8 gg, .bool on] 49))
  have HC := Hid3.mk (Cl.new w 49 [.int .i64 kk, .int .i64 ss, .int .u8 ff, .int .u8 gg, .bool on])
  change Calls _ _ #[.agg #[.int .i64 kk, .int .i64 ss, .int .u8 ff, .int .u8 gg, .bool on]] _ _
  go_enter Try.func8, Try.ntmps8
  go_wp2_with fail
  refine (nunbind ff _).mono ?_
  rintro e V1 ⟨rfl, hB⟩
  have HB1 := Hid3.mk (HX.out.trans (hB.mono HX.out.size))
  have HC1 := Hid3.mk (HC.out.below hB)
  clear hB HC HX
  have y1 : V1.cell? ⟨w.heap.size, 1, none⟩ = some (.int .i64 ss) := HC1.out.cell 1
  have y2 : V1.cell? ⟨w.heap.size, 2, none⟩ = some (.int .u8 ff) := HC1.out.cell 2
  have y3 : V1.cell? ⟨w.heap.size, 3, none⟩ = some (.int .u8 gg) := HC1.out.cell 3
  have yl := HC1.out.lt
  go_wp2_with fail
  refine (nsector ff _).mono ?_
  rintro e V2 ⟨rfl, hB⟩
  have HB2 := Hid3.mk (HB1.out.trans (hB.mono HB1.out.size))
  have HC2 := Hid3.mk (HC1.out.below hB)
  clear hB HC1 HB1 y1 y2 y3 yl
  have y1 : V2.cell? ⟨w.heap.size, 1, none⟩ = some (.int .i64 ss) := HC2.out.cell 1
  have y2 : V2.cell? ⟨w.heap.size, 2, none⟩ = some (.int .u8 ff) := HC2.out.cell 2
  have y3 : V2.cell? ⟨w.heap.size, 3, none⟩ = some (.int .u8 gg) := HC2.out.cell 3
  have yl := HC2.out.lt
  go_wp2_with fail
  refine (nframe ss _).mono ?_
  rintro e V3 ⟨rfl, hW⟩
  rw [hW]
  clear hW
  go_wp2_with fail
  refine (live_any _).mono ?_
  rintro e V4 ⟨rfl, hB⟩
  have HB4 := Hid3.mk (HB2.out.trans (hB.mono HB2.out.size))
  have HC4 := Hid3.mk (HC2.out.below hB)
  clear hB HC2 HB2 y1 y2 y3 yl
  have y1 : V4.cell? ⟨w.heap.size, 1, none⟩ = some (.int .i64 ss) := HC4.out.cell 1
  have y2 : V4.cell? ⟨w.heap.size, 2, none⟩ = some (.int .u8 ff) := HC4.out.cell 2
  have y3 : V4.cell? ⟨w.heap.size, 3, none⟩ = some (.int .u8 gg) := HC4.out.cell 3
  have yl := HC4.out.lt
  go_wp2_with fail
  refine (nbind ff ss _).mono ?_
  rintro e V5 ⟨rfl, hW⟩
  rw [hW]
  clear hW
  go_wp2_with fail
  refine (ndirty ff true _).mono ?_
  rintro e V6 ⟨rfl, hB⟩
  have HB6 := Hid3.mk (HB4.out.trans (hB.mono HB4.out.size))
  have HC6 := Hid3.mk (HC4.out.below hB)
  clear hB HC4 HB4 y1 y2 y3 yl
  have y1 : V6.cell? ⟨w.heap.size, 1, none⟩ = some (.int .i64 ss) := HC6.out.cell 1
  have y2 : V6.cell? ⟨w.heap.size, 2, none⟩ = some (.int .u8 ff) := HC6.out.cell 2
  have y3 : V6.cell? ⟨w.heap.size, 3, none⟩ = some (.int .u8 gg) := HC6.out.cell 3
  have yl := HC6.out.lt
  go_wp2_with fail
  refine (nmove ff gg _).mono ?_
  rintro e V7 ⟨rfl, hW⟩
  rw [hW]
  clear hW
  go_wp2_with fail
  refine (nclear1 ff V6.heap.size _ (by first | exact (Cl.new V6 5 [.int .u8 ff]).cell 0)).mono ?_
  rintro e V8 ⟨rfl, hB⟩
  have hX8 := (below_new V6 (.cells #[.int .u8 ff] 5)).trans (hB.mono (below_new V6 (.cells #[.int .u8 ff] 5)).size)
  have HB8 := Hid3.mk (HB6.out.trans (hX8.mono HB6.out.size))
  have HC8 := Hid3.mk (HC6.out.below hX8)
  clear hX8
  clear hB HC6 HB6 y1 y2 y3 yl
  have y1 : V8.cell? ⟨w.heap.size, 1, none⟩ = some (.int .i64 ss) := HC8.out.cell 1
  have y2 : V8.cell? ⟨w.heap.size, 2, none⟩ = some (.int .u8 ff) := HC8.out.cell 2
  have y3 : V8.cell? ⟨w.heap.size, 3, none⟩ = some (.int .u8 gg) := HC8.out.cell 3
  have yl := HC8.out.lt
  go_wp2_with fail
  refine (nwritten ff _).mono ?_
  rintro e V9 ⟨rfl, hB⟩
  have HB9 := Hid3.mk (HB8.out.trans (hB.mono HB8.out.size))
  have HC9 := Hid3.mk (HC8.out.below hB)
  clear hB HC8 HB8 y1 y2 y3 yl
  have y1 : V9.cell? ⟨w.heap.size, 1, none⟩ = some (.int .i64 ss) := HC9.out.cell 1
  have y2 : V9.cell? ⟨w.heap.size, 2, none⟩ = some (.int .u8 ff) := HC9.out.cell 2
  have y3 : V9.cell? ⟨w.heap.size, 3, none⟩ = some (.int .u8 gg) := HC9.out.cell 3
  have yl := HC9.out.lt
  go_wp2_with fail
  refine (nframes _).mono ?_
  rintro e V10 ⟨rfl, hW⟩
  rw [hW]
  clear hW
  go_wp2_with fail
  refine (nfork _).mono ?_
  rintro e V11 ⟨rfl, hW⟩
  rw [hW]
  clear hW
  go_wp2
  go_ret
  exact ⟨rfl, HB9.out⟩
end Go.Proofs.Ytjmdnlfgdnmjiaa
