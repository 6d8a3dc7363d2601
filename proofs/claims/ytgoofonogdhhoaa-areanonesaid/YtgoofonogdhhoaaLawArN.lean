/- AreaNone: the walk. -/
import Derived.Test.YtgoofonogdhhoaaArN
namespace Go.Proofs.Ytgoofonogdhhoaa
open Go.RowKit Go.Maps
set_option linter.unusedVariables false
set_option maxRecDepth 100000
set_option maxHeartbeats 4000000 in
theorem none_law (x : Dd) (w : World) : Calls Try.prog 8 #[x.V] w fun e w' => e = .returned (.bool true) ∧ Below w.heap.size w w' := by
  obtain ⟨kk, uu, wd, ⟨s0, s1, s2, s3, s4, s5, s6, s7, s8⟩⟩ := x
  have hX := below_new w (.cells #[.int .i64 kk, .int .u8 uu, .int .u16 wd, .int .u16 s0, .int .u16 s1, .int .u16 s2, .int .u16 s3, .int .u16 s4, .int .u16 s5, .int .u16 s6, .int .u16 s7, .int .u16 s8] 37)
  have HC := Hid3.mk (Cl.new w 37 [.int .i64 kk, .int .u8 uu, .int .u16 wd, .int .u16 s0, .int .u16 s1, .int .u16 s2, .int .u16 s3, .int .u16 s4, .int .u16 s5, .int .u16 s6, .int .u16 s7, .int .u16 s8])
  have cS := fun W => nset ⟨s0, s1, s2, s3, s4, s5, s6, s7, s8⟩ W
  change ∀ W, Calls _ _ #[_, .agg #[.int .u16 s0, .int .u16 s1, .int .u16 s2, .int .u16 s3, .int .u16 s4, .int .u16 s5, .int .u16 s6, .int .u16 s7, .int .u16 s8]] _ _ at cS
  have HX := Hid3.mk hX
  have eG := eqGuardR
  have eM : ∀ w, (Op.equalIn 10000 26 (.agg #[.int .u16 0, .int .u16 0, .int .u16 0, .int .u16 0, .int .u16 0, .int .u16 0, .int .u16 0, .int .u16 0, .int .u16 0]) (.agg #[.int .u16 0, .int .u16 0, .int .u16 0, .int .u16 0, .int .u16 0, .int .u16 0, .int .u16 0, .int .u16 0, .int .u16 0])).run Try.prog w = .ok true w := fun w => eqRgs w rg0
  clear hX
  change Calls _ _ #[.agg #[.int .i64 kk, .int .u8 uu, .int .u16 wd, .int .u16 s0, .int .u16 s1, .int .u16 s2, .int .u16 s3, .int .u16 s4, .int .u16 s5, .int .u16 s6, .int .u16 s7, .int .u16 s8]] _ _
  go_enter Try.func8, Try.ntmps8
  go_wp2_with fail
  refine (nwhere uu _).mono ?_
  rintro e W1 ⟨rfl, hW⟩
  rw [hW]
  clear hW
  have cL := live_any (w.alloc (.cells #[.int .i64 kk, .int .u8 uu, .int .u16 wd, .int .u16 s0, .int .u16 s1, .int .u16 s2, .int .u16 s3, .int .u16 s4, .int .u16 s5, .int .u16 s6, .int .u16 s7, .int .u16 s8] 37))
  go_wp2_with fail
  refine cL.mono ?_
  rintro e W2 ⟨rfl, hB2⟩
  have hC2 := HC.out.below hB2
  have HB2 := Hid3.mk (HX.out.trans (hB2.mono HX.out.size))
  have x1 : W2.cell? ⟨w.heap.size, 1, none⟩ = some (.int .u8 uu) := hC2.cell 1
  have x2 : W2.cell? ⟨w.heap.size, 2, none⟩ = some (.int .u16 wd) := hC2.cell 2
  have HC2 := Hid3.mk hC2
  clear cL hB2 HC hC2 HX
  go_wp2_with fail
  refine (nentry uu wd W2).mono ?_
  rintro e W3 ⟨rfl, hW⟩
  rw [hW]
  clear hW
  go_wp2_with fail
  refine (nup uu wd W2).mono ?_
  rintro e W4 ⟨rfl, hB4⟩
  have hC4 := HC2.out.below hB4
  have HB4 := Hid3.mk (HB2.out.trans (hB4.mono HB2.out.size))
  have y0 : W4.cell? ⟨w.heap.size, 3, none⟩ = some (.int .u16 s0) := hC4.cell 3
  have y1 : W4.cell? ⟨w.heap.size, 4, none⟩ = some (.int .u16 s1) := hC4.cell 4
  have y2 : W4.cell? ⟨w.heap.size, 5, none⟩ = some (.int .u16 s2) := hC4.cell 5
  have y3 : W4.cell? ⟨w.heap.size, 6, none⟩ = some (.int .u16 s3) := hC4.cell 6
  have y4 : W4.cell? ⟨w.heap.size, 7, none⟩ = some (.int .u16 s4) := hC4.cell 7
  have y5 : W4.cell? ⟨w.heap.size, 8, none⟩ = some (.int .u16 s5) := hC4.cell 8
  have y6 : W4.cell? ⟨w.heap.size, 9, none⟩ = some (.int .u16 s6) := hC4.cell 9
  have y7 : W4.cell? ⟨w.heap.size, 10, none⟩ = some (.int .u16 s7) := hC4.cell 10
  have y8 : W4.cell? ⟨w.heap.size, 11, none⟩ = some (.int .u16 s8) := hC4.cell 11
  clear hB4 hC4 HC2 HB2 x1 x2
  go_wp2_with fail
  refine (nret W4).mono ?_
  rintro e W5 ⟨rfl, hW⟩
  rw [hW]
  clear hW
  go_wp2_with fail
  refine (cS W4).mono ?_
  rintro e W6 ⟨rfl, hB6⟩
  have HB6 := Hid3.mk (HB4.out.trans (hB6.mono HB4.out.size))
  clear hB6 HB4 y0 y1 y2 y3 y4 y5 y6 y7 y8 cS
  go_wp2_with fail
  refine (nkill W6).mono ?_
  rintro e W7 ⟨rfl, hW⟩
  rw [hW]
  clear hW
  go_wp2_with fail
  refine (nregs W6).mono ?_
  rintro e W8 ⟨rfl, hB8⟩
  have HB8 := Hid3.mk (HB6.out.trans (hB8.mono HB6.out.size))
  clear hB8 HB6
  go_wp2_with fail
  refine (ndepth W8).mono ?_
  rintro e W9 ⟨rfl, hW⟩
  rw [hW]
  clear hW
  go_wp2_with fail
  refine (nentries W8).mono ?_
  rintro e W10 ⟨rfl, hW⟩
  rw [hW]
  clear hW
  go_wp2_with fail
  refine (nalive W8).mono ?_
  rintro e W11 ⟨rfl, hB11⟩
  have HB11 := Hid3.mk (HB8.out.trans (hB11.mono HB8.out.size))
  clear hB11 HB8
  go_wp2_with fail
  refine (nfork W11).mono ?_
  rintro e W12 ⟨rfl, hW⟩
  rw [hW]
  clear hW
  go_wp2
  go_ret
  exact ⟨rfl, HB11.out⟩
end Go.Proofs.Ytgoofonogdhhoaa
