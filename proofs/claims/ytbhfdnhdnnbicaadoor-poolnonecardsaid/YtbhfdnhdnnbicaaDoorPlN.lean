/- The pool that is not there. -/
import Derived.Test.YtbhfdnhdnnbicaaDoorPlK
namespace Go.Proofs.YtbhfdnhdnnbicaaDoor
open Go.RowKit Go.Maps
set_option linter.unusedVariables false
set_option maxRecDepth 100000
theorem nil_there (e f : Int) (w : World) : Calls Tryd.prog 25 #[.pointer none, .int .u8 e, .int .u8 f] w fun r w' => r = .returned (.int .i64 1) ∧ w' = w := by
  go_enter Tryd.func25, Tryd.ntmps25
  go_wp2
  go_ret
  exact ⟨rfl, rfl⟩
theorem nil_quota (e m : Int) (w : World) : Calls Tryd.prog 9 #[.pointer none, .int .u8 e, .int .i64 m] w fun r w' => r = .returned (.int .i64 1) ∧ w' = w := by
  go_enter Tryd.func9, Tryd.ntmps9
  go_wp2
  go_ret
  exact ⟨rfl, rfl⟩
theorem nil_grant (e f : Int) (s : ByteArray) (r : Int) (w : World) : Calls Tryd.prog 10 #[.pointer none, .int .u8 e, .int .u8 f, .agg #[.string s, .int .u8 r]] w fun r w' => r = .returned (.int .i64 1) ∧ Below w.heap.size w w' := by
  have hX := Hid3.mk (below_new w (.cells #[.string s, .int .u8 r] 23))
  have cT := fun W => nil_there e f W
  go_enter Tryd.func10, Tryd.ntmps10
  go_wp2_with fail
  refine (cT _).mono ?_
  rintro r w' ⟨rfl, rfl⟩
  go_wp2
  go_ret
  exact ⟨rfl, hX.out⟩
theorem nil_share (a c f : Nat) (w : World) : Calls Tryd.prog 11 #[.pointer none, .int .u8 a, .int .u8 c, .int .u8 f] w fun r w' => r = .returned (.int .i64 1) ∧ w' = w := by
  obtain ⟨m, hm⟩ : ∃ m : Int, max (a : Int) (c : Int) = m := ⟨_, rfl⟩
  have cT := fun m f W => nil_there m f W
  go_enter Tryd.func11, Tryd.ntmps11
  go_wp2_with fail
  refine (cT _ _ _).mono ?_
  rintro r w' ⟨rfl, rfl⟩
  go_wp2
  go_ret
  exact ⟨rfl, rfl⟩
theorem nil_had (e f : Int) (w : World) : Calls Tryd.prog 20 #[.pointer none, .int .u8 e, .int .u8 f] w fun r w' => r = .returned (.int .i64 1) ∧ w' = w := by
  have cT := nil_there e f w
  go_enter Tryd.func20, Tryd.ntmps20
  go_wp2_with fail
  refine cT.mono ?_
  rintro r w' ⟨rfl, rfl⟩
  go_wp2
  go_ret
  exact ⟨rfl, rfl⟩
theorem nil_free (e f : Int) (w : World) : Calls Tryd.prog 5 #[.pointer none, .int .u8 e, .int .u8 f] w fun r w' => r = .returned (.tuple #[.bool false, .int .i64 1]) ∧ w' = w := by
  have cT := nil_had e f w
  go_enter Tryd.func5, Tryd.ntmps5
  go_wp2_with fail
  refine cT.mono ?_
  rintro r w' ⟨rfl, rfl⟩
  go_wp2
  go_ret2
  exact ⟨rfl, rfl⟩
theorem nil_repo (e f : Int) (w : World) : Calls Tryd.prog 6 #[.pointer none, .int .u8 e, .int .u8 f] w fun r w' => r = .returned (.tuple #[.bool false, .int .i64 1]) ∧ w' = w := by
  have cT := nil_had e f w
  go_enter Tryd.func6, Tryd.ntmps6
  go_wp2_with fail
  refine cT.mono ?_
  rintro r w' ⟨rfl, rfl⟩
  go_wp2
  go_ret2
  exact ⟨rfl, rfl⟩
theorem nil_owners (f : Int) (w : World) : Calls Tryd.prog 24 #[.pointer none, .int .u8 f] w fun r w' => r = .returned (.int .u64 0) ∧ w' = w := by
  go_enter Tryd.func24, Tryd.ntmps24
  go_wp2
  go_ret
  exact ⟨rfl, rfl⟩
theorem nil_holds (e : Nat) (f : Int) (w : World) : Calls Tryd.prog 14 #[.pointer none, .int .u8 e, .int .u8 f] w fun r w' => r = .returned (.bool false) ∧ w' = w := by
  have cO := nil_owners f w
  have cH := has_all 0 e (by omega) w
  rw [Nat.zero_testBit] at cH
  change Calls _ _ #[.int .u64 0, _] _ _ at cH
  go_enter Tryd.func14, Tryd.ntmps14
  go_wp2_with fail
  refine cO.mono ?_
  rintro r w' ⟨rfl, rfl⟩
  clear cO
  go_wp2_with fail
  refine cH.mono ?_
  rintro r w' ⟨rfl, rfl⟩
  go_wp2
  go_ret
  exact ⟨rfl, rfl⟩
theorem nil_guard (f : Int) (w : World) : Calls Tryd.prog 7 #[.pointer none, .int .u8 f] w fun r w' => r = .returned (.tuple #[.agg #[.string ⟨#[]⟩, .int .u8 0], .bool false]) ∧ Below w.heap.size w w' := by
  have hX := below_new w (.cells #[.string ⟨#[]⟩, .int .u8 0] 23)
  have hT : Two (w.alloc (.cells #[.string ⟨#[]⟩, .int .u8 0] 23)) w.heap.size 23 (.string ⟨#[]⟩) (.int .u8 0) := Two.new w _ _ _
  have cO := nil_owners f (w.alloc (.cells #[.string ⟨#[]⟩, .int .u8 0] 23))
  have HX := Hid3.mk hX
  have HT := Hid3.mk hT
  have g0 := hT.c0
  have g1 := hT.f 0
  have g2 := (hT.set0 (.string ⟨#[]⟩)).c1
  have g3 := (hT.set0 (.string ⟨#[]⟩)).f 1
  clear hX hT
  go_enter Tryd.func7, Tryd.ntmps7
  go_wp2_with fail
  refine cO.mono ?_
  rintro r w' ⟨rfl, rfl⟩
  clear cO
  generalize w.alloc (.cells #[.string ⟨#[]⟩, .int .u8 0] 23) = W at *
  go_wp2
  have hT2 := (HT.out.set0 (.string ⟨#[]⟩)).set1 (.int .u8 0)
  exact bodyPost_ret (v := .tuple #[.agg #[.string ⟨#[]⟩, .int .u8 0], .bool false]) (by simp [results, Tryd.results7, go_sem, hT2.c0, hT2.c1]) rfl ⟨rfl, Below.set2 HX.out (by omega) _ _⟩
theorem nil_frames (e : Int) (w : World) : Calls Tryd.prog 13 #[.pointer none, .int .u8 e] w fun r w' => r = .returned (.slice none 0 0) ∧ Below w.heap.size w w' := by
  have hX := Hid3.mk (below_new w (.cells #[.int .u8 e] 5))
  go_enter Tryd.func13, Tryd.ntmps13
  go_wp2
  go_ret
  first | exact ⟨rfl, hX.out⟩ | exact ⟨rfl, Below.refl _ _⟩
theorem nil_room (w : World) : Calls Tryd.prog 15 #[.pointer none] w fun r w' => r = .returned (.slice none 0 0) ∧ w' = w := by
  go_enter Tryd.func15, Tryd.ntmps15
  go_wp2
  go_ret
  exact ⟨rfl, rfl⟩
theorem nil_events (w : World) : Calls Tryd.prog 16 #[.pointer none] w fun r w' => r = .returned (.slice none 0 0) ∧ w' = w := by
  go_enter Tryd.func16, Tryd.ntmps16
  go_wp2
  go_ret
  exact ⟨rfl, rfl⟩
theorem nil_size (w : World) : Calls Tryd.prog 17 #[.pointer none] w fun r w' => r = .returned (.int .i64 0) ∧ w' = w := by
  go_enter Tryd.func17, Tryd.ntmps17
  go_wp2
  go_ret
  exact ⟨rfl, rfl⟩
theorem nil_fork (w : World) : Calls Tryd.prog 18 #[.pointer none] w fun r w' => r = .returned (.pointer none) ∧ w' = w := by
  go_enter Tryd.func18, Tryd.ntmps18
  go_wp2
  go_ret
  exact ⟨rfl, rfl⟩
theorem new_out (n : Int) (hn : n < 1 ∨ 64 < n) (w : World) : Calls Tryd.prog 19 #[.int .i64 n] w fun r w' => r = .returned (.pointer none) ∧ w' = w := by
  by_cases h : n < 1
  · go_enter Tryd.func19, Tryd.ntmps19
    go_wp2
    go_ret
    exact ⟨rfl, rfl⟩
  · have h2 : 64 < n := by omega
    go_enter Tryd.func19, Tryd.ntmps19
    go_wp2
    go_ret
    exact ⟨rfl, rfl⟩
end Go.Proofs.YtbhfdnhdnnbicaaDoor
