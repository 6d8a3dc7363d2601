/- The program's calls of none. -/
import Derived.Test.YtodociolchnpeabCaE
namespace Go.Proofs.Ytodociolchnpeab
open Go.RowKit Go.Shelf Go.Maps Go.Sort
set_option linter.unusedVariables false
set_option maxRecDepth 100000
attribute [local go_sem] Oper.semAt_some
theorem get_nil (i : Int) (w : World) : Calls Try.prog 4 #[.pointer none, .int .i64 i] w fun r w' => r = .returned (.tuple #[.agg #[.string ⟨#[]⟩, .int .u8 0], .int .i64 1]) ∧ Below w.heap.size w w' := get_off _ i 1 rfl w (fun w => there_nil i w)
theorem put_nil (i : Int) (c : Cp) (w : World) : Calls Try.prog 8 #[.pointer none, .int .i64 i, cpV c] w fun r w' => r = .returned (.int .i64 1) ∧ Below w.heap.size w w' := put_off _ i 1 c rfl w (fun w => there_nil i w)
theorem drop_nil (i : Int) (w : World) : Calls Try.prog 9 #[.pointer none, .int .i64 i] w fun r w' => r = .returned (.int .i64 1) ∧ Below w.heap.size w w' := by
  have hG := get_nil i w
  go_enter Try.func9, Try.ntmps9
  go_wp2_with fail
  refine hG.mono ?_
  rintro o W ⟨rfl, hB⟩
  have HX : Hid (Below w.heap.size w (W.alloc (.cells #[.string ⟨#[]⟩, .int .u8 0] 23))) := hB.alloc hB.size _
  clear hG hB
  go_wp2
  go_ret
  exact ⟨rfl, HX.out⟩
theorem derive_nil (i j : Int) (l : ByteArray) (w : World) : Calls Try.prog 10 #[.pointer none, .int .i64 i, .int .i64 j, .string l] w fun o w' => o = .returned (.int .i64 1) ∧ Below w.heap.size w w' := by
  have hX := below_new w (.cells #[.string l] 9)
  refine (tderive_of _ i j l w (fun e w' => e = 1 ∧ Below w.heap.size w w') ?_).mono (by rintro o w' ⟨e, rfl, rfl, h⟩; exact ⟨rfl, h⟩)
  refine (add_off _ _ i j 1 _ _ rfl _ (get_nil i _)).mono ?_
  rintro o w' ⟨rfl, h⟩
  exact ⟨_, rfl, rfl, hX.trans (h.mono hX.size)⟩
theorem restrict_nil (i j x : Int) (w : World) : Calls Try.prog 11 #[.pointer none, .int .i64 i, .int .i64 j, .int .u8 x] w fun o w' => o = .returned (.int .i64 1) ∧ Below w.heap.size w w' := by
  have hX := below_new w (.cells #[.int .u8 x] 5)
  refine (trestrict_of _ i j x w (fun e w' => e = 1 ∧ Below w.heap.size w w') ?_).mono (by rintro o w' ⟨e, rfl, rfl, h⟩; exact ⟨rfl, h⟩)
  refine (add_off _ _ i j 1 _ _ rfl _ (get_nil i _)).mono ?_
  rintro o w' ⟨rfl, h⟩
  exact ⟨_, rfl, rfl, hX.trans (h.mono hX.size)⟩
theorem first_nil (f : Value) (e : Int) (w : World) : Calls Try.prog 18 #[.pointer none, f, .int .i64 e] w fun r w' => r = .returned (.tuple #[.int .i64 0, .int .i64 1]) ∧ Below w.heap.size w w' := by
  have HX : Hid (Below w.heap.size w ((w.alloc (.cells #[.int .i64 0] 3)).alloc (.cells #[.int .i64 1] 27))) := (below_new w _).alloc (by simp) _
  go_enter Try.func18, Try.ntmps18
  go_wp2
  exact bodyPost_ret (v := .tuple #[.int .i64 0, .int .i64 1]) (by simp [results, Try.results18, go_sem]) rfl ⟨rfl, HX.out⟩
theorem find_nil (c : Cp) (w : World) : Calls Try.prog 5 #[.pointer none, cpV c] w fun r w' => r = .returned (.tuple #[.int .i64 0, .int .i64 1]) ∧ Below w.heap.size w w' := by
  unfold cpV
  have hX := below_new w (.cells #[.string c.1, .int .u8 c.2.toNat] 23)
  have hF := fun f w => first_nil f 7 w
  go_enter Try.func5, Try.ntmps5
  go_wp2_with fail
  refine (hF _ _).mono ?_
  rintro o W ⟨rfl, hB⟩
  have HX : Hid (Below w.heap.size w W) := hX.trans (hB.mono hX.size)
  clear hX hB hF
  go_wp2
  go_ret2
  exact ⟨rfl, HX.out⟩
theorem room_nil (w : World) : Calls Try.prog 6 #[.pointer none] w fun r w' => r = .returned (.tuple #[.int .i64 0, .int .i64 1]) ∧ Below w.heap.size w w' := by
  have hF := fun f w => first_nil f 4 w
  go_enter Try.func6, Try.ntmps6
  go_wp2_with fail
  refine (hF _ _).mono ?_
  rintro o W ⟨rfl, hB⟩
  have HX : Hid (Below w.heap.size w W) := hB
  clear hB hF
  go_wp2
  go_ret2
  exact ⟨rfl, HX.out⟩
theorem opens_nil (c : Cp) (w : World) : Calls Try.prog 14 #[.pointer none, cpV c] w fun r w' => r = .returned (.bool false) ∧ Below w.heap.size w w' := by
  have hX := below_new w (.cells #[.string c.1, .int .u8 c.2.toNat] 23)
  have hF := fun w => find_nil c w
  unfold cpV at *
  go_enter Try.func14, Try.ntmps14
  go_wp2_with fail
  refine (hF _).mono ?_
  rintro o W ⟨rfl, hB⟩
  have HX : Hid (Below w.heap.size w W) := hX.trans (hB.mono hX.size)
  clear hX hB hF
  go_wp2
  go_ret
  exact ⟨rfl, HX.out⟩
theorem fork_nil (w : World) : Calls Try.prog 15 #[.pointer none] w fun r w' => r = .returned (.pointer none) ∧ w' = w := by
  go_enter Try.func15, Try.ntmps15
  go_wp2
  go_ret
  exact ⟨rfl, rfl⟩
end Go.Proofs.Ytodociolchnpeab
