/- What must be whatever is asked; a nil registry. -/
import Derived.Test.YtboelnkeejmjnaaRgC
namespace Go.Proofs.Ytboelnkeejmjnaa
open Go.RowKit Go.Maps
set_option linter.unusedVariables false
set_option maxRecDepth 100000
def l1 : St := bindQ 3 7 q0
def l2 : St := diQ 3 true l1
def l3 : St := moQ 3 4 l2
theorem e1 : bindE 3 7 q0 = 0 := by decide
theorem e2 : ctE l1.C 3 = 0 := by decide
theorem e3 : unE 3 l2 = 8 := by decide
theorem e3q : unQ 3 l2 = l2 := by unfold unQ; rw [if_neg (by rw [e3]; decide)]
theorem e4 : moE 3 4 l2 = 0 := by decide
theorem e5 : (l3.F 7).getD 0 = 4 := by decide
theorem e6 : (l3.F 7).isSome = true := by decide
theorem e7 : (ctC l3.C 4).2 = true := by decide
theorem e8 : (ctC l3.C 3).2 = false := by decide
set_option maxHeartbeats 2000000 in
theorem live_any (w : World) : Calls Try.prog 8 #[] w fun e w' => e = .returned (.bool true) ∧ Below w.heap.size w w' := by
  have cN := new_any w
  have c1 := fun b rc rf W (h : RgS w.heap.size W b rc rf q0) => bind_any w.heap.size b rc rf q0 3 7 W h
  have c2 := fun b rc rf W (h : RgS w.heap.size W b rc rf l1) => dirty_any w.heap.size b rc rf l1 3 true W h
  have c3 := fun b rc rf W (h : RgS w.heap.size W b rc rf l2) => unbind_any w.heap.size b rc rf l2 3 W h
  have c4 := fun b rc rf W (h : RgS w.heap.size W b rc rf l2) => move_any w.heap.size b rc rf l2 3 4 W h
  have c5 := fun b rc rf W (h : RgS w.heap.size W b rc rf l3) => frame_any w.heap.size b rc rf l3.C l3.F 7 W h
  have c6 := fun b rc rf W (h : RgS w.heap.size W b rc rf l3) => written_any w.heap.size b rc rf l3.C l3.F 4 W h
  have c7 := fun b rc rf W (h : RgS w.heap.size W b rc rf l3) => written_any w.heap.size b rc rf l3.C l3.F 3 W h
  rw [e1] at c1
  rw [e2] at c2
  rw [e3, e3q] at c3
  rw [e4] at c4
  rw [e5, e6] at c5
  rw [e7] at c6
  rw [e8] at c7
  change ∀ b rc rf W, RgS w.heap.size W b rc rf q0 → Calls _ _ _ _ (fun r w' => _ ∧ StpS w.heap.size W w' b rc rf l1) at c1
  change ∀ b rc rf W, RgS w.heap.size W b rc rf l1 → Calls _ _ _ _ (fun r w' => _ ∧ StpS w.heap.size W w' b rc rf l2) at c2
  change ∀ b rc rf W, RgS w.heap.size W b rc rf l2 → Calls _ _ _ _ (fun r w' => _ ∧ StpS w.heap.size W w' b rc rf l3) at c4
  generalize unV 3 l2 = uv at *
  generalize l3 = L3 at *
  generalize l2 = L2 at *
  generalize l1 = L1 at *
  generalize q0 = L0 at *
  go_enter Try.func8, Try.ntmps8
  go_wp2_with fail
  refine cN.mono ?_
  rintro e W1 ⟨rfl, hA, hB1⟩
  have d1 := c1 _ _ _ W1 hA
  have HB1 := Hid3.mk hB1
  generalize w.heap.size + 1 + 1 = b at *
  generalize hrf : w.heap.size + 1 = rf at *
  clear cN c1 hA hB1 hrf
  go_wp2_with fail
  refine d1.mono ?_
  rintro e W2 ⟨rfl, hS⟩
  have HB2 := Hid3.mk (HB1.out.trans (hS.belowB HB1.out.size))
  have d2 := c2 _ _ _ W2 hS.a
  clear d1 c2 hS HB1
  go_wp2_with fail
  refine d2.mono ?_
  rintro e W3 ⟨rfl, hS⟩
  have HB3 := Hid3.mk (HB2.out.trans (hS.belowB HB2.out.size))
  have d3 := c3 _ _ _ W3 hS.a
  clear d2 c3 hS HB2
  go_wp2_with fail
  refine d3.mono ?_
  rintro e W4 ⟨rfl, hS⟩
  have HB4 := Hid3.mk (HB3.out.trans (hS.belowB HB3.out.size))
  have d4 := c4 _ _ _ W4 hS.a
  clear d3 c4 hS HB3
  go_wp2_with fail
  refine d4.mono ?_
  rintro e W5 ⟨rfl, hS⟩
  have HB5 := Hid3.mk (HB4.out.trans (hS.belowB HB4.out.size))
  have HA5 := Hid3.mk hS.a
  have d5 := c5 _ _ _ W5 hS.a
  have d6 := c6 _ _ _ W5 hS.a
  clear d4 c5 c6 hS HB4
  go_wp2_with fail
  refine d5.mono ?_
  rintro e W6 ⟨rfl, hW⟩
  rw [hW]
  clear d5 hW
  go_wp2_with fail
  refine d6.mono ?_
  rintro e W7 ⟨rfl, hB7⟩
  have d7 := c7 _ _ _ W7 (HA5.out.below hB7)
  have HB7 := Hid3.mk (HB5.out.trans (hB7.mono HB5.out.size))
  clear d6 c7 hB7 HB5 HA5
  go_wp2_with fail
  refine d7.mono ?_
  rintro e W8 ⟨rfl, hB8⟩
  have HB8 := Hid3.mk (HB7.out.trans (hB8.mono HB7.out.size))
  clear d7 hB8 HB7
  go_wp2
  go_ret
  exact ⟨rfl, HB8.out⟩
set_option maxHeartbeats 1000000 in
theorem nthere (f : Int) (w : World) : Calls Try.prog 29 #[.pointer none, .int .u8 f] w fun r w' => r = .returned (.int .i64 1) ∧ w' = w := by
  go_enter Try.func29, Try.ntmps29
  go_wp2
  go_ret
  exact ⟨rfl, rfl⟩
set_option maxHeartbeats 1000000 in
theorem ncontent (f : Int) (w : World) : Calls Try.prog 28 #[.pointer none, .int .u8 f] w fun r w' => r = .returned (.tuple #[.agg #[.int .i64 0, .bool false], .int .i64 1]) ∧ Below w.heap.size w w' := by
  have hX := below_new w (.cells #[.int .i64 0, .bool false] 56)
  have cT := nthere f (w.alloc (.cells #[.int .i64 0, .bool false] 56))
  go_enter Try.func28, Try.ntmps28
  go_wp2_with fail
  refine cT.mono ?_
  rintro r W ⟨rfl, rfl⟩
  go_wp2
  exact bodyPost_ret (v := .tuple #[.agg #[.int .i64 0, .bool false], .int .i64 1]) (by simp [results, Try.results28, go_sem]) rfl ⟨rfl, hX⟩
set_option maxHeartbeats 1000000 in
theorem nunbind (f : Int) (w : World) : Calls Try.prog 22 #[.pointer none, .int .u8 f] w fun r w' => r = .returned (.tuple #[.int .i64 0, .int .i64 1]) ∧ Below w.heap.size w w' := by
  have cC := ncontent f w
  go_enter Try.func22, Try.ntmps22
  go_wp2_with fail
  refine cC.mono ?_
  rintro r W ⟨rfl, hB⟩
  have hX := hB.trans ((below_new W (.cells #[.int .i64 0, .bool false] 56)).mono hB.size)
  go_wp2
  go_ret2
  exact ⟨rfl, hX⟩
set_option maxHeartbeats 1000000 in
theorem nsector (f : Int) (w : World) : Calls Try.prog 11 #[.pointer none, .int .u8 f] w fun r w' => r = .returned (.tuple #[.int .i64 0, .bool false]) ∧ Below w.heap.size w w' := by
  have cC := ncontent f w
  go_enter Try.func11, Try.ntmps11
  go_wp2_with fail
  refine cC.mono ?_
  rintro r W ⟨rfl, hB⟩
  have hX := hB.trans ((below_new W (.cells #[.int .i64 0, .bool false] 56)).mono hB.size)
  go_wp2
  go_ret2
  exact ⟨rfl, hX⟩
set_option maxHeartbeats 1000000 in
theorem nwritten (f : Int) (w : World) : Calls Try.prog 13 #[.pointer none, .int .u8 f] w fun r w' => r = .returned (.bool false) ∧ Below w.heap.size w w' := by
  have cC := ncontent f w
  go_enter Try.func13, Try.ntmps13
  go_wp2_with fail
  refine cC.mono ?_
  rintro r W ⟨rfl, hB⟩
  have hX := hB.trans ((below_new W (.cells #[.int .i64 0, .bool false] 56)).mono hB.size)
  go_wp2
  go_ret
  exact ⟨rfl, hX⟩
set_option maxHeartbeats 1000000 in
theorem ndirty (f : Int) (on : Bool) (w : World) : Calls Try.prog 21 #[.pointer none, .int .u8 f, .bool on] w fun r w' => r = .returned (.int .i64 1) ∧ Below w.heap.size w w' := by
  have cC := ncontent f w
  go_enter Try.func21, Try.ntmps21
  go_wp2_with fail
  refine cC.mono ?_
  rintro r W ⟨rfl, hB⟩
  have hX := hB.trans ((below_new W (.cells #[.int .i64 0, .bool false] 56)).mono hB.size)
  go_wp2
  go_ret
  exact ⟨rfl, hX⟩
set_option maxHeartbeats 1000000 in
theorem nbind (f s : Int) (w : World) : Calls Try.prog 20 #[.pointer none, .int .u8 f, .int .i64 s] w fun r w' => r = .returned (.int .i64 1) ∧ w' = w := by
  have cT := nthere f w
  go_enter Try.func20, Try.ntmps20
  go_wp2_with fail
  refine cT.mono ?_
  rintro r W ⟨rfl, rfl⟩
  go_wp2
  go_ret
  exact ⟨rfl, rfl⟩
set_option maxHeartbeats 1000000 in
theorem nmove (f t : Int) (w : World) : Calls Try.prog 14 #[.pointer none, .int .u8 f, .int .u8 t] w fun r w' => r = .returned (.int .i64 1) ∧ w' = w := by
  have cT := nthere t w
  go_enter Try.func14, Try.ntmps14
  go_wp2_with fail
  refine cT.mono ?_
  rintro r W ⟨rfl, rfl⟩
  go_wp2
  go_ret
  exact ⟨rfl, rfl⟩
set_option maxHeartbeats 1000000 in
theorem nframe (s : Int) (w : World) : Calls Try.prog 12 #[.pointer none, .int .i64 s] w fun r w' => r = .returned (.tuple #[.int .u8 0, .bool false]) ∧ w' = w := by
  go_enter Try.func12, Try.ntmps12
  go_wp2
  go_ret2
  exact ⟨rfl, rfl⟩
set_option maxHeartbeats 1000000 in
theorem nframes (w : World) : Calls Try.prog 10 #[.pointer none] w fun r w' => r = .returned (.slice none 0 0) ∧ w' = w := by
  go_enter Try.func10, Try.ntmps10
  go_wp2
  go_ret
  exact ⟨rfl, rfl⟩
set_option maxHeartbeats 1000000 in
theorem nfork (w : World) : Calls Try.prog 15 #[.pointer none] w fun r w' => r = .returned (.pointer none) ∧ w' = w := by
  go_enter Try.func15, Try.ntmps15
  go_wp2
  go_ret
  exact ⟨rfl, rfl⟩
set_option maxHeartbeats 1000000 in
theorem nclear1 (f : Int) (g : Nat) (w : World) (hc : w.cell? ⟨g, 0, none⟩ = some (.int .u8 f)) : Calls Try.prog 38 #[.pointer none, .slice (some ⟨g, 0, none⟩) 1 1] w fun r w' => r = .returned (.int .i64 0) ∧ Below w.heap.size w w' := by
  go_enter Try.func38, Try.ntmps38
  go_wp2_with fail
  go_loopw [5, 12] (fun s5 s12 wr => ∃ k : Nat, k ≤ 1 ∧ s12 = .int .i64 k ∧ s5 = .int .i64 0 ∧ Hid3 (Below w.heap.size w wr)) (fun _ s _ => 1 - (intOf s).toNat)
  case atStart => exact ⟨0, by omega, rfl, rfl, ⟨Below.refl _ _⟩⟩
  case round =>
    obtain ⟨k, hk, rfl, rfl, HB⟩ := hrel
    by_cases hlt : k = 0
    · subst hlt
      have hcr : wr.cell? ⟨g, 0, none⟩ = some (.int .u8 f) := (HB.out.cell (World.block_lt_of_cell? w _ hc)).trans hc
      have cC := ncontent f wr
      go_wp2_with fail
      refine cC.mono ?_
      rintro r W ⟨rfl, hB⟩
      have HX := Hid3.mk (HB.out.trans ((hB.trans ((below_new W (.cells #[.int .i64 0, .bool false] 56)).mono hB.size)).mono HB.out.size))
      clear cC hB
      go_wp2
      go_roundw
      case rel => exact ⟨1, by omega, by go_num, rfl, HX⟩
      case measure => simp [intOf]
    · obtain rfl : k = 1 := by omega
      go_wp2
      go_ret
      exact ⟨rfl, HB.out⟩
end Go.Proofs.Ytboelnkeejmjnaa
