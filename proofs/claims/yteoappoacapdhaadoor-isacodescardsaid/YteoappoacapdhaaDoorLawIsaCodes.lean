/- IsaCodes: an instruction's bytes, the one that bytes say, or the errors; whether it is right: as the document says. -/
import Derived.Test.YteoappoacapdhaaDoorIsaL
import Derived.Test.YteoappoacapdhaaDoorIsaRefB
import Derived.Lib.QuietBelow
namespace Go.Proofs.YteoappoacapdhaaDoor
open Go.RowKit Go.Shelf Go.Sort
set_option linter.unusedVariables false

theorem decEV_form (r : Option (Int × Int × Int × Int)) : ∃ d0 d1 d2 d3 de, decEV r = .tuple #[.agg #[.int .u8 d0, .int .u8 d1, .int .u8 d2, .int .u16 d3], .int .i64 de] := by
  cases r with
  | none => exact ⟨0, 0, 0, 0, 3, rfl⟩
  | some i => exact ⟨_, _, _, _, 0, rfl⟩
set_option maxHeartbeats 8000000 in
set_option maxRecDepth 100000 in
theorem icodes_walk (o a b m : Int) (v : Value) (bs : List UInt8) (w : World) (hO : InsOk o a b m) (hv : Bts w v bs) (hW : Wds w) (hT : Tabs w) (hP : Pow w) :
    Calls Tryd.prog 3 #[.agg #[.int .u8 o, .int .u8 a, .int .u8 b, .int .u16 m], v] w fun e w' => e = .returned (.bool true) ∧ Below w.heap.size w w' := by
  have cV := fun w h1 h2 h3 => ilive_any w h1 h2 h3
  have c1 := fun w => iencode_any o a b m w hO
  have c2 := fun w => rencode_any o a b m w hO
  have c3 := fun w h => idecode_any v bs w h
  have c4 := fun w h => rdecode_any v bs w h
  have c5 := fun w => iright_any o a b m w hO.1 hO.2.1
  have c6 := fun w => rright_any o a b m w hO.1 hO.2.1
  unfold BytP at c1 c2
  obtain ⟨d0, d1, d2, d3, de, hd⟩ := decEV_form (decO bs)
  rw [hd] at c3 c4
  clear hd
  generalize (if insR o a b m then encL o a b m else []) = X at *
  generalize (if insR o a b m then (0 : Int) else 3) = er at *
  generalize insR o a b m = ok at *
  clear hO
  have hF := Four.new w (.int .u8 o) (.int .u8 a) (.int .u8 b) (.int .u16 m)
  go_enter Tryd.func3, Tryd.ntmps3
  go_wp2_with fail
  refine (c1 _).mono ?_
  rintro e W1 ⟨⟨v1, rfl, k1⟩, hB1⟩
  rw [World.size_alloc] at hB1
  replace hF := hF.below hB1 (by omega)
  have b1 : Below w.heap.size w W1 := ((Below.refl _ w).alloc (Nat.le_refl _) _).trans (hB1.mono (by omega))
  have hs1 : w.heap.size < W1.heap.size := (Array.getElem?_eq_some_iff.1 hF).1
  have g0 := hF.c0
  have g1 := hF.c1
  have g2 := hF.c2
  have g3 := hF.c3
  clear c1 hB1
  go_wp2_with fail
  refine (c2 _).mono ?_
  rintro e W2 ⟨⟨v2, rfl, k2⟩, hB2⟩
  replace hF := hF.below hB2 (by omega)
  replace k1 := k1.below hB2 (Nat.le_refl _)
  have b2 := b1.trans (hB2.mono b1.size)
  have hs2 := hB2.size
  clear c2 hB2 b1 g0 g1 g2 g3
  go_wp2_with fail
  refine (c3 _ (hv.below b2 (Nat.le_refl _))).mono ?_
  rintro e W3 ⟨rfl, hB3⟩
  replace hF := (hF.below hB3 (by omega)).alloc (.cells #[.int .u8 d0, .int .u8 d1, .int .u8 d2, .int .u16 d3] 26)
  replace k1 := (k1.below hB3 (Nat.le_refl _)).below ((Below.refl _ W3).alloc (Nat.le_refl _) (.cells #[.int .u8 d0, .int .u8 d1, .int .u8 d2, .int .u16 d3] 26)) (Nat.le_refl _)
  replace k2 := (k2.below hB3 (Nat.le_refl _)).below ((Below.refl _ W3).alloc (Nat.le_refl _) (.cells #[.int .u8 d0, .int .u8 d1, .int .u8 d2, .int .u16 d3] 26)) (Nat.le_refl _)
  have hG := Four.new W3 (.int .u8 d0) (.int .u8 d1) (.int .u8 d2) (.int .u16 d3)
  have b3' := b2.trans (hB3.mono b2.size)
  have b3 := b3'.alloc b3'.size (.cells #[.int .u8 d0, .int .u8 d1, .int .u8 d2, .int .u16 d3] 26)
  have hs3 := hB3.size
  have hsz : (W3.alloc (.cells #[.int .u8 d0, .int .u8 d1, .int .u8 d2, .int .u16 d3] 26)).heap.size = W3.heap.size + 1 := by simp
  clear c3 hB3 b2
  go_wp2_with fail
  generalize W3.alloc (.cells #[.int .u8 d0, .int .u8 d1, .int .u8 d2, .int .u16 d3] 26) = W4 at *
  refine (c4 _ (hv.below b3 (Nat.le_refl _))).mono ?_
  rintro e W5 ⟨rfl, hB5⟩
  replace hF := (hF.below hB5 (by omega)).alloc (.cells #[.int .u8 d0, .int .u8 d1, .int .u8 d2, .int .u16 d3] 26)
  replace hG := (hG.below hB5 (by omega)).alloc (.cells #[.int .u8 d0, .int .u8 d1, .int .u8 d2, .int .u16 d3] 26)
  have hH := Four.new W5 (.int .u8 d0) (.int .u8 d1) (.int .u8 d2) (.int .u16 d3)
  replace k1 := (k1.below hB5 (Nat.le_refl _)).below ((Below.refl _ W5).alloc (Nat.le_refl _) (.cells #[.int .u8 d0, .int .u8 d1, .int .u8 d2, .int .u16 d3] 26)) (Nat.le_refl _)
  replace k2 := (k2.below hB5 (Nat.le_refl _)).below ((Below.refl _ W5).alloc (Nat.le_refl _) (.cells #[.int .u8 d0, .int .u8 d1, .int .u8 d2, .int .u16 d3] 26)) (Nat.le_refl _)
  have b5' := b3.trans (hB5.mono b3.size)
  have b5 := b5'.alloc b5'.size (.cells #[.int .u8 d0, .int .u8 d1, .int .u8 d2, .int .u16 d3] 26)
  clear c4 hB5 b3 b3' b5'
  go_wp2_with fail
  generalize W5.alloc (.cells #[.int .u8 d0, .int .u8 d1, .int .u8 d2, .int .u16 d3] 26) = W6 at *
  have g0 := fun d os => cell_regrown hF.c0 d os
  have g1 := fun d os => cell_regrown hF.c1 d os
  have g2 := fun d os => cell_regrown hF.c2 d os
  have g3 := fun d os => cell_regrown hF.c3 d os
  have g4 := fun d os => cell_regrown hG.c0 d os
  have g5 := fun d os => cell_regrown hG.c1 d os
  have g6 := fun d os => cell_regrown hG.c2 d os
  have g7 := fun d os => cell_regrown hG.c3 d os
  have g8 := fun d os => cell_regrown hH.c0 d os
  have g9 := fun d os => cell_regrown hH.c1 d os
  have ga := fun d os => cell_regrown hH.c2 d os
  have gb := fun d os => cell_regrown hH.c3 d os
  have k3 := fun d os => (k1.below (below_regrown W6 d os) (Nat.le_refl _)).text
  have k4 := fun d os => (k2.below (below_regrown W6 d os) (Nat.le_refl _)).text
  have dV := fun d os => Calls.regrown_of (cV _ (hW.later (b5.trans ((below_regrown W6 d os).mono b5.size))) (hT.later (b5.trans ((below_regrown W6 d os).mono b5.size))) (hP.later (b5.trans ((below_regrown W6 d os).mono b5.size))))
  have d5 := fun d os => Calls.regrown_of (c5 (grow (redrawn W6 d) os))
  have d6 := fun d os => Calls.regrown_of (c6 (grow (redrawn W6 d) os))
  have eI : ∀ w, (Op.equalIn 10000 26 (.agg #[.int .u8 d0, .int .u8 d1, .int .u8 d2, .int .u16 d3]) (.agg #[.int .u8 d0, .int .u8 d1, .int .u8 d2, .int .u16 d3])).run Tryd.prog w = .ok true w := fun w => by rw [eqIns]; simp
  have eG := eqGuardI
  clear hF hG hH k1 k2 cV hW hT hP c5 c6 hv
  refine wp_region_quiet_below (by kernel_rfl) (by kernel_rfl) ?_
  repeat (quiet_step (first | exact dV _ _ | exact d5 _ _ | exact d6 _ _))
  refine wpQuiet_nil ?_
  intro _ hw'
  obtain ⟨⟨dq, osq⟩, hw''⟩ := hw'
  subst hw''
  go_wp2
  go_ret
  exact ⟨by simp, b5.trans ((below_regrown W6 dq osq).mono b5.size)⟩
end Go.Proofs.YteoappoacapdhaaDoor
