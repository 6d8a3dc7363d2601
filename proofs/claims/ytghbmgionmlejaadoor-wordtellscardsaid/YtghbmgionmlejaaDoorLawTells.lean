/- The law WordTells: its walk. -/
import Derived.Test.YtghbmgionmlejaaDoorLive
import Derived.Lib.QuietBelow
namespace Go.Proofs.YtghbmgionmlejaaDoor
open Go.RowKit Go.Sort
set_option linter.unusedVariables false

theorem same_below {P : Program} {f : FuncId} {args : Array Value} {w : World} {v : Value} (h : Calls P f args w fun e w' => e = .returned v ∧ w' = w) :
    Calls P f args w fun e w' => e = .returned v ∧ Below w.heap.size w w' := h.mono fun _ _ ⟨he, hw⟩ => ⟨he, hw ▸ Below.refl _ _⟩

theorem eqGuardA : Tryd.prog.eqGuardType Tryd.prog.depth 38 = false := by kernel_rfl
theorem eqArr (w : World) (q r : Int) : (Op.equalIn 10000 38 (.agg #[.int .u8 q, .int .u8 r]) (.agg #[.int .u8 q, .int .u8 r])).run Tryd.prog w = .ok true w := by
  have h5 : ∀ x y, (Op.equalIn 9999 5 (.int .u8 x) (.int .u8 y)).run Tryd.prog w = .ok (x == y) w := fun x y => run_equalIn_int w 9998 5 .u8 .u8 x y Tryd.underlying5
  show (Op.equalIn (9998 + 1 + 1) 38 _ _).run Tryd.prog w = _
  rw [Op.equalIn]
  simp only [Sem.run_bind, run_underlying Tryd.underlying38, Result.andThen_ok]
  simp [go_sem, List.range'_succ, h5]

theorem tells_walk (a n x : Int) (f : Bool) (w : World) (ha : 0 ≤ a) (ha2 : a ≤ 65535) (hT : Tabs w)
    (c1 : Calls Tryd.prog 30 #[.int .i64 n] w fun e w' => e = .returned (.tuple #[.int .u16 x, .bool f]) ∧ w' = w)
    (c2 : Calls Tryd.prog 31 #[.int .i64 n] w fun e w' => e = .returned (.tuple #[.int .u16 x, .bool f]) ∧ w' = w) :
    Calls Tryd.prog 5 #[.int .u16 a, .int .i64 n] w fun e w' => e = .returned (.bool true) ∧ Below w.heap.size w w' := by
  have c3 := bytes_any a w ha ha2
  have c4 := fun w hT => live_any w hT
  have c5 := fun w => same_below (signed_any a w ha ha2)
  have c6 := fun w => same_below (rsigned_any a w ha ha2)
  have c7 := fun w => rbytes_any a w ha ha2
  have c8 := fun w => hex_any a w ha ha2
  have c9 := fun w => same_below (rhex_any a w ha ha2)
  have c10 := fun w => same_below (join_any (a / 256) (a % 256) w (by omega) (by omega) (by omega) (by omega))
  have e10 : a / 256 * 256 + a % 256 = a := by omega
  rw [e10] at c10
  clear e10
  generalize a / 256 = q at *
  generalize a % 256 = r at *
  generalize signedV a = sg at *
  generalize hexV a = hx at *
  go_enter Tryd.func5, Tryd.ntmps5
  go_wp2_with fail
  refine c1.mono fun e y1 ⟨he, hw⟩ => ?_
  subst he; subst hw
  go_wp2_with fail
  refine c2.mono fun e y2 ⟨he, hw⟩ => ?_
  subst he; subst hw
  go_wp2_with fail
  refine c3.mono fun e y3 ⟨he, hb3⟩ => ?_
  subst he
  have hT3 := hT.later hb3
  go_wp2_with fail
  have hbW : Below y3.heap.size y3 (y3.alloc (.cells #[.int .u8 q, .int .u8 r] 38)) := (Below.refl _ _).alloc (Nat.le_refl _) _
  have k0 : (y3.alloc (.cells #[.int .u8 q, .int .u8 r] 38)).cell? ⟨y3.heap.size, 0, none⟩ = some (.int .u8 q) := by simp [go_sem]
  have k1 : (y3.alloc (.cells #[.int .u8 q, .int .u8 r] 38)).cell? ⟨y3.heap.size, 1, none⟩ = some (.int .u8 r) := by simp [go_sem]
  have hT4 := hT3.later hbW
  generalize y3.alloc (.cells #[.int .u8 q, .int .u8 r] 38) = W at *
  have g0 := fun d os => cell_regrown k0 d os
  have g1 := fun d os => cell_regrown k1 d os
  have d4 := fun d os => Calls.regrown_of (c4 _ (hT4.later (below_regrown W d os)))
  have d5 := fun d os => Calls.regrown_of (c5 (grow (redrawn W d) os))
  have d6 := fun d os => Calls.regrown_of (c6 (grow (redrawn W d) os))
  have d7 := fun d os => Calls.regrown_of (c7 (grow (redrawn W d) os))
  have d8 := fun d os => Calls.regrown_of (c8 (grow (redrawn W d) os))
  have d9 := fun d os => Calls.regrown_of (c9 (grow (redrawn W d) os))
  have d10 := fun d os => Calls.regrown_of (c10 (grow (redrawn W d) os))
  have eA := eqArr
  have eG := eqGuardA
  clear c1 c2 c3 c4 c5 c6 c7 c8 c9 c10 hT hT3 hT4 k0 k1
  refine wp_region_quiet_below (by kernel_rfl) (by kernel_rfl) ?_
  repeat (quiet_step (first | exact d4 _ _ | exact d5 _ _ | exact d6 _ _ | exact d7 _ _ | exact d8 _ _ | exact d9 _ _ | exact d10 _ _))
  refine wpQuiet_nil ?_
  intro _ hw'
  obtain ⟨⟨dq, osq⟩, hw''⟩ := hw'
  subst hw''
  go_wp2
  go_ret
  exact ⟨rfl, (hb3.trans (hbW.mono hb3.size)).trans ((below_regrown W dq osq).mono (Nat.le_trans hb3.size hbW.size))⟩
theorem tells_all (a n : Int) (w : World) (ha : 0 ≤ a) (ha2 : a ≤ 65535) (hn : -9223372036854775808 ≤ n) (hn2 : n ≤ 9223372036854775807) (hT : Tabs w) :
    Calls Tryd.prog 5 #[.int .u16 a, .int .i64 n] w fun e w' => e = .returned (.bool true) ∧ Below w.heap.size w w' := by
  by_cases h : -32768 ≤ n ∧ n ≤ 65535
  · exact tells_walk a n _ _ w ha ha2 hT (from_yes n w h.1 h.2) (rfrom_yes n w h.1 h.2)
  · exact tells_walk a n _ _ w ha ha2 hT (from_no n w (by omega)) (rfrom_no n w (by omega))
end Go.Proofs.YtghbmgionmlejaaDoor
