/- The program's calls of none. -/
import Derived.Test.YtgfiliodbggahabQuE
namespace Go.Proofs.Ytgfiliodbggahab
open Go.RowKit Go.Shelf Go.Maps
set_option linter.unusedVariables false
set_option maxRecDepth 100000
attribute [local go_sem] Oper.semAt_some
theorem take_nil (e p : Int) (w : World) : Calls Try.prog 7 #[.pointer none, .int .u8 e, .int .i64 p] w fun r w' => r = .returned (.int .i64 1) ∧ w' = w := by
  go_enter Try.func7, Try.ntmps7
  go_wp2
  go_ret
  exact ⟨rfl, rfl⟩
theorem there_nil (e p : Int) (w : World) : Calls Try.prog 18 #[.pointer none, .int .u8 e, .int .i64 p] w fun r w' => r = .returned (.int .i64 1) ∧ w' = w := by
  go_enter Try.func18, Try.ntmps18
  go_wp2
  go_ret
  exact ⟨rfl, rfl⟩
set_option maxHeartbeats 1000000 in
theorem give_nil (e p t : Int) (w : World) : Calls Try.prog 8 #[.pointer none, .int .u8 e, .int .i64 p, .int .u8 t] w fun r w' => r = .returned (.int .i64 1) ∧ w' = w := by
  have cE := there_nil e p w
  have cT := there_nil t p w
  by_cases hh : e < t
  · go_enter Try.func8, Try.ntmps8
    go_wp2_with fail
    refine cT.mono ?_
    rintro r W ⟨rfl, rfl⟩
    go_wp2
    go_ret
    exact ⟨rfl, rfl⟩
  · go_enter Try.func8, Try.ntmps8
    go_wp2_with fail
    refine cE.mono ?_
    rintro r W ⟨rfl, rfl⟩
    go_wp2
    go_ret
    exact ⟨rfl, rfl⟩
theorem drop_nil (e p : Int) (w : World) : Calls Try.prog 9 #[.pointer none, .int .u8 e, .int .i64 p] w fun r w' => r = .returned (.int .i64 1) ∧ w' = w := by
  go_enter Try.func9, Try.ntmps9
  go_wp2
  go_ret
  exact ⟨rfl, rfl⟩
theorem out_nil (e : Int) (w : World) : Calls Try.prog 10 #[.pointer none, .int .u8 e] w fun r w' => r = .returned (.int .i64 0) ∧ w' = w := by
  go_enter Try.func10, Try.ntmps10
  go_wp2
  go_ret
  exact ⟨rfl, rfl⟩
theorem over_nil (e p : Int) (w : World) : Calls Try.prog 11 #[.pointer none, .int .u8 e, .int .i64 p] w fun r w' => r = .returned (.int .i64 1) ∧ w' = w := by
  go_enter Try.func11, Try.ntmps11
  go_wp2
  go_ret
  exact ⟨rfl, rfl⟩
theorem at_nil (p : Int) (w : World) : Calls Try.prog 5 #[.pointer none, .int .i64 p] w fun r w' => r = .returned (.tuple #[.int .u8 0, .bool false]) ∧ w' = w := by
  go_enter Try.func5, Try.ntmps5
  go_wp2
  go_ret2
  exact ⟨rfl, rfl⟩
theorem pen_nil (e : Int) (w : World) : Calls Try.prog 13 #[.pointer none, .int .u8 e] w fun r w' => r = .returned (.int .i64 0) ∧ w' = w := by
  go_enter Try.func13, Try.ntmps13
  go_wp2
  go_ret
  exact ⟨rfl, rfl⟩
theorem now_nil (w : World) : Calls Try.prog 14 #[.pointer none] w fun r w' => r = .returned (.int .i64 (-1)) ∧ w' = w := by
  go_enter Try.func14, Try.ntmps14
  go_wp2
  go_ret
  exact ⟨rfl, rfl⟩
theorem fork_nil (w : World) : Calls Try.prog 15 #[.pointer none] w fun r w' => r = .returned (.pointer none) ∧ w' = w := by
  go_enter Try.func15, Try.ntmps15
  go_wp2
  go_ret
  exact ⟨rfl, rfl⟩
theorem tkn_in (n : Nat) (fr : Int) (w : World) :
    CallsIn Fence.wide n Try.prog 16 #[.pointer none, .int .i64 fr] w fun e w' => e = .returned (.func (.func 20) #[] #[.pointer (some ⟨w.heap.size, 0, none⟩), .pointer (some ⟨w.heap.size + 1, 0, none⟩)]) ∧ w' = (w.alloc (.cells #[.pointer none] 24)).alloc (.cells #[.int .i64 fr] 3) := by
  refine callsIn_of_wp Try.func16 rfl trivial ?_ rfl
  simp only [Try.ntmps16, List.size_toArray, List.length_cons, List.length_nil, Nat.reduceAdd, Nat.reduceSub, Array.replicate_succ, Array.replicate_zero, List.push_toArray, List.append_toArray, List.nil_append, List.cons_append]
  gi_wp2
  go_ret
  exact ⟨rfl, rfl⟩
theorem tkn1_in (n : Nat) (l bv bf : Nat) (J Jx : List Pe → World → Prop) (W : World) (hc : W.cell? ⟨bv, 0, none⟩ = some (.pointer none)) (h0 : J [] W) :
    CallsIn Fence.wide n Try.prog 20 #[.func (.yield l) #[] #[], .pointer (some ⟨bv, 0, none⟩), .pointer (some ⟨bf, 0, none⟩)] W fun e W' => (∃ v, e = .returned v) ∧
      ((∃ ys, ys = [] ∧ J ys W') ∨ (∃ pre, False ∧ Jx pre W')) := by
  refine callsIn_of_wp Try.func20 rfl trivial ?_ rfl
  simp only [Try.ntmps20, List.size_toArray, List.length_cons, List.length_nil, Nat.reduceAdd, Nat.reduceSub, Array.replicate_succ, Array.replicate_zero, List.push_toArray, List.append_toArray, List.nil_append, List.cons_append]
  gi_wp2
  refine bodyPost_ret (results_none rfl _ _ _) rfl ?_
  exact ⟨⟨_, rfl⟩, .inl ⟨[], rfl, h0⟩⟩
theorem tkn_stops (n : Nat) (bv bf : Nat) (w : World) (hb : bv < w.heap.size) (hc : w.cell? ⟨bv, 0, none⟩ = some (.pointer none)) :
    SeqStopsK Fence.wide n Try.prog 20 #[.pointer (some ⟨bv, 0, none⟩), .pointer (some ⟨bf, 0, none⟩)] peV (fun _ _ => True) (fun ys => ys = []) (fun pre => False) 0 w := fun l J Jx W hW hJ hJx hY h0 =>
  tkn1_in n l bv bf J Jx W ((hW.cell (p := ⟨bv, 0, none⟩) hb).trans hc) h0
set_option maxHeartbeats 1000000 in
theorem placesn_in (env : Int) (w : World) (n : Nat) (hn : 5 ≤ n) :
    CallsIn Fence.wide n Try.prog 12 #[.pointer none, .int .u8 env] w fun e W' => e = .returned (.slice none 0 0) ∧ Below w.heap.size w W' := by
  have hw1 : 1 ≤ n := by omega
  have hro : Fence.wide.round = none := rfl
  refine callsIn_of_wp_marks Try.func12 rfl trivial ?_ rfl
  simp only [Try.ntmps12, List.size_toArray, List.length_cons, List.length_nil, Nat.reduceAdd, Nat.reduceSub, Array.replicate_succ, Array.replicate_zero, List.push_toArray, List.append_toArray, List.nil_append, List.cons_append]
  gi_wp2_with (refine ⟨trivial, ?_⟩; gi_at_call 16; refine (tkn_in (n - 1) _ _).mono ?_; rintro e w' ⟨rfl, rfl⟩)
  have bL := Boxed.new (w.alloc (.cells #[.int .u8 env] 5)) 34 (.slice none 0 0)
  have bV := Boxed.new ((w.alloc (.cells #[.int .u8 env] 5)).alloc (.cells #[.slice none 0 0] 34)) 24 (.pointer none)
  simp only [World.size_alloc] at bL bV
  have hB0 : Below w.heap.size w ((((w.alloc (.cells #[.int .u8 env] 5)).alloc (.cells #[.slice none 0 0] 34)).alloc (.cells #[.pointer none] 24)).alloc (.cells #[.int .i64 0] 3)) := ((((Below.refl _ w).alloc (Nat.le_refl _) _).alloc (by simp) _).alloc (by simp; omega) _).alloc (by simp; omega) _
  have bL0 := (bL.alloc (.cells #[.pointer none] 24)).alloc (.cells #[.int .i64 0] 3)
  have bV0 := bV.alloc (.cells #[.int .i64 0] 3)
  have hsz : ((((w.alloc (.cells #[.int .u8 env] 5)).alloc (.cells #[.slice none 0 0] 34)).alloc (.cells #[.pointer none] 24)).alloc (.cells #[.int .i64 0] 3)).heap.size = w.heap.size + 1 + 1 + 1 + 1 := by simp
  clear bL bV
  generalize ((((w.alloc (.cells #[.int .u8 env] 5)).alloc (.cells #[.slice none 0 0] 34)).alloc (.cells #[.pointer none] 24)).alloc (.cells #[.int .i64 0] 3)) = W0 at *
  refine wpIn_rangeFunc_ownG hro hw1 (gf := 20) (lb := #[.pointer (some ⟨w.heap.size + 1 + 1, 0, none⟩), .pointer (some ⟨w.heap.size + 1 + 1 + 1, 0, none⟩)]) rfl trivial (enters_of Try.func20 (by kernel_rfl) rfl)
    (tkn_stops (n - 1) (w.heap.size + 1 + 1) (w.heap.size + 1 + 1 + 1) W0 bV0.lt bV0.cell) (fun _ _ => trivial) (fun _ _ _ _ _ _ _ _ => trivial) (Below.refl _ _) (fun _ => rfl)
    (fun pre W => Boxed W (w.heap.size + 1) 34 (.slice none 0 0) ∧ Below w.heap.size w W)
    (fun _ _ _ => True)
    (OwnFrom.and (Own.from (fun s A B row hs hg hr => box_kept hs hg hr) _) (ownFrom_below (Nat.le_refl _) (by omega)))
    (fun c => Own.from (fun _ _ _ _ h _ _ => h) _)
    ⟨bL0, hB0⟩
    (fun x => { tmps := #[.pointer none, .int .u8 env, undef, .pointer (some ⟨w.heap.size, 0, none⟩), .slice none 0 0, .pointer (some ⟨w.heap.size + 1, 0, none⟩), .int .i64 x.1.1, .int .u8 x.2.1, .pointer none, .func (.func 20) #[] #[.pointer (some ⟨w.heap.size + 1 + 1, 0, none⟩), .pointer (some ⟨w.heap.size + 1 + 1 + 1, 0, none⟩)], .int .i64 x.1.1, .int .u8 x.2.1, undef, undef, undef, undef, undef, undef, undef, undef], defers := [] }) ?assign ?body ?done ?stop
  case assign =>
    intro l x W K hK
    simp only [peV]
    gi_wp2
    exact hK
  case body =>
    intro l pre x W _ hlt
    exact absurd hlt (Nat.not_lt_zero _)
  case done =>
    rintro D ys W hD rfl ⟨hv, hB⟩ hK
    have hcv := hv.cell
    gi_wp2
    refine ⟨by simp, .inl ⟨_, _, rfl, run_takeDeferred hK, ?_⟩⟩
    refine ⟨.slice none 0 0, by simp [results, Try.f12, go_sem], rfl, hB.trans (belowK_b (w := w) (Nat.le_refl _) _ D _ _ (by omega) hK rfl rfl)⟩
  case stop =>
    rintro D c pre W hD hpre hf hK
    exact hpre.elim
theorem places_nil (env : Int) (w : World) : Calls Try.prog 12 #[.pointer none, .int .u8 env] w fun e W' => e = .returned (.slice none 0 0) ∧ Below w.heap.size w W' :=
  (callsIn_wide (n := 5)).1 (placesn_in env w 5 (by omega))
set_option maxHeartbeats 1000000 in
theorem turnn_in (w : World) (n : Nat) (hn : 5 ≤ n) :
    CallsIn Fence.wide n Try.prog 4 #[.pointer none] w fun e W' => e = .returned (.tuple #[.int .i64 0, .int .u8 0, .bool false]) ∧ Below w.heap.size w W' := by
  have hw1 : 1 ≤ n := by omega
  have hro : Fence.wide.round = none := rfl
  refine callsIn_of_wp_marks Try.func4 rfl trivial ?_ rfl
  simp only [Try.ntmps4, List.size_toArray, List.length_cons, List.length_nil, Nat.reduceAdd, Nat.reduceSub, Array.replicate_succ, Array.replicate_zero, List.push_toArray, List.append_toArray, List.nil_append, List.cons_append]
  gi_wp2
  have b1 := Boxed.new w 24 (.pointer none)
  have b2 := Boxed.new (w.alloc (.cells #[.pointer none] 24)) 3 (.int .i64 0)
  have b3 := Boxed.new ((w.alloc (.cells #[.pointer none] 24)).alloc (.cells #[.int .i64 0] 3)) 5 (.int .u8 0)
  have b4 := Boxed.new (((w.alloc (.cells #[.pointer none] 24)).alloc (.cells #[.int .i64 0] 3)).alloc (.cells #[.int .u8 0] 5)) 4 (.bool false)
  simp only [World.size_alloc] at b2 b3 b4
  have hB0 : Below w.heap.size w ((((w.alloc (.cells #[.pointer none] 24)).alloc (.cells #[.int .i64 0] 3)).alloc (.cells #[.int .u8 0] 5)).alloc (.cells #[.bool false] 4)) := ((((Below.refl _ w).alloc (Nat.le_refl _) _).alloc (by simp) _).alloc (by simp; omega) _).alloc (by simp; omega) _
  have c1 := ((b1.alloc (.cells #[.int .i64 0] 3)).alloc (.cells #[.int .u8 0] 5)).alloc (.cells #[.bool false] 4)
  have c2 := (b2.alloc (.cells #[.int .u8 0] 5)).alloc (.cells #[.bool false] 4)
  have c3 := b3.alloc (.cells #[.bool false] 4)
  have hsz : ((((w.alloc (.cells #[.pointer none] 24)).alloc (.cells #[.int .i64 0] 3)).alloc (.cells #[.int .u8 0] 5)).alloc (.cells #[.bool false] 4)).heap.size = w.heap.size + 1 + 1 + 1 + 1 := by simp
  clear b1 b2 b3
  generalize ((((w.alloc (.cells #[.pointer none] 24)).alloc (.cells #[.int .i64 0] 3)).alloc (.cells #[.int .u8 0] 5)).alloc (.cells #[.bool false] 4)) = W0 at *
  have cb := c1.cell
  have HS0 : Hid (W0.heap.size = w.heap.size + 1 + 1 + 1 + 1) := hsz
  clear hsz
  have hlt0 : w.heap.size < W0.heap.size := c1.lt
  have cN := fun W => now_nil W
  have cT := fun W => (callsIn_wide (n := 0)).1 (tkn_in 0 0 W)
  refine wpIn_wide.2 ?_
  go_region_held3 (fun w' => w'.cell? ⟨w.heap.size, 0, none⟩ = some (.pointer none)) (simp [go_sem, cb, hlt0]) ((first | (go_at_call 14; refine (cN _).mono ?_; rintro e w' ⟨rfl, rfl⟩) | (go_at_call 16; refine (cT _).mono ?_; rintro e w' ⟨rfl, rfl⟩)))
  gi_wp2
  have d5 := Boxed.new W0 24 (.pointer none)
  have hB1 : Below w.heap.size w ((W0.alloc (.cells #[.pointer none] 24)).alloc (.cells #[.int .i64 0] 3)).drew := by
    have := (hB0.alloc hB0.size (.cells #[.pointer none] 24)).alloc (Nat.le_trans hB0.size (by simp)) (.cells #[.int .i64 0] 3)
    exact ⟨this.os, this.tape, this.output, this.size, this.block⟩
  have e2 : Boxed ((W0.alloc (.cells #[.pointer none] 24)).alloc (.cells #[.int .i64 0] 3)).drew (w.heap.size + 1) 3 (.int .i64 0) := (c2.alloc _).alloc _
  have e3 : Boxed ((W0.alloc (.cells #[.pointer none] 24)).alloc (.cells #[.int .i64 0] 3)).drew (w.heap.size + 1 + 1) 5 (.int .u8 0) := (c3.alloc _).alloc _
  have e4 : Boxed ((W0.alloc (.cells #[.pointer none] 24)).alloc (.cells #[.int .i64 0] 3)).drew (w.heap.size + 1 + 1 + 1) 4 (.bool false) := (b4.alloc _).alloc _
  have e5 : Boxed ((W0.alloc (.cells #[.pointer none] 24)).alloc (.cells #[.int .i64 0] 3)).drew W0.heap.size 24 (.pointer none) := d5.alloc _
  clear c1 c2 c3 b4 d5 cb hlt0 cN cT hB0
  generalize ((W0.alloc (.cells #[.pointer none] 24)).alloc (.cells #[.int .i64 0] 3)).drew = W1 at *
  generalize W0.heap.size = z at *
  have hs1' : w.heap.size ≤ W1.heap.size := hB1.size
  clear HS0
  refine wpIn_rangeFunc_ownG hro hw1 (gf := 20) (lb := #[.pointer (some ⟨z, 0, none⟩), .pointer (some ⟨z + 1, 0, none⟩)]) rfl trivial (enters_of Try.func20 (by kernel_rfl) rfl)
    (tkn_stops (n - 1) z (z + 1) W1 e5.lt e5.cell) (fun _ _ => trivial) (fun _ _ _ _ _ _ _ _ => trivial) (Below.refl _ _) (fun _ => rfl)
    (fun pre W => (Boxed W (w.heap.size + 1) 3 (.int .i64 0) ∧ Boxed W (w.heap.size + 1 + 1) 5 (.int .u8 0) ∧ Boxed W (w.heap.size + 1 + 1 + 1) 4 (.bool false)) ∧ Below w.heap.size w W)
    (fun _ _ _ => True)
    (OwnFrom.and (Own.from (fun s A B row hs hg hr => ⟨box_kept hs.1 hg hr, box_kept hs.2.1 hg hr, box_kept hs.2.2 hg hr⟩) _) (ownFrom_below (Nat.le_refl _) hs1'))
    (fun c => Own.from (fun _ _ _ _ h _ _ => h) _)
    ⟨⟨e2, e3, e4⟩, hB1⟩
    (fun x => { tmps := #[.pointer none, .pointer (some ⟨w.heap.size, 0, none⟩), .pointer (some ⟨w.heap.size + 1, 0, none⟩), .pointer (some ⟨w.heap.size + 1 + 1, 0, none⟩), .pointer (some ⟨w.heap.size + 1 + 1 + 1, 0, none⟩), .int .i64 x.1.1, .int .u8 x.2.1, .pointer none, .pointer none, .int .i64 (-1), .int .i64 0, .func (.func 20) #[] #[.pointer (some ⟨z, 0, none⟩), .pointer (some ⟨z + 1, 0, none⟩)], .int .i64 x.1.1, .int .u8 x.2.1, undef, undef, undef, undef, undef, undef, undef, undef, undef, undef, undef, undef, undef, undef, undef, undef, undef, undef, undef, undef, undef, undef, undef], defers := [] }) ?assign ?body ?done ?stop
  case assign =>
    intro l x W K hK
    simp only [peV]
    gi_wp2
    exact hK
  case body =>
    intro l pre x W _ hlt
    exact absurd hlt (Nat.not_lt_zero _)
  case done =>
    rintro D ys W hD rfl ⟨⟨f2, f3, f4⟩, hB⟩ hK
    have k2 := f2.cell
    have k3 := f3.cell
    have k4 := f4.cell
    have g2 := f2.frozen
    have g3 := f3.frozen
    have g4 := f4.frozen
    gi_wp2
    have hK' := (((KeepsOthers.setCell W ⟨w.heap.size + 1, 0, none⟩ (.int .i64 0)).trans (KeepsOthers.setCell _ ⟨w.heap.size + 1 + 1, 0, none⟩ (.int .u8 0))).trans (KeepsOthers.setCell _ ⟨w.heap.size + 1 + 1 + 1, 0, none⟩ (.bool false))).same D _ hK rfl
    have hB2 := ((hB.setCell (p := ⟨w.heap.size + 1, 0, none⟩) (by show w.heap.size ≤ w.heap.size + 1; omega) (.int .i64 0)).setCell (p := ⟨w.heap.size + 1 + 1, 0, none⟩) (by show w.heap.size ≤ w.heap.size + 1 + 1; omega) (.int .u8 0)).setCell (p := ⟨w.heap.size + 1 + 1 + 1, 0, none⟩) (by show w.heap.size ≤ w.heap.size + 1 + 1 + 1; omega) (.bool false)
    have off : ∀ {W : World} {b d j : Nat} {t : TypeId} {v : Value}, Boxed W b t v → b ≠ d → ∀ u, Boxed (W.setCell ⟨d, j, none⟩ u) b t v := fun h hne u => (Below.heap_setCell _ _ u _ hne).trans h
    have b2 := off (j := 0) (off (d := w.heap.size + 1 + 1) (j := 0) (f2.set (.int .i64 0)) (by omega) (.int .u8 0)) (d := w.heap.size + 1 + 1 + 1) (by omega) (.bool false)
    have b3 := off (j := 0) ((off (d := w.heap.size + 1) (j := 0) f3 (by omega) (.int .i64 0)).set (.int .u8 0)) (d := w.heap.size + 1 + 1 + 1) (by omega) (.bool false)
    have b4 := (off (j := 0) (off (d := w.heap.size + 1) (j := 0) f4 (by omega) (.int .i64 0)) (d := w.heap.size + 1 + 1) (by omega) (.int .u8 0)).set (.bool false)
    have kept : ∀ r, some D = some r → ∃ o : Obj, (((W.setCell ⟨w.heap.size + 1, 0, none⟩ (.int .i64 0)).setCell ⟨w.heap.size + 1 + 1, 0, none⟩ (.int .u8 0)).setCell ⟨w.heap.size + 1 + 1 + 1, 0, none⟩ (.bool false)).heap[r]? = some o ∧ o.isCells = false := fun r e => by cases e; exact ⟨_, hK', rfl⟩
    have j2 := (box_kept b2 (grownBy_putObj' _ D (.deferred none)) kept).cell
    have j3 := (box_kept b3 (grownBy_putObj' _ D (.deferred none)) kept).cell
    have j4 := (box_kept b4 (grownBy_putObj' _ D (.deferred none)) kept).cell
    refine ⟨by simp, .inl ⟨_, _, rfl, run_takeDeferred hK', ?_⟩⟩
    exact ⟨.tuple #[.int .i64 0, .int .u8 0, .bool false], by simp [results, Try.f4, go_sem, j2, j3, j4], rfl, hB2.trans (belowK_b (w := w) (Nat.le_refl _) _ D _ _ (by omega) hK' rfl rfl)⟩
  case stop =>
    rintro D c pre W hD hpre hf hK
    exact hpre.elim
theorem turn_nil (w : World) : Calls Try.prog 4 #[.pointer none] w fun e W' => e = .returned (.tuple #[.int .i64 0, .int .u8 0, .bool false]) ∧ Below w.heap.size w W' :=
  (callsIn_wide (n := 5)).1 (turnn_in w 5 (by omega))
end Go.Proofs.Ytgfiliodbggahab
