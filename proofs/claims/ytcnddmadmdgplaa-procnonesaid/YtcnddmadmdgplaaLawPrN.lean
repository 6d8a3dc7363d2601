/- ProcNone: the walk. -/
import Derived.Test.YtcnddmadmdgplaaPrI
namespace Go.Proofs.Ytcnddmadmdgplaa
open Go.RowKit Go.Shelf Go.Maps
set_option linter.unusedVariables false
set_option maxRecDepth 100000
attribute [local go_sem] Oper.semAt_some
set_option maxHeartbeats 1000000 in
theorem fork_nil (pid : Int) (w : World) : Calls Try.prog 21 #[.pointer none, .int .i64 pid] w fun r w' => r = .returned (.tuple #[.int .i64 0, .int .i64 1]) ∧ Below w.heap.size w w' := by
  have cR := runs_nil pid w
  go_enter Try.func21, Try.ntmps21
  go_wp2_with fail
  refine cR.mono ?_
  rintro r W ⟨rfl, hb⟩
  have HB := Hid3.mk (hb.trans ((below_new W (.cells #[.int .i64 0] 61)).mono hb.size))
  clear cR hb
  go_wp2
  go_ret2
  exact ⟨rfl, HB.out⟩
set_option maxHeartbeats 1000000 in
theorem exit_nil (pid st : Int) (w : World) : Calls Try.prog 18 #[.pointer none, .int .i64 pid, .int .i64 st] w fun r w' => r = .returned (.int .i64 1) ∧ Below w.heap.size w w' := by
  have hX := below_new w (.cells #[.pointer none] 23)
  have cR := runs_nil pid (w.alloc (.cells #[.pointer none] 23))
  have HX := Hid3.mk hX
  clear hX
  go_enter Try.func18, Try.ntmps18
  go_wp2_with fail
  refine cR.mono ?_
  rintro r W ⟨rfl, hb⟩
  have HB := Hid3.mk ((HX.out.trans (hb.mono HX.out.size)).trans ((below_new W (.cells #[.int .i64 0] 61)).mono (Nat.le_trans HX.out.size hb.size)))
  clear cR hb
  go_wp2
  go_ret
  exact ⟨rfl, HB.out⟩
set_option maxHeartbeats 1000000 in
theorem wait_nil (pid : Int) (w : World) : Calls Try.prog 15 #[.pointer none, .int .i64 pid] w fun r w' => r = .returned (.tuple #[.int .i64 0, .int .i64 0, .int .i64 1]) ∧ Below w.heap.size w w' := by
  have hX : Below w.heap.size w ((((w.alloc (.cells #[.pointer none] 23)).alloc (.cells #[.int .i64 0] 3)).alloc (.cells #[.int .i64 0] 3)).alloc (.cells #[.int .i64 0] 35)) := ((((Below.refl _ w).alloc (Nat.le_refl _) _).alloc (by simp) _).alloc (by simp; omega) _).alloc (by simp; omega) _
  have cR := runs_nil pid ((((w.alloc (.cells #[.pointer none] 23)).alloc (.cells #[.int .i64 0] 3)).alloc (.cells #[.int .i64 0] 3)).alloc (.cells #[.int .i64 0] 35))
  have HX := Hid3.mk hX
  clear hX
  go_enter Try.func15, Try.ntmps15
  go_wp2_with fail
  refine cR.mono ?_
  rintro r W1 ⟨rfl, hB1⟩
  have b1 := bxLow (((Boxed.new (w.alloc (.cells #[.pointer none] 23)) 3 (.int .i64 0)).alloc (.cells #[.int .i64 0] 3)).alloc (.cells #[.int .i64 0] 35)) hB1
  have b2 := bxLow ((Boxed.new ((w.alloc (.cells #[.pointer none] 23)).alloc (.cells #[.int .i64 0] 3)) 3 (.int .i64 0)).alloc (.cells #[.int .i64 0] 35)) hB1
  have b3 := bxLow (Boxed.new (((w.alloc (.cells #[.pointer none] 23)).alloc (.cells #[.int .i64 0] 3)).alloc (.cells #[.int .i64 0] 3)) 35 (.int .i64 0)) hB1
  simp only [World.size_alloc] at b1 b2 b3
  have c1 := b1.cell
  have c2 := b2.cell
  have c3 := b3.cell
  have g1 := b1.frozen
  have g2 := b2.frozen
  have g3 := b3.frozen
  have l1 := b1.lt
  have l2 := b2.lt
  have l3 := b3.lt
  have HB1 := Hid3.mk (HX.out.trans (hB1.mono HX.out.size))
  have HB : Hid3 (Below w.heap.size w ((((W1.setCell ⟨w.heap.size + 1, 0, none⟩ (.int .i64 0)).setCell ⟨w.heap.size + 1 + 1, 0, none⟩ (.int .i64 0)).setCell ⟨w.heap.size + 1 + 1 + 1, 0, none⟩ (.int .i64 1)).alloc (.cells #[.int .i64 0] 61))) := ⟨(((HB1.out.setCell (p := ⟨w.heap.size + 1, 0, none⟩) (by show w.heap.size ≤ w.heap.size + 1; omega) _).setCell (p := ⟨w.heap.size + 1 + 1, 0, none⟩) (by show w.heap.size ≤ w.heap.size + 1 + 1; omega) _).setCell (p := ⟨w.heap.size + 1 + 1 + 1, 0, none⟩) (by show w.heap.size ≤ w.heap.size + 1 + 1 + 1; omega) _).alloc (by simp; omega) _⟩
  have E1 := ((bxFar (bxFar (b1.set (.int .i64 0)) (w.heap.size + 1 + 1) 0 (by omega) (.int .i64 0)) (w.heap.size + 1 + 1 + 1) 0 (by omega) (.int .i64 1)).alloc (.cells #[.int .i64 0] 61)).cell
  have E2 := ((bxFar ((bxFar b2 (w.heap.size + 1) 0 (by omega) (.int .i64 0)).set (.int .i64 0)) (w.heap.size + 1 + 1 + 1) 0 (by omega) (.int .i64 1)).alloc (.cells #[.int .i64 0] 61)).cell
  have E3 := (((bxFar (bxFar b3 (w.heap.size + 1) 0 (by omega) (.int .i64 0)) (w.heap.size + 1 + 1) 0 (by omega) (.int .i64 0)).set (.int .i64 1)).alloc (.cells #[.int .i64 0] 61)).cell
  have HE := Hid3.mk (And.intro E1 (And.intro E2 E3))
  clear cR hB1 b1 b2 b3 E1 E2 E3
  go_wp2
  obtain ⟨E1, E2, E3⟩ := HE.out
  refine bodyPost_ret (v := .tuple #[.int .i64 0, .int .i64 0, .int .i64 1]) (by simp [results, Try.results15, go_sem, E1, E2, E3]) rfl ⟨rfl, ?_⟩
  exact HB.out
theorem copy_nil (w : World) : Calls Try.prog 17 #[.pointer none] w fun r w' => r = .returned (.pointer none) ∧ w' = w := by
  go_enter Try.func17, Try.ntmps17
  go_wp2
  go_ret
  exact ⟨rfl, rfl⟩
set_option maxHeartbeats 1000000 in
theorem running_nil (w : World) : Calls Try.prog 23 #[.pointer none] w fun r w' => r = .returned (.slice none 0 0) ∧ Below w.heap.size w w' := by
  have HM : Hid3 (∀ (k : Nat) W, Calls Try.prog 12 #[.pointer none, .int .i64 (k : Int)] W fun r w' => r = .returned (.int .u8 0) ∧ Below W.heap.size W w') := ⟨fun k W => st_of none k .no W (at_nil k W)⟩
  go_enter Try.func23, Try.ntmps23
  go_wp2
  go_loopw [3, 5] (fun v i wr => ∃ k : Nat, k ≤ 6 ∧ i = .int .i64 k ∧ v = .slice none 0 0 ∧ Hid3 (Below w.heap.size w wr)) (fun _ i _ => 6 - (intOf i).toNat)
  case atStart => exact ⟨0, by omega, rfl, rfl, ⟨Below.refl _ _⟩⟩
  case round =>
    obtain ⟨k, hk, rfl, rfl, HB⟩ := hrel
    have cM := HM.out k wr
    by_cases hk6 : k < 6
    · have hkz : (k : Int) < 6 := by omega
      go_wp2_with fail
      refine cM.mono ?_
      rintro r W ⟨rfl, hb⟩
      have HB2 := Hid3.mk (HB.out.trans (hb.mono HB.out.size))
      clear cM hb
      go_wp2
      go_roundw
      case rel => exact ⟨k + 1, by omega, by go_num, rfl, HB2⟩
      case measure => simp [intOf]; omega
    · have hkz : ¬ (k : Int) < 6 := by omega
      clear cM
      go_wp2
      go_ret
      exact ⟨rfl, HB.out⟩
theorem ch1_nil (n : Nat) (hn : 1 ≤ n) (l bt bp : Nat) (pid : Int) (W : World) (hv : W.cell? ⟨bt, 0, none⟩ = some (.pointer none)) (hf : W.cell? ⟨bp, 0, none⟩ = some (.int .i64 pid)) :
    CallsIn Fence.wide n Try.prog 42 #[.func (.yield l) #[] #[], .pointer (some ⟨bt, 0, none⟩), .pointer (some ⟨bp, 0, none⟩)] W fun e W' => (∃ v, e = .returned v) ∧ W' = W := by
  have cA := callsIn_wide (n := n - 1) |>.2 (at_nil pid W)
  refine callsIn_of_wp Try.func42 rfl trivial ?_ rfl
  simp only [Try.ntmps42, List.size_toArray, List.length_cons, List.length_nil, Nat.reduceAdd, Nat.reduceSub, Array.replicate_succ, Array.replicate_zero, List.push_toArray, List.append_toArray, List.nil_append, List.cons_append]
  gi_wp2_with (first | (refine ⟨trivial, ?_⟩; gi_at_call 33; refine cA.mono ?_; rintro e W2 ⟨rfl, hW2⟩; rw [hW2]; clear hW2))
  refine bodyPost_ret (results_none rfl _ _ _) rfl ?_
  exact ⟨⟨_, rfl⟩, rfl⟩
theorem chn_in (n : Nat) (pid : Int) (w : World) :
    CallsIn Fence.wide n Try.prog 35 #[.pointer none, .int .i64 pid] w fun e w' => e = .returned (.func (.func 42) #[] #[.pointer (some ⟨w.heap.size, 0, none⟩), .pointer (some ⟨w.heap.size + 1, 0, none⟩)]) ∧ w' = (w.alloc (.cells #[.pointer none] 23)).alloc (.cells #[.int .i64 pid] 3) := by
  refine callsIn_of_wp Try.func35 rfl trivial ?_ rfl
  simp only [Try.ntmps35, List.size_toArray, List.length_cons, List.length_nil, Nat.reduceAdd, Nat.reduceSub, Array.replicate_succ, Array.replicate_zero, List.push_toArray, List.append_toArray, List.nil_append, List.cons_append]
  gi_wp2
  go_ret
  exact ⟨rfl, rfl⟩
theorem nil_stops (s : Pt) (n : Nat) (hn : 1 ≤ n) (bt bp : Nat) (pid : Int) (w : World) (hv : w.cell? ⟨bt, 0, none⟩ = some (.pointer none)) (hf : w.cell? ⟨bp, 0, none⟩ = some (.int .i64 pid)) :
    SeqStopsK Fence.wide n Try.prog 42 #[.pointer (some ⟨bt, 0, none⟩), .pointer (some ⟨bp, 0, none⟩)] (chV s) KeepsWalks (fun ys => ys = []) (fun pre => pre = []) 0 w := fun l J Jx W hW hJ hJx hY h0 =>
  (ch1_nil n hn l bt bp pid W ((hW.cell (World.block_lt_of_cell? w _ hv)).trans hv) ((hW.cell (World.block_lt_of_cell? w _ hf)).trans hf)).mono fun e W' h => ⟨h.1, .inl ⟨[], rfl, by rw [h.2]; exact h0⟩⟩
set_option maxHeartbeats 1000000 in
theorem children_nil_in (s : Pt) (pid : Int) (w : World) (n : Nat) (hn : 5 ≤ n) :
    CallsIn Fence.wide n Try.prog 14 #[.pointer none, .int .i64 pid] w fun e W' => e = .returned (.slice none 0 0) ∧ Below w.heap.size w W' := by
  have hw1 : 1 ≤ n := by omega
  have hro : Fence.wide.round = none := rfl
  refine callsIn_of_wp_marks Try.func14 rfl trivial ?_ rfl
  simp only [Try.ntmps14, List.size_toArray, List.length_cons, List.length_nil, Nat.reduceAdd, Nat.reduceSub, Array.replicate_succ, Array.replicate_zero, List.push_toArray, List.append_toArray, List.nil_append, List.cons_append]
  gi_wp2_with (refine ⟨trivial, ?_⟩; gi_at_call 35; refine (chn_in (n - 1) _ _).mono ?_; rintro e w' ⟨rfl, rfl⟩)
  have bL := Boxed.new w 33 (.slice none 0 0)
  have bV := Boxed.new (w.alloc (.cells #[.slice none 0 0] 33)) 23 (.pointer none)
  have bF := Boxed.new ((w.alloc (.cells #[.slice none 0 0] 33)).alloc (.cells #[.pointer none] 23)) 3 (.int .i64 pid)
  simp only [World.size_alloc] at bV bF
  have hB0 : Below w.heap.size w (((w.alloc (.cells #[.slice none 0 0] 33)).alloc (.cells #[.pointer none] 23)).alloc (.cells #[.int .i64 pid] 3)) := (((Below.refl _ w).alloc (Nat.le_refl _) _).alloc (by simp) _).alloc (by simp; omega) _
  have bL0 := (bL.alloc (.cells #[.pointer none] 23)).alloc (.cells #[.int .i64 pid] 3)
  have bV0 := bV.alloc (.cells #[.int .i64 pid] 3)
  clear bL bV
  generalize (((w.alloc (.cells #[.slice none 0 0] 33)).alloc (.cells #[.pointer none] 23)).alloc (.cells #[.int .i64 pid] 3)) = W0 at *
  have hs0 := hB0.size
  refine wpIn_rangeFunc_ownG hro hw1 (gf := 42) (lb := #[.pointer (some ⟨w.heap.size + 1, 0, none⟩), .pointer (some ⟨w.heap.size + 1 + 1, 0, none⟩)]) rfl trivial (enters_of Try.func42 (by kernel_rfl) rfl)
    (nil_stops s (n - 1) (by omega) (w.heap.size + 1) (w.heap.size + 1 + 1) pid W0 bV0.cell bF.cell) walksK_t walksK_b (Below.refl _ _) (fun _ => rfl)
    (fun pre W => Boxed W w.heap.size 33 (.slice none 0 0) ∧ Below w.heap.size w W)
    (fun _ _ _ => False)
    (OwnFrom.and (Own.from (fun s A B row hs hg hr => box_kept hs hg hr) _) (ownFrom_below (Nat.le_refl _) (by omega)))
    (fun c => Own.from (fun _ _ _ _ h _ _ => h) _)
    ⟨bL0, hB0⟩
    (fun x => { tmps := #[.pointer none, .int .i64 pid, undef, undef, .slice none 0 0, .pointer (some ⟨w.heap.size, 0, none⟩), .int .i64 x.1, .pointer none, .int .i64 pid, .func (.func 42) #[] #[.pointer (some ⟨w.heap.size + 1, 0, none⟩), .pointer (some ⟨w.heap.size + 1 + 1, 0, none⟩)], .int .i64 x.1, prV (s x), undef, undef, undef, undef, undef], defers := [] }) ?assign ?body ?done ?stop
  case assign =>
    intro l x W K hK
    simp only [chV]
    gi_wp2
    exact hK
  case body =>
    intro l pre x W _ hlt
    exact absurd hlt (Nat.not_lt_zero _)
  case done =>
    rintro D ys W hD rfl ⟨hv, hB⟩ hK
    have hcv := hv.cell
    gi_wp2
    refine ⟨by simp, .inl ⟨_, _, rfl, run_takeDeferred hK, ?_⟩⟩
    refine ⟨.slice none 0 0, by simp [results, Try.f14, go_sem], rfl, hB.trans (belowK_b (w := w) (Nat.le_refl _) _ D _ _ (by omega) hK rfl rfl)⟩
  case stop =>
    rintro D c pre W hD hpre hf hK
    exact hf.elim
theorem children_nil (pid : Int) (w : World) : Calls Try.prog 14 #[.pointer none, .int .i64 pid] w fun e W' => e = .returned (.slice none 0 0) ∧ Below w.heap.size w W' := (callsIn_wide (n := 5)).1 (children_nil_in pt0 pid w 5 (by omega))
/-- The deed's box above a world. -/
structure Nx (w W : World) (p n : Int) : Prop where
  c1 : W.cell? ⟨w.heap.size, 1, none⟩ = some (.int .i64 p)
  c2 : W.cell? ⟨w.heap.size, 2, none⟩ = some (.int .i64 n)
  bl : Below w.heap.size w W
theorem Nx.low {w W W' : World} {p n : Int} (h : Nx w W p n) (k : Below W.heap.size W W') : Nx w W' p n :=
  ⟨(k.cell (World.block_lt_of_cell? W _ h.c1)).trans h.c1, (k.cell (World.block_lt_of_cell? W _ h.c2)).trans h.c2, h.bl.trans (k.mono h.bl.size)⟩
set_option maxHeartbeats 2000000 in
theorem none_law (d : Dd) (w : World) : Calls Try.prog 8 #[ddV d] w fun r w' => r = .returned (.bool true) ∧ Below w.heap.size w w' := by
  obtain ⟨k, p, n⟩ := d
  unfold ddV
  have H0 : Hid3 (Nx w (w.alloc (.cells #[.int .i64 k, .int .i64 p, .int .i64 n] 45)) p n) := ⟨⟨box_cell w [.int .i64 k, .int .i64 p, .int .i64 n] 45 1 _ rfl, box_cell w [.int .i64 k, .int .i64 p, .int .i64 n] 45 2 _ rfl, below_new w _⟩⟩
  have c1 := fork_nil p (w.alloc (.cells #[.int .i64 k, .int .i64 p, .int .i64 n] 45))
  go_enter Try.func8, Try.ntmps8
  go_wp2_with fail
  refine c1.mono ?_
  rintro r W1 ⟨rfl, hb⟩
  have H1 := Hid3.mk (H0.out.low hb)
  have q1 := H1.out.c1
  have c2 := wait_nil p W1
  clear c1 hb H0
  go_wp2_with fail
  refine c2.mono ?_
  rintro r W2 ⟨rfl, hb⟩
  have H2 := Hid3.mk (H1.out.low hb)
  have c3 := live_any W2
  clear c2 hb H1 q1
  go_wp2_with fail
  refine c3.mono ?_
  rintro r W3 ⟨rfl, hb⟩
  have H3 := Hid3.mk (H2.out.low hb)
  have q1 := H3.out.c1
  have q2 := H3.out.c2
  have c4 := exit_nil p n W3
  clear c3 hb H2
  go_wp2_with fail
  refine c4.mono ?_
  rintro r W4 ⟨rfl, hb⟩
  have H4 := Hid3.mk (H3.out.low hb)
  have c5 := kill_of none p 1 W4 (fun W => Below W4.heap.size W4 W) (exit_nil p 137 W4)
  clear c4 hb H3 q1 q2
  have q1 := H4.out.c1
  go_wp2_with fail
  refine c5.mono ?_
  rintro r W5 ⟨rfl, hb⟩
  have H5 := Hid3.mk (H4.out.low hb)
  have c6 := st_of none p .no W5 (at_nil p W5)
  simp only [stI] at c6
  clear c5 hb H4 q1
  have q1 := H5.out.c1
  go_wp2_with fail
  refine c6.mono ?_
  rintro r W6 ⟨rfl, hb⟩
  have H6 := Hid3.mk (H5.out.low hb)
  have c7 := pa_of none p .no W6 (at_nil p W6)
  simp only [paI] at c7
  clear c6 hb H5 q1
  have q1 := H6.out.c1
  go_wp2_with fail
  refine c7.mono ?_
  rintro r W7 ⟨rfl, hb⟩
  have H7 := Hid3.mk (H6.out.low hb)
  have c8 := children_nil p W7
  clear c7 hb H6 q1
  have q1 := H7.out.c1
  go_wp2_with fail
  refine c8.mono ?_
  rintro r W8 ⟨rfl, hb⟩
  have H8 := Hid3.mk (H7.out.low hb)
  have c9 := su_of none p .no W8 (at_nil p W8)
  simp only [suI] at c9
  clear c8 hb H7 q1
  have q1 := H8.out.c1
  go_wp2_with fail
  refine c9.mono ?_
  rintro r W9 ⟨rfl, hb⟩
  have H9 := Hid3.mk (H8.out.low hb)
  have c10 := running_nil W9
  clear c9 hb H8 q1
  go_wp2_with fail
  refine c10.mono ?_
  rintro r W10 ⟨rfl, hb⟩
  have H10 := Hid3.mk (H9.out.low hb)
  have c11 := copy_nil W10
  clear c10 hb H9
  go_wp2_with fail
  refine c11.mono ?_
  rintro r W11 ⟨rfl, hW⟩
  rw [hW]
  clear c11 hW
  go_wp2
  go_ret
  exact ⟨rfl, H10.out.bl⟩
end Go.Proofs.Ytcnddmadmdgplaa
