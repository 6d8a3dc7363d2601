/- The program's table: children as a function; Children. -/
import Derived.Test.YtcnddmadmdgplaaPrC
import Derived.Test.YtcnddmadmdgplaaPrBa
namespace Go.Proofs.Ytcnddmadmdgplaa
open Go.RowKit Go.Shelf Go.Maps
set_option linter.unusedVariables false
set_option maxRecDepth 100000
attribute [local go_sem] Oper.semAt_some
theorem ch_in (n : Nat) (b : Nat) (pid : Int) (w : World) :
    CallsIn Fence.wide n Try.prog 35 #[.pointer (some ⟨b, 0, none⟩), .int .i64 pid] w fun e w' => e = .returned (.func (.func 42) #[] #[.pointer (some ⟨w.heap.size, 0, none⟩), .pointer (some ⟨w.heap.size + 1, 0, none⟩)]) ∧ w' = (w.alloc (.cells #[.pointer (some ⟨b, 0, none⟩)] 23)).alloc (.cells #[.int .i64 pid] 3) := by
  refine callsIn_of_wp Try.func35 rfl trivial ?_ rfl
  simp only [Try.ntmps35, List.size_toArray, List.length_cons, List.length_nil, Nat.reduceAdd, Nat.reduceSub, Array.replicate_succ, Array.replicate_zero, List.push_toArray, List.append_toArray, List.nil_append, List.cons_append]
  gi_wp2
  go_ret
  exact ⟨rfl, rfl⟩
/-- What is asked for: the boxes and the table. -/
structure ChC (B : Nat) (W : World) (bt bp b : Nat) (s : Pt) (pid : Int) : Prop where
  v : W.cell? ⟨bt, 0, none⟩ = some (.pointer (some ⟨b, 0, none⟩))
  f : W.cell? ⟨bp, 0, none⟩ = some (.int .i64 pid)
  t : Tp B W b s
theorem ChC.below {B : Nat} {W W' : World} {bt bp b : Nat} {s : Pt} {pid : Int} (h : ChC B W bt bp b s pid) (k : Below W.heap.size W W') : ChC B W' bt bp b s pid :=
  ⟨(k.cell (World.block_lt_of_cell? W _ h.v)).trans h.v, (k.cell (World.block_lt_of_cell? W _ h.f)).trans h.f, h.t.below k⟩
theorem ch1_no (n : Nat) (hn : 1 ≤ n) (l B bt bp b : Nat) (s : Pt) (pid : Int) (hp : gt s pid = .no) (W : World) (hc : ChC B W bt bp b s pid) :
    CallsIn Fence.wide n Try.prog 42 #[.func (.yield l) #[] #[], .pointer (some ⟨bt, 0, none⟩), .pointer (some ⟨bp, 0, none⟩)] W fun e W' => (∃ v, e = .returned v) ∧ W' = W := by
  have hv := hc.v
  have hf := hc.f
  have cA := callsIn_wide (n := n - 1) |>.2 (at_any B b s pid W hc.t)
  rw [hp] at cA
  unfold prV at cA
  clear hc hp
  refine callsIn_of_wp Try.func42 rfl trivial ?_ rfl
  simp only [Try.ntmps42, List.size_toArray, List.length_cons, List.length_nil, Nat.reduceAdd, Nat.reduceSub, Array.replicate_succ, Array.replicate_zero, List.push_toArray, List.append_toArray, List.nil_append, List.cons_append]
  gi_wp2_with (first | (refine ⟨trivial, ?_⟩; gi_at_call 33; refine cA.mono ?_; rintro e W2 ⟨rfl, hW2⟩; rw [hW2]; clear hW2))
  refine bodyPost_ret (results_none rfl _ _ _) rfl ?_
  exact ⟨⟨_, rfl⟩, rfl⟩
theorem ch_stops (n : Nat) (hn : 1 ≤ n) (B bt bp b : Nat) (s : Pt) (pid : Int) (w : World) (hc : ChC B w bt bp b s pid) :
    SeqStopsK Fence.wide n Try.prog 42 #[.pointer (some ⟨bt, 0, none⟩), .pointer (some ⟨bp, 0, none⟩)] (chV s) (KpC (XP bp)) (fun ys => ys = chA s pid) (fun pre => pre <+: chA s pid) 6 w := fun l J Jx W hW hJ hJx hY h0 => by
  by_cases hp : gt s pid = .no
  · rw [chA_no s pid hp]
    exact (ch1_no n hn l B bt bp b s pid hp W (hc.below hW)).mono fun e W' h => ⟨h.1, .inl ⟨[], rfl, by rw [h.2]; exact h0⟩⟩
  · rcases pid_cases pid with ho | ⟨p, rfl⟩
    · exact absurd (gt_out s pid ho) hp
    · rw [gt_in] at hp
      rw [chA_in s p hp]
      exact ch1_in n hn l B bt bp b s p hp J Jx W hJ hJx hY (hc.below hW).v (hc.below hW).f (hc.below hW).t h0
theorem box_kept {W W' : World} {row : Option Nat} {B : Nat} {t : TypeId} {v : Value} (h : Boxed W B t v) (hg : W.grownBy W' row) (hr : ∀ r, row = some r → ∃ o : Obj, W.heap[r]? = some o ∧ o.isCells = false) : Boxed W' B t v :=
  h.kept hg (fun e => by
    obtain ⟨o, ho, hc⟩ := hr B e.symm
    have h' : W.heap[B]? = some (.cells #[v] t (0, 0)) := h
    rw [h'] at ho
    cases ho
    cases hc)
theorem row_block {W : World} {base : Nat} {e : TypeId} {v : Value} {k : Nat} {xs : List Value} (h : W.ownsRow base e 1 v k xs) {B : Nat} (hB : B < base) : some B ≠ v.ownBlock := by
  rcases h.2 with ⟨rfl, _⟩ | ⟨g, cap, cur, rfl, hb, _⟩
  · simp [Value.ownBlock]
  · simp [Value.ownBlock]; omega
theorem kpX_of {bp : Nat} {W W' : World} {tf : TypeId} {xf : Value} (hk : KeepsWalks W W') (b3 : Boxed W bp tf xf) (b4 : Boxed W' bp tf xf) : KpC (XP bp) W W' := by
  refine ⟨hk, fun a v hx h => ?_⟩
  cases hx
  rw [b3.cell] at h; cases h; exact b4.cell
theorem Cl.kept {W W' : World} {row : Option Nat} {b : Nat} {t : TypeId} {c : List Value} (h : Cl W b t c) (hg : W.grownBy W' row) (hr : ∀ r, row = some r → ∃ o : Obj, W.heap[r]? = some o ∧ o.isCells = false) : Cl W' b t c :=
  (grownBy_keeps_cells hg hr h rfl).trans h
theorem apartK_b {w W : World} {X : Nat → Prop} (h : Apart X w W) (D : Nat) (o : Obj) (hD : w.heap.size ≤ D) : Apart X w (W.putObj D o) :=
  ⟨h.os, h.tape, h.output, by rw [show (W.putObj D o).heap.size = W.heap.size by simp]; exact h.size, fun k hk hx => (World.putObj_heap_other (by omega)).trans (h.block k hk hx)⟩
set_option maxHeartbeats 1000000 in
theorem children_in (B b : Nat) (s : Pt) (pid : Int) (w : World) (h : Tp B w b s) (n : Nat) (hn : 5 ≤ n) :
    CallsIn Fence.wide n Try.prog 14 #[.pointer (some ⟨b, 0, none⟩), .int .i64 pid] w fun e W' => ∃ v, e = .returned v ∧ W'.ownsRow w.heap.size 3 1 v (chA s pid).length ((chA s pid).map slI) ∧ Below w.heap.size w W' := by
  have hw1 : 1 ≤ n := by omega
  have hro : Fence.wide.round = none := rfl
  obtain ⟨i0, hi, hz0, hz1, hz2⟩ := info_parts infoI
  refine callsIn_of_wp_marks Try.func14 rfl trivial ?_ rfl
  simp only [Try.ntmps14, List.size_toArray, List.length_cons, List.length_nil, Nat.reduceAdd, Nat.reduceSub, Array.replicate_succ, Array.replicate_zero, List.push_toArray, List.append_toArray, List.nil_append, List.cons_append]
  gi_wp2_with (refine ⟨trivial, ?_⟩; gi_at_call 35; refine (ch_in (n - 1) _ _ _).mono ?_; rintro e w' ⟨rfl, rfl⟩)
  have bL := Boxed.new w 33 (.slice none 0 0)
  have bV := Boxed.new (w.alloc (.cells #[.slice none 0 0] 33)) 23 (.pointer (some ⟨b, 0, none⟩))
  have bF := Boxed.new ((w.alloc (.cells #[.slice none 0 0] 33)).alloc (.cells #[.pointer (some ⟨b, 0, none⟩)] 23)) 3 (.int .i64 pid)
  simp only [World.size_alloc] at bV bF
  have hB0 : Below w.heap.size w (((w.alloc (.cells #[.slice none 0 0] 33)).alloc (.cells #[.pointer (some ⟨b, 0, none⟩)] 23)).alloc (.cells #[.int .i64 pid] 3)) := (((Below.refl _ w).alloc (Nat.le_refl _) _).alloc (by simp) _).alloc (by simp; omega) _
  have bL0 := (bL.alloc (.cells #[.pointer (some ⟨b, 0, none⟩)] 23)).alloc (.cells #[.int .i64 pid] 3)
  have bV0 := bV.alloc (.cells #[.int .i64 pid] 3)
  clear bL bV
  generalize (((w.alloc (.cells #[.slice none 0 0] 33)).alloc (.cells #[.pointer (some ⟨b, 0, none⟩)] 23)).alloc (.cells #[.int .i64 pid] 3)) = W0 at *
  have hcv : ChC B W0 (w.heap.size + 1) (w.heap.size + 1 + 1) b s pid := ⟨bV0.cell, bF.cell, h.below hB0⟩
  have hlA := chA_len s pid
  clear h
  refine wpIn_rangeFunc_ownG hro hw1 (gf := 42) (lb := #[.pointer (some ⟨w.heap.size + 1, 0, none⟩), .pointer (some ⟨w.heap.size + 1 + 1, 0, none⟩)]) rfl trivial (enters_of Try.func42 (by kernel_rfl) rfl)
    (ch_stops (n - 1) (by omega) B (w.heap.size + 1) (w.heap.size + 1 + 1) b s pid _ hcv) kpC_t kpC_b (Below.refl _ _) (fun _ => rfl)
    (fun pre W => ((∃ v, Boxed W w.heap.size 33 v ∧ W.ownsRow (w.heap.size + 1 + 1 + 1) 3 1 v pre.length (pre.map slI) ∧ pre.length ≤ 6) ∧ Boxed W (w.heap.size + 1 + 1) 3 (.int .i64 pid)) ∧ Below w.heap.size w W)
    (fun _ _ _ => False)
    (OwnFrom.and (OwnFrom.and (Own.from (holdsRow_own (w.heap.size + 1 + 1 + 1) w.heap.size 33 3 1 (fun pre : List (Fin 6) => pre.length) (fun pre : List (Fin 6) => pre.map slI) (fun pre _ => pre.length ≤ 6)) _) (Own.from (fun s A B row hs hg hr => box_kept hs hg hr) _)) (ownFrom_below (Nat.le_refl _) (by have := bF.lt; omega)))
    (fun c => Own.from (fun _ _ _ _ h _ _ => h) _)
    ⟨⟨⟨_, bL0, World.ownsRow_nil _ _ _ _, by simp⟩, bF⟩, hB0⟩
    (fun x => { tmps := #[.pointer (some ⟨b, 0, none⟩), .int .i64 pid, undef, undef, .slice none 0 0, .pointer (some ⟨w.heap.size, 0, none⟩), .int .i64 x.1, .pointer (some ⟨b, 0, none⟩), .int .i64 pid, .func (.func 42) #[] #[.pointer (some ⟨w.heap.size + 1, 0, none⟩), .pointer (some ⟨w.heap.size + 1 + 1, 0, none⟩)], .int .i64 x.1, prV (s x), undef, undef, undef, undef, undef], defers := [] }) ?assign ?body ?done ?stop
  case assign =>
    intro l x W K hK
    simp only [chV]
    gi_wp2
    exact hK
  case body =>
    rintro l pre x W ⟨⟨⟨v, hv, hrow, hlen⟩, hF⟩, hB⟩ hlt
    obtain ⟨a0, cap0, hvf⟩ : ∃ a cap, v = .slice a pre.length cap := by
      rcases hrow.2 with ⟨hv0, hk0⟩ | ⟨g, cap, cur, hv0, _⟩
      · exact ⟨none, 0, by rw [hk0]; exact hv0⟩
      · exact ⟨_, _, hv0⟩
    subst hvf
    have hcv := hv.cell
    have hfv := hv.frozen
    have hsz1 : w.heap.size + 1 + 1 + 1 ≤ W.heap.size := hF.lt
    obtain ⟨xi, hxi⟩ := x
    generalize prV (s ⟨xi, hxi⟩) = pv
    gi_wp2_with (gi_at_builtin; refine wpListIn_append_own _ rfl _ _ 33 rfl (w.heap.size + 1 + 1 + 1) 3 i0 (.int .i64 0) 1 8 Try.underlying33 hi hz0 hz1 hz2 rfl (by decide) _ _ _ rfl (hrow.alloc _) ⟨W.heap.size, 0, none⟩ 1 1 [slI ⟨xi, hxi⟩] rfl rfl (cell_one_new _ _ _) (by simp [Value.oneCell', slI]) (by unfold maxLen; omega) (by omega) (by simp; omega) ?_; intro v' w1 hown' hgrow _; obtain ⟨g', cap', rfl⟩ := ownsRow_succ hown'; have hv1' := (hv.alloc _).kept hgrow (row_block hrow (by omega)); have hv1c := hv1'.cell; have hv1f := hv1'.frozen)
    obtain ⟨_, hA2, _, hA4, hA5⟩ := Boxed.appended (n₀ := w.heap.size) hv (by decide) (Go.Joins.ownsRow_le hrow (by omega)) (by omega) (by omega) (Go.Joins.ownsRow_le hown' (by omega)) hgrow
    have hF2 := (((hF.alloc _).kept hgrow (row_block hrow (by omega))).other (B' := w.heap.size) (by omega) (.slice (some ⟨g', 0, none⟩) (pre.length + 1) cap'))
    refine ⟨hA4.from _, kpX_of hA4.walks hF hF2, ⟨⟨_, hA2, ?_, by simp; omega⟩, hF2⟩, hB.trans hA5⟩
    rw [List.length_append, List.map_append]
    exact hown'.kept (grownBy_setCell' w1 _ _) (.inr (row_block hown' (by omega)).symm)
  case done =>
    rintro D ys W hD rfl ⟨⟨⟨v, hv, hrow, _⟩, hF⟩, hB⟩ hK
    have hcv := hv.cell
    have hs0 := hB0.size
    gi_wp2
    have hrow2 := ownsRow_putObj hrow (.deferred none) hK rfl
    refine ⟨by simp, .inl ⟨_, _, rfl, run_takeDeferred hK, ?_⟩⟩
    refine ⟨v, by simp [results, Try.f14, go_sem], v, rfl, Go.Joins.ownsRow_le hrow2 (by omega), hB.trans (belowK_b (w := w) (Nat.le_refl _) _ D _ _ (by omega) hK rfl rfl)⟩
  case stop =>
    rintro D c pre W hD hpre hf hK
    exact hf.elim
theorem children_any (B b : Nat) (s : Pt) (pid : Int) (w : World) (h : Tp B w b s) :
    Calls Try.prog 14 #[.pointer (some ⟨b, 0, none⟩), .int .i64 pid] w fun e W' => ∃ v, e = .returned v ∧ W'.ownsRow w.heap.size 3 1 v (chA s pid).length ((chA s pid).map slI) ∧ Below w.heap.size w W' :=
  (callsIn_wide (n := 5)).1 (children_in B b s pid w h 5 (by omega))
end Go.Proofs.Ytcnddmadmdgplaa
