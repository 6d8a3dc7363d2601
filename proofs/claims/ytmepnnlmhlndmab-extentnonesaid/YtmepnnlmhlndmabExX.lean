/- A range over a function whose round begins by making a variable of its own: Nest's law, with an assignment that makes memory. The first extent that is asked for: by its number, by a sector. -/
import Derived.Test.YtmepnnlmhlndmabNest
import Derived.Test.YtmepnnlmhlndmabExV
namespace Go.Proofs.Ytmepnnlmhlndmab
open Go.RowKit
set_option linter.unusedVariables false
variable {F : Fence} {n : Nat} {P : Program}
/-- The round of an outermost loop. -/
theorem round_V {α : Type} {ps : Array Tmp} {assign body : Code} {a : Act} {B fn : Nat} {encs : α → Array Value} {Y : Nat → Prop} {N : Nat}
    (hY : ∀ k, B ≤ k → ¬ Y k) (hfn : F.fn fn) (hps : ∀ x, (encs x).size = ps.size)
    (I : List α → World → Prop) (Ix : Code → List α → World → Prop) (hI : Low B I) (hIx : ∀ c, Low B (Ix c)) (Ax : α → Act → World → Prop) (hAx : ∀ x a' A C, Ax x a' A → (∀ k, k ≠ B + 1 → C.heap[k]? = A.heap[k]?) → Ax x a' C) {m : Nat}
    (hassign : ∀ (l : Nat) (x : α) (W : World) (K : Act → World → Prop), B + 1 < W.heap.size → (∀ a' W', Below W.heap.size W W' → Ax x a' W' → K a' W') →
      assign.wpIn (F.inRound l) m P (Exit.then K (fun _ _ _ => False)) { tmps := (ps.zip (encs x)).foldl (fun t (p, v) => t.setIfInBounds p v) a.tmps, defers := [] } W)
    (hbody : ∀ (l : Nat) (pre : List α) (x : α) (a' : Act) (W : World), I pre W → Ax x a' W → pre.length < N → body.wpIn (F.inRound l) m P (postU Y I Ix (pre ++ [x]) W) a' W)
    (rec : LoopState → Option Code → Loop) (hrec : rec = fun st pe => { state := st, pending := pe, fn, tmps := a.tmps, params := ps, assign, body, defers := B })
    (pre : List α) (x : α) (W : World) (hi : I pre W) (hl : W.heap[B + 1]? = some (.loop (rec .ready none))) (hk : W.heap[B]? = some (.deferred (some []))) (hlen : pre.length < N) :
    YieldAt F m P (B + 1) (encs x) W fun e W' => Apart (fun k => Y k ∨ k = B + 1) W W' ∧
      ((e = .returned (.bool true) ∧ (I (pre ++ [x]) W' ∧ W'.heap[B + 1]? = some (.loop (rec .ready none)) ∧ W'.heap[B]? = some (.deferred (some [])))) ∨
       (e = .returned (.bool false) ∧ ∃ c, Ix c (pre ++ [x]) W' ∧ W'.heap[B + 1]? = some (.loop (rec .done (some c))) ∧ W'.heap[B]? = some (.deferred (some [])))) := by
  have hlt0 : B + 1 < W.heap.size := (Array.getElem?_eq_some_iff.1 hl).1
  have hy := run_yield (P := P) (args := encs x) hl (by rw [hrec]; exact hps x)
  rw [hrec] at hy
  refine ⟨fn, _, assign, body, hy, roundIn_of_wpIn hfn (hassign _ x W _ hlt0 ?_)⟩
  clear hy
  intro a₁ W1 hb1 hax
  have hl1 : W1.heap[B + 1]? = some (.loop (rec .ready none)) := (hb1.block _ hlt0).trans hl
  have hk1 : W1.heap[B]? = some (.deferred (some [])) := (hb1.block _ (by omega)).trans hk
  have hlt : B + 1 < W1.heap.size := Nat.lt_of_lt_of_le hlt0 hb1.size
  refine ⟨_, run_beginRound hl1 (by rw [hrec]), ?_⟩
  obtain ⟨W2, hW2⟩ : ∃ W2, W1.putObj (B + 1) (.loop { rec .ready none with state := .busy }) = W2 := ⟨_, rfl⟩
  rw [hW2]
  have ap2 : Apart (fun k => Y k ∨ k = B + 1) W W2 := by rw [← hW2]; exact (Apart.of_below hb1).trans (Apart.put _ (.inr rfl))
  have hb2 : Below B W W2 := by rw [← hW2]; exact (hb1.mono (by omega)).trans (below_put _ (by omega))
  have hl2 : W2.heap[B + 1]? = some (.loop { rec .ready none with state := .busy }) := by rw [← hW2]; exact World.putObj_heap_same hlt
  have hk2 : W2.heap[B]? = some (.deferred (some [])) := by rw [← hW2]; exact (World.putObj_heap_other (by omega)).trans hk1
  have hax2 : Ax x a₁ W2 := hAx _ _ _ _ hax (fun k hk => by rw [← hW2]; exact World.putObj_heap_other hk)
  refine wpIn_mono (hbody _ pre x a₁ W2 (hI _ _ _ hi hb2) hax2 hlen) ?_
  have fin : ∀ (jump : Option Code) (W3 : World), Apart Y W2 W3 → ∃ W4, (Instr.endRound (B + 1) jump).run P W3 = .ok (.bool jump.isNone) W4 ∧
      W4.heap[B + 1]? = some (.loop (rec (if jump.isNone then .ready else .done) jump)) ∧ W4.heap[B]? = some (.deferred (some [])) ∧ Below B W3 W4 ∧ Apart (fun k => Y k ∨ k = B + 1) W W4 := fun jump W3 hk3 => by
    have hl3 : W3.heap[B + 1]? = _ := (hk3.block _ (Array.getElem?_eq_some_iff.1 hl2).1 (hY _ (by omega))).trans hl2
    have hk4 : W3.heap[B]? = _ := (hk3.block _ (Array.getElem?_eq_some_iff.1 hk2).1 (hY _ (Nat.le_refl _))).trans hk2
    have hr := run_endRound (P := P) jump hl3
    rw [hrec] at hr ⊢
    exact ⟨_, hr, World.putObj_heap_same (Array.getElem?_eq_some_iff.1 hl3).1, (World.putObj_heap_other (by omega)).trans hk4, below_put _ (by omega), (ap2.trans (hk3.wide (fun _ _ h => .inl h))).trans (Apart.put _ (.inr rfl))⟩
  rintro e a3 W3 hp
  cases e with
  | normal =>
    obtain ⟨W4, hr, hl4, hk4, hb4, ap4⟩ := fin none W3 hp.1
    exact ⟨_, _, hr, ap4, .inl ⟨rfl, hI _ _ _ hp.2 hb4, hl4, hk4⟩⟩
  | ret =>
    obtain ⟨W4, hr, hl4, hk4, hb4, ap4⟩ := fin (some .ret) W3 hp.1
    exact ⟨_, _, hr, ap4, .inr ⟨rfl, .ret, hIx _ _ _ _ hp.2 hb4, hl4, hk4⟩⟩
  | exit id =>
    obtain ⟨W4, hr, hl4, hk4, hb4, ap4⟩ := fin (some (.exit id)) W3 hp.1
    exact ⟨_, _, hr, ap4, .inr ⟨rfl, .exit id, hIx _ _ _ _ hp.2 hb4, hl4, hk4⟩⟩
  | goto t =>
    obtain ⟨W4, hr, hl4, hk4, hb4, ap4⟩ := fin (some (.goto t)) W3 hp.1
    exact ⟨_, _, hr, ap4, .inr ⟨rfl, .goto t, hIx _ _ _ _ hp.2 hb4, hl4, hk4⟩⟩
  | panic ch => exact hp.elim
  | outgrown => exact hp.elim
/-- The statement 'for x := range g { .. }' over such an iterator. -/
theorem wpIn_rangeFunc_V {α : Type} {g : Operand} {ps : Array Tmp} {assign body : Code} {Q : Exit → Act → World → Prop} {a : Act} {w : World}
    (hro : F.round = none) (h1 : 1 ≤ n) {gf : Nat} {lb : Array Value} (hg : a.eval g = .func (.func gf) #[] lb) (hFg : F.fn gf) (eg : ∀ args w, (callFunc gf args).run P w = .ok (.enter gf args) w)
    {encs : α → Array Value} {Y : Nat → Prop} {S Sp : List α → Prop} {N : Nat} {w0 : World} (hseq : SeqU F (n - 1) P gf lb encs (fun k => Y k ∨ k = w.heap.size + 1) S Sp N w0)
    (hY : ∀ k, w.heap.size ≤ k → ¬ Y k) (hb0 : Below w0.heap.size w0 w) (hps : ∀ x, (encs x).size = ps.size)
    (I : List α → World → Prop) (Ix : Code → List α → World → Prop) (hI : Low w.heap.size I) (hIx : ∀ c, Low w.heap.size (Ix c)) (h0 : I [] w) (Ax : α → Act → World → Prop)
    (hAx : ∀ x a' A C, Ax x a' A → (∀ k, k ≠ w.heap.size + 1 → C.heap[k]? = A.heap[k]?) → Ax x a' C)
    (hassign : ∀ (l : Nat) (x : α) (W : World) (K : Act → World → Prop), w.heap.size + 1 < W.heap.size → (∀ a' W', Below W.heap.size W W' → Ax x a' W' → K a' W') →
      assign.wpIn (F.inRound l) (n - 1 - 1) P (Exit.then K (fun _ _ _ => False)) { tmps := (ps.zip (encs x)).foldl (fun t (p, v) => t.setIfInBounds p v) a.tmps, defers := [] } W)
    (hbody : ∀ (l : Nat) (pre : List α) (x : α) (a' : Act) (W : World), I pre W → Ax x a' W → pre.length < N → body.wpIn (F.inRound l) (n - 1 - 1) P (postU Y I Ix (pre ++ [x]) W) a' W)
    (hdone : ∀ (D : Nat) (xs : List α) (W : World), w.heap.size ≤ D → S xs → I xs W → W.heap[D]? = some (.deferred (some [])) → Q .normal { a with defers := { target := .collected D, args := #[] } :: a.defers } W)
    (hstop : ∀ (D : Nat) (c : Code) (pre : List α) (W : World), w.heap.size ≤ D → Sp pre → Ix c pre W → W.heap[D]? = some (.deferred (some [])) → c.wpIn F n P Q { a with defers := { target := .collected D, args := #[] } :: a.defers } W) :
    (Code.rangeFunc g ps assign body).wpIn F n P Q a w := by
  refine wpIn_rangeFunc ?_
  intro fn hfn
  rw [hro]
  obtain ⟨rec, hrec⟩ : ∃ rec : LoopState → Option Code → Loop, rec = fun st pe => { state := st, pending := pe, fn, tmps := a.tmps, params := ps, assign, body, defers := w.heap.size } := ⟨_, rfl⟩
  obtain ⟨W1, hW1⟩ : ∃ W1, (w.alloc (.deferred (some []))).alloc (.loop (rec .ready none)) = W1 := ⟨_, rfl⟩
  have hs1 : W1.heap.size = w.heap.size + 2 := by rw [← hW1]; simp
  have hb1 : Below w.heap.size w W1 := by
    rw [← hW1]; exact ((Below.refl _ w).alloc (Nat.le_refl _) _).alloc (by simp) _
  have hL1 : W1.heap[w.heap.size + 1]? = some (.loop (rec .ready none)) := by
    rw [← hW1]; have := World.alloc_heap_new (w.alloc (.deferred (some []))) (.loop (rec .ready none)); rwa [World.size_alloc] at this
  have hK1 : W1.heap[w.heap.size]? = some (.deferred (some [])) := by
    rw [← hW1]; exact (Below.heap_alloc _ _ _ (by simp)).trans (World.alloc_heap_new w _)
  refine ⟨w.heap.size + 1, [{ target := .collected w.heap.size, args := #[] }], W1, { target := .fn (.func gf) lb, args := #[.func (.yield (w.heap.size + 1)) #[] #[]] }, W1, gf,
    #[.func (.yield (w.heap.size + 1)) #[] #[]] ++ lb, W1, ?_, ?_, ?_, ?_, fun _ => h1, ?_⟩
  · rw [← hW1, hrec]; exact run_enterLoop_outer _ _ _ _ _
  · simp only [resolve, hg]
    simp [go_sem]
  · intro f' hf'; simp [Target.leads] at hf'; subst hf'; exact hFg
  · simp [invoke, go_sem, eg]
  refine (hseq (w.heap.size + 1)
    (fun pre W => I pre W ∧ W.heap[w.heap.size + 1]? = some (.loop (rec .ready none)) ∧ W.heap[w.heap.size]? = some (.deferred (some [])))
    (fun pre W => ∃ c, Ix c pre W ∧ W.heap[w.heap.size + 1]? = some (.loop (rec .done (some c))) ∧ W.heap[w.heap.size]? = some (.deferred (some [])))
    W1 (hb0.trans (hb1.mono hb0.size)) (fun k hk => ?_) ?_ ?_ ?_ ⟨hI _ _ _ h0 hb1, hL1, hK1⟩).mono ?_
  · rintro (h | rfl)
    · exact hY k (by omega) h
    · omega
  · rintro s A C ⟨hi, hl, hk⟩ hb
    exact ⟨hI _ _ _ hi (hb.mono (by omega)), (hb.block _ (by omega)).trans hl, (hb.block _ (by omega)).trans hk⟩
  · rintro s A C ⟨c, hi, hl, hk⟩ hb
    exact ⟨c, hIx _ _ _ _ hi (hb.mono (by omega)), (hb.block _ (by omega)).trans hl, (hb.block _ (by omega)).trans hk⟩
  · rintro pre x W ⟨hi, hl, hk⟩ hlen
    exact round_V hY hfn hps I Ix hI hIx Ax hAx hassign hbody rec hrec pre x W hi hl hk hlen
  · rintro e W2 ⟨⟨v, rfl⟩, (⟨xs, hS, hi, hl, hk⟩ | ⟨pre, hSp, c, hi, hl, hk⟩)⟩
    · have hr := run_endLoop (P := P) hl (by rw [hrec]; simp)
      rw [hrec] at hr
      exact ⟨none, _, hr, hdone _ xs _ (Nat.le_refl _) hS (hI _ _ _ hi (below_put _ (by omega))) ((World.putObj_heap_other (by omega)).trans hk)⟩
    · have hr := run_endLoop (P := P) hl (by rw [hrec]; simp)
      rw [hrec] at hr
      exact ⟨some c, _, hr, hstop _ c pre _ (Nat.le_refl _) hSp (hIx _ _ _ _ hi (below_put _ (by omega))) ((World.putObj_heap_other (by omega)).trans hk)⟩
end Go.Proofs.Ytmepnnlmhlndmab
namespace Go.Proofs.Ytmepnnlmhlndmab
open Go.RowKit Go.Shelf Go.Maps Go.Sort
set_option linter.unusedVariables false
set_option maxRecDepth 100000
attribute [local go_sem] Oper.semAt_some
theorem findx_at {p : Ex → Bool} {gs q t : List Ex} {g : Ex} (h : gs = (q ++ [g]) ++ t) (hq : ∀ x ∈ q, p x = false) (hg : p g = true) : gs.find? p = some g := by
  subst h
  rw [List.append_assoc, List.find?_append, List.find?_eq_none.2 (by intro x hx; rw [hq x hx]; simp)]
  simp [hg]
theorem findx_no {p : Ex → Bool} {gs : List Ex} (hq : ∀ x ∈ gs, p x = false) : gs.find? p = none := List.find?_eq_none.2 (by intro x hx; rw [hq x hx]; simp)
def fstO : Option Ex → Ex × Bool
  | some x => (x, true)
  | none => (zEx, false)
def isId (id : Nat) (x : Ex) : Bool := decide (x.id = id)
def hasS (sec : Int) (x : Ex) : Bool := decide ((x.st : Int) ≤ sec) && decide (sec < ((x.st + x.ln : Nat) : Int))
/-- Six cells are written, one behind the other. -/
theorem Cl.fill {W : World} {i : Nat} {t : TypeId} {c0 c1 c2 c3 c4 c5 a0 a1 a2 a3 a4 a5 : Value} (h : Cl W i t [c0, c1, c2, c3, c4, c5]) :
    Cl ((((((W.setCell ⟨i, 0, none⟩ a0).setCell ⟨i, 1, none⟩ a1).setCell ⟨i, 2, none⟩ a2).setCell ⟨i, 3, none⟩ a3).setCell ⟨i, 4, none⟩ a4).setCell ⟨i, 5, none⟩ a5) i t [a0, a1, a2, a3, a4, a5] :=
  (((((h.set 0 a0).set 1 a1).set 2 a2).set 3 a3).set 4 a4).set 5 a5
theorem Apart.fill {X : Nat → Prop} {W V : World} {i : Nat} {a0 a1 a2 a3 a4 a5 : Value} (h : Apart X W V) (hx : X i) :
    Apart X W ((((((V.setCell ⟨i, 0, none⟩ a0).setCell ⟨i, 1, none⟩ a1).setCell ⟨i, 2, none⟩ a2).setCell ⟨i, 3, none⟩ a3).setCell ⟨i, 4, none⟩ a4).setCell ⟨i, 5, none⟩ a5) :=
  (((((h.trans (Apart.at _ i 0 a0 hx)).trans (Apart.at _ i 1 a1 hx)).trans (Apart.at _ i 2 a2 hx)).trans (Apart.at _ i 3 a3 hx)).trans (Apart.at _ i 4 a4 hx)).trans (Apart.at _ i 5 a5 hx)
theorem askG_any (v : Nat) (bi : Nat) (x : Ex) (w : World) (hc : w.cell? ⟨bi, 0, none⟩ = some (.int .u32 v)) :
    Calls Try.prog 28 #[exV x, .pointer (some ⟨bi, 0, none⟩)] w fun e w' => e = .returned (.bool (isId v x)) ∧ Below w.heap.size w w' := by
  have hl := World.block_lt_of_cell? w _ hc
  have hB := below_new w (.cells #[.int .u32 x.id, .int .i64 x.st, .int .i64 x.ln, .int .u8 x.ow, .string x.nm, .int .u8 x.rt.toNat] 33)
  have HB : Hid3 _ := ⟨hB⟩
  have hq : isId v x = ((x.id : Int) == (v : Int)) := by
    unfold isId
    rw [Bool.eq_iff_iff, decide_eq_true_iff, beq_iff_eq]
    omega
  rw [hq]
  clear hB hq
  unfold exV
  go_enter Try.func28, Try.ntmps28
  go_wp2
  go_ret
  exact ⟨rfl, HB.out⟩
set_option maxHeartbeats 1000000 in
theorem askA_any (v : Int) (bi : Nat) (x : Ex) (w : World) (hc : w.cell? ⟨bi, 0, none⟩ = some (.int .i64 v)) :
    Calls Try.prog 29 #[exV x, .pointer (some ⟨bi, 0, none⟩)] w fun e w' => e = .returned (.bool (hasS v x)) ∧ Below w.heap.size w w' := by
  have hl := World.block_lt_of_cell? w _ hc
  have HB : Hid3 (Below w.heap.size w (w.alloc (.cells #[.int .u32 x.id, .int .i64 x.st, .int .i64 x.ln, .int .u8 x.ow, .string x.nm, .int .u8 x.rt.toNat] 33))) := ⟨below_new w _⟩
  have hx2 := Cl.new w 33 (exCs x)
  have cE := fun W => end_b x W
  obtain ⟨E, hE⟩ : ∃ E : Int, ((x.st + x.ln : Nat) : Int) = E := ⟨_, rfl⟩
  unfold hasS
  rw [hE] at cE ⊢
  clear hE
  have hc2 : (w.alloc (.cells (exCs x).toArray 33)).cell? ⟨bi, 0, none⟩ = some (.int .i64 v) := ((below_new w _).cell (p := ⟨bi, 0, none⟩) hl).trans hc
  rw [show (exCs x).toArray = #[.int .u32 x.id, .int .i64 x.st, .int .i64 x.ln, .int .u8 x.ow, .string x.nm, .int .u8 x.rt.toNat] from rfl] at hx2 hc2
  unfold exV at cE ⊢
  clear hc
  by_cases h1 : (x.st : Int) ≤ v
  · by_cases h2 : v < E
    · rw [decide_eq_true h1, decide_eq_true h2]
      go_enter Try.func29, Try.ntmps29
      go_wp2_with fail
      generalize w.alloc (.cells #[.int .u32 x.id, .int .i64 x.st, .int .i64 x.ln, .int .u8 x.ow, .string x.nm, .int .u8 x.rt.toNat] 33) = W at *
      have c0 := hx2.cell 0
      have c1 := hx2.cell 1
      have c2 := hx2.cell 2
      have c3 := hx2.cell 3
      have c4 := hx2.cell 4
      have c5 := hx2.cell 5
      simp only [List.getElem?_cons_zero, List.getElem?_cons_succ, exCs] at c0 c1 c2 c3 c4 c5
      have k0 := fun d os => cell_regrown c0 d os
      have k1 := fun d os => cell_regrown c1 d os
      have k2 := fun d os => cell_regrown c2 d os
      have k3 := fun d os => cell_regrown c3 d os
      have k4 := fun d os => cell_regrown c4 d os
      have k5 := fun d os => cell_regrown c5 d os
      have m1 := fun d os => cell_regrown hc2 d os
      have dN := fun d os => Calls.regrown_of (cE (grow (redrawn W d) os))
      refine wp_region_quiet_below (by kernel_rfl) (by kernel_rfl) ?_
      repeat (quiet_step (exact dN _ _))
      refine wpQuiet_nil ?_
      intro _ hw'
      obtain ⟨⟨dq, osq⟩, hw''⟩ := hw'
      subst hw''
      have HB4 : Hid3 (Below w.heap.size w (grow (redrawn W dq) osq)) := ⟨HB.out.trans ((below_regrown W dq osq).mono HB.out.size)⟩
      clear k0 k1 k2 k3 k4 k5 m1 dN c0 c1 c2 c3 c4 c5 HB hx2 hc2
      generalize grow (redrawn W dq) osq = W4 at *
      go_wp2
      go_ret
      exact ⟨rfl, HB4.out⟩
    · have h2' : decide (v < E) = false := decide_eq_false h2
      rw [decide_eq_true h1, h2']
      go_enter Try.func29, Try.ntmps29
      go_wp2_with fail
      generalize w.alloc (.cells #[.int .u32 x.id, .int .i64 x.st, .int .i64 x.ln, .int .u8 x.ow, .string x.nm, .int .u8 x.rt.toNat] 33) = W at *
      have c0 := hx2.cell 0
      have c1 := hx2.cell 1
      have c2 := hx2.cell 2
      have c3 := hx2.cell 3
      have c4 := hx2.cell 4
      have c5 := hx2.cell 5
      simp only [List.getElem?_cons_zero, List.getElem?_cons_succ, exCs] at c0 c1 c2 c3 c4 c5
      have k0 := fun d os => cell_regrown c0 d os
      have k1 := fun d os => cell_regrown c1 d os
      have k2 := fun d os => cell_regrown c2 d os
      have k3 := fun d os => cell_regrown c3 d os
      have k4 := fun d os => cell_regrown c4 d os
      have k5 := fun d os => cell_regrown c5 d os
      have m1 := fun d os => cell_regrown hc2 d os
      have dN := fun d os => Calls.regrown_of (cE (grow (redrawn W d) os))
      refine wp_region_quiet_below (by kernel_rfl) (by kernel_rfl) ?_
      repeat (quiet_step (exact dN _ _))
      refine wpQuiet_nil ?_
      intro _ hw'
      obtain ⟨⟨dq, osq⟩, hw''⟩ := hw'
      subst hw''
      have HB4 : Hid3 (Below w.heap.size w (grow (redrawn W dq) osq)) := ⟨HB.out.trans ((below_regrown W dq osq).mono HB.out.size)⟩
      clear k0 k1 k2 k3 k4 k5 m1 dN c0 c1 c2 c3 c4 c5 HB hx2 hc2
      generalize grow (redrawn W dq) osq = W4 at *
      go_wp2
      go_ret
      exact ⟨rfl, HB4.out⟩
  · have h1' : decide ((x.st : Int) ≤ v) = false := decide_eq_false h1
    rw [h1', Bool.false_and]
    go_enter Try.func29, Try.ntmps29
    go_wp2_with fail
    generalize w.alloc (.cells #[.int .u32 x.id, .int .i64 x.st, .int .i64 x.ln, .int .u8 x.ow, .string x.nm, .int .u8 x.rt.toNat] 33) = W at *
    have c0 := hx2.cell 0
    have c1 := hx2.cell 1
    have c2 := hx2.cell 2
    have c3 := hx2.cell 3
    have c4 := hx2.cell 4
    have c5 := hx2.cell 5
    simp only [List.getElem?_cons_zero, List.getElem?_cons_succ, exCs] at c0 c1 c2 c3 c4 c5
    have k0 := fun d os => cell_regrown c0 d os
    have k1 := fun d os => cell_regrown c1 d os
    have k2 := fun d os => cell_regrown c2 d os
    have k3 := fun d os => cell_regrown c3 d os
    have k4 := fun d os => cell_regrown c4 d os
    have k5 := fun d os => cell_regrown c5 d os
    have m1 := fun d os => cell_regrown hc2 d os
    have dN := fun d os => Calls.regrown_of (cE (grow (redrawn W d) os))
    refine wp_region_quiet_below (by kernel_rfl) (by kernel_rfl) ?_
    repeat (quiet_step (exact dN _ _))
    refine wpQuiet_nil ?_
    intro _ hw'
    obtain ⟨⟨dq, osq⟩, hw''⟩ := hw'
    subst hw''
    have HB4 : Hid3 (Below w.heap.size w (grow (redrawn W dq) osq)) := ⟨HB.out.trans ((below_regrown W dq osq).mono HB.out.size)⟩
    clear k0 k1 k2 k3 k4 k5 m1 dN c0 c1 c2 c3 c4 c5 HB hx2 hc2
    generalize grow (redrawn W dq) osq = W4 at *
    go_wp2
    go_ret
    exact ⟨rfl, HB4.out⟩
theorem Boxed.of_fill {W : World} {b i : Nat} {t : TypeId} {v v' a0 a1 a2 a3 a4 a5 : Value} (h : Boxed W b t v) (hne : b ≠ i) :
    Boxed (((((((W.setCell ⟨i, 0, none⟩ a0).setCell ⟨i, 1, none⟩ a1).setCell ⟨i, 2, none⟩ a2).setCell ⟨i, 3, none⟩ a3).setCell ⟨i, 4, none⟩ a4).setCell ⟨i, 5, none⟩ a5).setCell ⟨b, 0, none⟩ v') b t v' := by
  have h2 : Cl W b t [v] := h
  have h3 := ((((((h2.other hne 0 a0).other hne 1 a1).other hne 2 a2).other hne 3 a3).other hne 4 a4).other hne 5 a5).set 0 v'
  exact h3
set_option maxHeartbeats 2000000 in
theorem firstG_in (n : Nat) (hn : 8 ≤ n) (v : Nat) (bi n₀ tb hb N last : Nat) (ns : List Ln) (w : World) (h : Tp n₀ w tb hb N last ns) (hn0 : n₀ ≤ w.heap.size) (hc : w.cell? ⟨bi, 0, none⟩ = some (.int .u32 v)) :
    CallsIn Fence.wide n Try.prog 27 #[.pointer (some ⟨tb, 0, none⟩), .func (.func 28) #[] #[.pointer (some ⟨bi, 0, none⟩)]] w fun e w' =>
      e = .returned (.tuple #[exV (fstO ((ns.map Prod.snd).find? (isId v))).1, .bool (fstO ((ns.map Prod.snd).find? (isId v))).2]) ∧ Below w.heap.size w w' := by
  have hro : Fence.wide.round = none := rfl
  have cG := fun w h => (callsIn_wide (n := n - 1)).2 (tall_any n₀ tb hb N last ns w h)
  have hbi := World.block_lt_of_cell? w _ hc
  have a1 := Boxed.new w 58 (.func (.func 28) #[] #[.pointer (some ⟨bi, 0, none⟩)])
  have a2 := Cl.new (w.alloc (.cells #[.func (.func 28) #[] #[.pointer (some ⟨bi, 0, none⟩)]] 58)) 33 [.int .u32 0, .int .i64 0, .int .i64 0, .int .u8 0, .string ⟨#[]⟩, .int .u8 0]
  have a3 := Boxed.new ((w.alloc (.cells #[.func (.func 28) #[] #[.pointer (some ⟨bi, 0, none⟩)]] 58)).alloc (.cells #[.int .u32 0, .int .i64 0, .int .i64 0, .int .u8 0, .string ⟨#[]⟩, .int .u8 0] 33)) 4 (.bool false)
  have hB3 : Below w.heap.size w (((w.alloc (.cells #[.func (.func 28) #[] #[.pointer (some ⟨bi, 0, none⟩)]] 58)).alloc (.cells #[.int .u32 0, .int .i64 0, .int .i64 0, .int .u8 0, .string ⟨#[]⟩, .int .u8 0] 33)).alloc (.cells #[.bool false] 4)) := (((Below.refl _ w).alloc (Nat.le_refl _) _).alloc (by simp) _).alloc (by simp; omega) _
  have b1 := (a1.alloc (.cells #[.int .u32 0, .int .i64 0, .int .i64 0, .int .u8 0, .string ⟨#[]⟩, .int .u8 0] 33)).alloc (.cells #[.bool false] 4)
  have b2 := a2.alloc (.cells #[.bool false] 4)
  have hz3 : (((w.alloc (.cells #[.func (.func 28) #[] #[.pointer (some ⟨bi, 0, none⟩)]] 58)).alloc (.cells #[.int .u32 0, .int .i64 0, .int .i64 0, .int .u8 0, .string ⟨#[]⟩, .int .u8 0] 33)).alloc (.cells #[.bool false] 4)).heap.size = w.heap.size + 1 + 1 + 1 := by simp
  simp only [World.size_alloc] at b2 a3
  clear a1 a2
  refine callsIn_of_wp_marks Try.func27 rfl trivial ?_ rfl
  simp only [Try.ntmps27, List.size_toArray, List.length_cons, List.length_nil, Nat.reduceAdd, Nat.reduceSub, Array.replicate_succ, Array.replicate_zero, List.push_toArray, List.append_toArray, List.nil_append, List.cons_append]
  gi_wp2_with (refine ⟨trivial, fun _ => by omega, ?_⟩; refine (cG _ (h.below hB3)).mono ?_; rintro e w' ⟨rfl, rfl⟩)
  generalize (((w.alloc (.cells #[.func (.func 28) #[] #[.pointer (some ⟨bi, 0, none⟩)]] 58)).alloc (.cells #[.int .u32 0, .int .i64 0, .int .i64 0, .int .u8 0, .string ⟨#[]⟩, .int .u8 0] 33)).alloc (.cells #[.bool false] 4)) = W3 at *
  have b4 := Boxed.new W3 54 (.pointer (some ⟨hb, 0, none⟩))
  have b1' := b1.alloc (.cells #[.pointer (some ⟨hb, 0, none⟩)] 54)
  have b2' := b2.alloc (.cells #[.pointer (some ⟨hb, 0, none⟩)] 54)
  have b3' := a3.alloc (.cells #[.pointer (some ⟨hb, 0, none⟩)] 54)
  have hB : Below w.heap.size w (W3.alloc (.cells #[.pointer (some ⟨hb, 0, none⟩)] 54)) := hB3.alloc hB3.size _
  have hz : (W3.alloc (.cells #[.pointer (some ⟨hb, 0, none⟩)] 54)).heap.size = w.heap.size + 4 := by simp [hz3]
  rw [hz3] at b4
  clear b1 b2 a3
  generalize W3.alloc (.cells #[.pointer (some ⟨hb, 0, none⟩)] 54) = W at *
  clear hB3 hz3 cG
  have hT : Tp n₀ W tb hb N last ns := h.below hB
  refine wpIn_rangeFunc_V (n := n) (w := W) (ps := #[9]) (encs := exA) hro (by omega) (gf := 45) (lb := #[.pointer (some ⟨w.heap.size + 1 + 1 + 1, 0, none⟩)]) rfl trivial (enters_of Try.func45 (by kernel_rfl) rfl)
    (Y := fun k => k = w.heap.size + 1 ∨ k = w.heap.size + 1 + 1)
    (all_seq (n - 1) (by omega) n₀ (w.heap.size + 1 + 1 + 1) hb ns (fun k => (k = w.heap.size + 1 ∨ k = w.heap.size + 1 + 1) ∨ k = W.heap.size + 1) W (by rintro k ((rfl | rfl) | rfl) <;> omega) (by omega) b4.cell hT.l)
    (fun k hk e => by omega) (Below.refl _ _) (fun _ => rfl)
    (fun pre V => (((Boxed V w.heap.size 58 (.func (.func 28) #[] #[.pointer (some ⟨bi, 0, none⟩)]) ∧ Cl V (w.heap.size + 1) 33 [.int .u32 0, .int .i64 0, .int .i64 0, .int .u8 0, .string ⟨#[]⟩, .int .u8 0]) ∧ Boxed V (w.heap.size + 1 + 1) 4 (.bool false)) ∧ Below w.heap.size w V) ∧ ∀ g ∈ pre, isId v g = false)
    (fun c pre V => (((c = .ret ∧ ∃ q g, pre = q ++ [g] ∧ (∀ x ∈ q, isId v x = false) ∧ isId v g = true ∧ Cl V (w.heap.size + 1) 33 (exCs g)) ∧ Boxed V (w.heap.size + 1 + 1) 4 (.bool true)) ∧ Below w.heap.size w V))
    (fun s A C hs hb => ⟨⟨⟨⟨(hb.block _ (by omega)).trans hs.1.1.1.1, (hb.block _ (by omega)).trans hs.1.1.1.2⟩, (hb.block _ (by omega)).trans hs.1.1.2⟩, hs.1.2.trans (hb.mono (by omega))⟩, hs.2⟩)
    (fun c s A C hs hb => by
      obtain ⟨⟨⟨hc, q, g, h1, h2, h3, h4⟩, h5⟩, h6⟩ := hs
      exact ⟨⟨⟨hc, q, g, h1, h2, h3, (hb.block _ (by omega)).trans h4⟩, (hb.block _ (by omega)).trans h5⟩, h6.trans (hb.mono (by omega))⟩)
    ⟨⟨⟨⟨b1', b2'⟩, b3'⟩, hB⟩, by simp⟩
    (fun x a' V => ∃ D, (w.heap.size + 4 ≤ D ∧ D ≠ W.heap.size + 1) ∧ Cl V D 33 (exCs x) ∧ a' = { tmps := #[.pointer (some ⟨tb, 0, none⟩), .func (.func 28) #[] #[.pointer (some ⟨bi, 0, none⟩)], undef, .pointer (some ⟨w.heap.size, 0, none⟩), .pointer (some ⟨w.heap.size + 1, 0, none⟩), .pointer (some ⟨w.heap.size + 1 + 1, 0, none⟩), .pointer (some ⟨D, 0, none⟩), .pointer (some ⟨tb, 0, none⟩), .func (.func 45) #[] #[.pointer (some ⟨w.heap.size + 1 + 1 + 1, 0, none⟩)], exV x, undef, undef, undef, undef, undef], defers := [] })
    (by
      rintro x a' A C ⟨D, hD, hc, he⟩ hk
      exact ⟨D, hD, (hk D hD.2).trans hc, he⟩)
    ?assign ?body ?done ?stop
  case assign =>
    intro l x V K hl hK
    simp only [exA, exV]
    gi_wp2
    exact hK _ _ (below_new V _) ⟨V.heap.size, by omega, Cl.new V _ (exCs x), rfl⟩
  case body =>
    rintro l pre x a' V ⟨⟨⟨⟨h1, h2⟩, h3⟩, hbl⟩, hpre⟩ ⟨D, hD, hC, rfl⟩ hlen
    have c1 := h1.cell
    have e0 := hC.cell 0
    have e1 := hC.cell 1
    have e2 := hC.cell 2
    have e3 := hC.cell 3
    have e4 := hC.cell 4
    have e5 := hC.cell 5
    simp only [exCs, List.getElem?_cons_zero, List.getElem?_cons_succ] at e0 e1 e2 e3 e4 e5
    have cQ := (callsIn_wide (n := n - 1 - 1 - 1)).2 (askG_any v bi x V ((hbl.cell (p := ⟨bi, 0, none⟩) hbi).trans hc))
    unfold exV at cQ ⊢
    have HH := Hid3.mk hpre
    clear hpre hT
    cases hp : isId v x with
    | true =>
      rw [hp] at cQ
      have HP := Hid3.mk hp
      clear hp
      gi_wp2_with fail
      refine ⟨trivial, fun _ => by omega, ?_⟩
      refine (CallsIn.inRound l cQ).mono ?_
      rintro e V2 ⟨rfl, bV2⟩
      have s1 : Boxed V2 w.heap.size _ _ := (bV2.block _ h1.lt).trans h1
      have s2 := h2.below bV2
      have s3 : Boxed V2 (w.heap.size + 1 + 1) _ _ := (bV2.block _ h3.lt).trans h3
      have hD2 := hC.below bV2
      clear cQ c1 e0 e1 e2 e3 e4 e5 hC h1 h2 h3
      have x0 := hD2.cell 0
      have x1 := hD2.cell 1
      have x2 := hD2.cell 2
      have x3 := hD2.cell 3
      have x4 := hD2.cell 4
      have x5 := hD2.cell 5
      have y0 := s2.cell 0
      have y1 := s2.cell 1
      have y2 := s2.cell 2
      have y3 := s2.cell 3
      have y4 := s2.cell 4
      have y5 := s2.cell 5
      have f0 := s2.thaw 0
      have f1 := s2.thaw 1
      have f2 := s2.thaw 2
      have f3 := s2.thaw 3
      have f4 := s2.thaw 4
      have f5 := s2.thaw 5
      have g0 := s3.cell
      have g1 := s3.frozen
      have hl2 := s2.lt
      have hl3 := s3.lt
      simp only [List.getElem?_cons_zero, List.getElem?_cons_succ, exCs] at x0 x1 x2 x3 x4 x5 y0 y1 y2 y3 y4 y5
      have hne : w.heap.size + 1 ≠ w.heap.size + 1 + 1 := by omega
      have hne2 : w.heap.size + 1 + 1 ≠ w.heap.size + 1 := by omega
      have HE : Hid3 (Apart (fun k => k = w.heap.size + 1 ∨ k = w.heap.size + 1 + 1) V V2 ∧ Below w.heap.size w V2 ∧ Cl V2 (w.heap.size + 1) 33 [.int .u32 0, .int .i64 0, .int .i64 0, .int .u8 0, .string ⟨#[]⟩, .int .u8 0] ∧ Boxed V2 (w.heap.size + 1 + 1) 4 (.bool false)) := ⟨Apart.of_below bV2, hbl.trans (bV2.mono hbl.size), s2, s3⟩
      clear s1 s2 s3 hD2 bV2 hbl
      gi_wp2
      have hE := HE.out
      refine ⟨(hE.1.fill (.inl rfl)).trans (Apart.at _ _ 0 _ (.inr rfl)), ⟨⟨rfl, pre, x, rfl, HH.out, HP.out, (Cl.fill hE.2.2.1).other (by omega) 0 _⟩, ?_⟩, ?_⟩
      · exact Boxed.of_fill hE.2.2.2 (by omega)
      · exact hE.2.1.trans ((((Apart.refl (fun k => k = w.heap.size + 1 ∨ k = w.heap.size + 1 + 1) V2).fill (.inl rfl)).trans (Apart.at _ _ 0 _ (.inr rfl))).below _ (by rintro k (rfl | rfl) <;> omega) hE.2.1.size)
    | false =>
      rw [hp] at cQ
      have HP := Hid3.mk hp
      have HE : Hid3 ((Boxed V w.heap.size 58 (.func (.func 28) #[] #[.pointer (some ⟨bi, 0, none⟩)]) ∧ Cl V (w.heap.size + 1) 33 [.int .u32 0, .int .i64 0, .int .i64 0, .int .u8 0, .string ⟨#[]⟩, .int .u8 0]) ∧ Boxed V (w.heap.size + 1 + 1) 4 (.bool false)) := ⟨⟨h1, h2⟩, h3⟩
      clear hp
      gi_wp2_with (refine ⟨trivial, fun _ => by omega, ?_⟩; refine (CallsIn.inRound l cQ).mono ?_; rintro e V2 ⟨rfl, bV2⟩)
      obtain ⟨⟨h1, h2⟩, h3⟩ := HE.out
      refine ⟨Apart.of_below bV2, ⟨⟨⟨(bV2.block _ h1.lt).trans h1, h2.below bV2⟩, (bV2.block _ h3.lt).trans h3⟩, hbl.trans (bV2.mono hbl.size)⟩, ?_⟩
      intro g hg
      rcases List.mem_append.1 hg with hg | hg
      · exact HH.out g hg
      · rw [List.mem_singleton.1 hg]; exact HP.out
  case done =>
    rintro D ys V hD rfl ⟨⟨⟨⟨h1, h2⟩, h3⟩, hbl⟩, hpre⟩ hK
    have y0 := h2.cell 0
    have y1 := h2.cell 1
    have y2 := h2.cell 2
    have y3 := h2.cell 3
    have y4 := h2.cell 4
    have y5 := h2.cell 5
    have f0 := h2.thaw 0
    have f1 := h2.thaw 1
    have f2 := h2.thaw 2
    have f3 := h2.thaw 3
    have f4 := h2.thaw 4
    have f5 := h2.thaw 5
    have g0 := h3.cell
    have g1 := h3.frozen
    have hl2 := h2.lt
    have hl3 := h3.lt
    simp only [List.getElem?_cons_zero, List.getElem?_cons_succ] at y0 y1 y2 y3 y4 y5
    have hne : w.heap.size + 1 ≠ w.heap.size + 1 + 1 := by omega
    have hne2 : w.heap.size + 1 + 1 ≠ w.heap.size + 1 := by omega
    have hF := Hid3.mk (findx_no hpre)
    have HE : Hid3 (Below w.heap.size w V ∧ Cl V (w.heap.size + 1) 33 [.int .u32 0, .int .i64 0, .int .i64 0, .int .u8 0, .string ⟨#[]⟩, .int .u8 0] ∧ Boxed V (w.heap.size + 1 + 1) 4 (.bool false) ∧ V.heap[D]? = some (.deferred (some []))) := ⟨hbl, h2, h3, hK⟩
    clear h1 h2 h3 hbl hpre hT hK
    gi_wp2
    obtain ⟨hbl, h2, h3, hK⟩ := HE.out
    have q2 := (Cl.fill (a0 := .int .u32 0) (a1 := .int .i64 0) (a2 := .int .i64 0) (a3 := .int .u8 0) (a4 := .string ⟨#[]⟩) (a5 := .int .u8 0) h2).other (d := w.heap.size + 1 + 1) (by omega) 0 (.bool false)
    have q3 := Boxed.of_fill (i := w.heap.size + 1) (a0 := .int .u32 0) (a1 := .int .i64 0) (a2 := .int .i64 0) (a3 := .int .u8 0) (a4 := .string ⟨#[]⟩) (a5 := .int .u8 0) (v' := .bool false) h3 (by omega)
    have qa := ((Apart.refl (fun k => k = w.heap.size + 1 ∨ k = w.heap.size + 1 + 1) V).fill (i := w.heap.size + 1) (a0 := .int .u32 0) (a1 := .int .i64 0) (a2 := .int .i64 0) (a3 := .int .u8 0) (a4 := .string ⟨#[]⟩) (a5 := .int .u8 0) (.inl rfl)).trans (Apart.at _ (w.heap.size + 1 + 1) 0 (.bool false) (.inr rfl))
    have hK2 := (qa.block D (Array.getElem?_eq_some_iff.1 hK).1 (by omega)).trans hK
    have hbl2 := hbl.trans (qa.below _ (by rintro k (rfl | rfl) <;> omega) hbl.size)
    generalize (((((((V.setCell ⟨w.heap.size + 1, 0, none⟩ (.int .u32 0)).setCell ⟨w.heap.size + 1, 1, none⟩ (.int .i64 0)).setCell ⟨w.heap.size + 1, 2, none⟩ (.int .i64 0)).setCell ⟨w.heap.size + 1, 3, none⟩ (.int .u8 0)).setCell ⟨w.heap.size + 1, 4, none⟩ (.string ⟨#[]⟩)).setCell ⟨w.heap.size + 1, 5, none⟩ (.int .u8 0)).setCell ⟨w.heap.size + 1 + 1, 0, none⟩ (.bool false)) = V2 at *
    have hp := below_put (B := w.heap.size + 4) (W := V2) (l := D) (.deferred none) (by omega)
    have j2 : Cl (V2.putObj D (.deferred none)) _ _ _ := (hp.block _ (by omega)).trans q2
    have j3 : Boxed (V2.putObj D (.deferred none)) _ _ _ := (hp.block _ (by omega)).trans q3
    have k0 := j2.cell 0
    have k1 := j2.cell 1
    have k2 := j2.cell 2
    have k3 := j2.cell 3
    have k4 := j2.cell 4
    have k5 := j2.cell 5
    have k6 := j3.cell
    simp only [List.getElem?_cons_zero, List.getElem?_cons_succ] at k0 k1 k2 k3 k4 k5
    refine ⟨by simp, .inl ⟨_, _, rfl, run_takeDeferred hK2, ?_⟩⟩
    exact ⟨.tuple #[exV zEx, .bool false], by simp [results, Try.f27, go_sem, k0, k1, k2, k3, k4, k5, k6, exV, zEx], by rw [show (ns.map Prod.snd).find? (isId v) = none from hF.out]; rfl, hbl2.trans (hp.mono (by omega))⟩
  case stop =>
    rintro D c pre V hD hpre ⟨⟨⟨rfl, q, g, rfl, hq, hg, h2⟩, h3⟩, hbl⟩ hK
    obtain ⟨t, ht⟩ := hpre
    have hF : (ns.map Prod.snd).find? (isId v) = some g := findx_at ht.symm hq hg
    have hl2 := h2.lt
    gi_wp2
    have hp := below_put (B := w.heap.size + 4) (W := V) (l := D) (.deferred none) (by omega)
    have j2 : Cl (V.putObj D (.deferred none)) _ _ _ := (hp.block _ (by omega)).trans h2
    have j3 : Boxed (V.putObj D (.deferred none)) _ _ _ := (hp.block _ (by omega)).trans h3
    have k0 := j2.cell 0
    have k1 := j2.cell 1
    have k2 := j2.cell 2
    have k3 := j2.cell 3
    have k4 := j2.cell 4
    have k5 := j2.cell 5
    have k6 := j3.cell
    simp only [List.getElem?_cons_zero, List.getElem?_cons_succ, exCs] at k0 k1 k2 k3 k4 k5
    refine ⟨by simp, .inl ⟨_, _, rfl, run_takeDeferred hK, ?_⟩⟩
    exact ⟨.tuple #[exV g, .bool true], by simp [results, Try.f27, go_sem, k0, k1, k2, k3, k4, k5, k6, exV], by rw [hF]; rfl, hbl.trans (hp.mono (by omega))⟩
set_option maxHeartbeats 1000000 in
theorem get_any (v : Nat) (n₀ tb hb N last : Nat) (ns : List Ln) (w : World) (h : Tp n₀ w tb hb N last ns) (hn0 : n₀ ≤ w.heap.size) :
    Calls Try.prog 6 #[.pointer (some ⟨tb, 0, none⟩), .int .u32 v] w fun e w' =>
      e = .returned (.tuple #[exV (fstO ((ns.map Prod.snd).find? (isId v))).1, .bool (fstO ((ns.map Prod.snd).find? (isId v))).2]) ∧ Below w.heap.size w w' := by
  have hB : Below w.heap.size w ((w.alloc (.cells #[.int .u32 v] 22)).alloc (.cells #[.int .u32 0, .int .i64 0, .int .i64 0, .int .u8 0, .string ⟨#[]⟩, .int .u8 0] 33)) := ((Below.refl _ w).alloc (Nat.le_refl _) _).alloc (by simp) _
  have hb1 := (Boxed.new w 22 (.int .u32 v)).alloc (.cells #[.int .u32 0, .int .i64 0, .int .i64 0, .int .u8 0, .string ⟨#[]⟩, .int .u8 0] 33)
  have hb2 := Cl.new (w.alloc (.cells #[.int .u32 v] 22)) 33 [.int .u32 0, .int .i64 0, .int .i64 0, .int .u8 0, .string ⟨#[]⟩, .int .u8 0]
  rw [World.size_alloc] at hb2
  have cF := (callsIn_wide (n := 8)).1 (firstG_in 8 (by decide) v w.heap.size n₀ tb hb N last ns _ (h.below hB) (by simp; omega) hb1.cell)
  obtain ⟨x, hx⟩ : ∃ x, (fstO ((ns.map Prod.snd).find? (isId v))).1 = x := ⟨_, rfl⟩
  obtain ⟨o, ho⟩ : ∃ o, (fstO ((ns.map Prod.snd).find? (isId v))).2 = o := ⟨_, rfl⟩
  rw [hx, ho] at cF ⊢
  have HB := Hid3.mk hB
  have HB2 := Hid3.mk hb2
  clear hx ho h hB hb1 hb2
  unfold exV at cF ⊢
  go_enter Try.func6, Try.ntmps6
  go_wp2_with fail
  refine cF.mono ?_
  rintro e W2 ⟨rfl, hB2⟩
  have s2 := HB2.out.below hB2
  have HB3 := Hid3.mk (HB.out.trans (hB2.mono HB.out.size))
  have y0 := s2.cell 0
  have y1 := s2.cell 1
  have y2 := s2.cell 2
  have y3 := s2.cell 3
  have y4 := s2.cell 4
  have y5 := s2.cell 5
  have f0 := s2.thaw 0
  have f1 := s2.thaw 1
  have f2 := s2.thaw 2
  have f3 := s2.thaw 3
  have f4 := s2.thaw 4
  have f5 := s2.thaw 5
  have hl2 := s2.lt
  have HS := Hid3.mk s2
  simp only [List.getElem?_cons_zero, List.getElem?_cons_succ] at y0 y1 y2 y3 y4 y5
  clear s2 hB2 cF HB HB2
  go_wp2
  have q2 := Cl.fill (a0 := .int .u32 x.id) (a1 := .int .i64 x.st) (a2 := .int .i64 x.ln) (a3 := .int .u8 x.ow) (a4 := .string x.nm) (a5 := .int .u8 x.rt.toNat) HS.out
  have qa := (Apart.refl (fun k => k = w.heap.size + 1) W2).fill (i := w.heap.size + 1) (a0 := .int .u32 x.id) (a1 := .int .i64 x.st) (a2 := .int .i64 x.ln) (a3 := .int .u8 x.ow) (a4 := .string x.nm) (a5 := .int .u8 x.rt.toNat) rfl
  have hB4 := HB3.out.trans (qa.below w.heap.size (fun k e => by omega) HB3.out.size)
  generalize ((((((W2.setCell ⟨w.heap.size + 1, 0, none⟩ (.int .u32 x.id)).setCell ⟨w.heap.size + 1, 1, none⟩ (.int .i64 x.st)).setCell ⟨w.heap.size + 1, 2, none⟩ (.int .i64 x.ln)).setCell ⟨w.heap.size + 1, 3, none⟩ (.int .u8 x.ow)).setCell ⟨w.heap.size + 1, 4, none⟩ (.string x.nm)).setCell ⟨w.heap.size + 1, 5, none⟩ (.int .u8 x.rt.toNat)) = W3 at *
  have k0 := q2.cell 0
  have k1 := q2.cell 1
  have k2 := q2.cell 2
  have k3 := q2.cell 3
  have k4 := q2.cell 4
  have k5 := q2.cell 5
  simp only [List.getElem?_cons_zero, List.getElem?_cons_succ] at k0 k1 k2 k3 k4 k5
  refine bodyPost_ret (v := .tuple #[.agg #[.int .u32 x.id, .int .i64 x.st, .int .i64 x.ln, .int .u8 x.ow, .string x.nm, .int .u8 x.rt.toNat], .bool o]) (by simp [results, Try.f6, go_sem, k0, k1, k2, k3, k4, k5]) rfl ?_
  exact ⟨rfl, hB4⟩
set_option maxHeartbeats 2000000 in
theorem firstA_in (n : Nat) (hn : 8 ≤ n) (v : Int) (bi n₀ tb hb N last : Nat) (ns : List Ln) (w : World) (h : Tp n₀ w tb hb N last ns) (hn0 : n₀ ≤ w.heap.size) (hc : w.cell? ⟨bi, 0, none⟩ = some (.int .i64 v)) :
    CallsIn Fence.wide n Try.prog 27 #[.pointer (some ⟨tb, 0, none⟩), .func (.func 29) #[] #[.pointer (some ⟨bi, 0, none⟩)]] w fun e w' =>
      e = .returned (.tuple #[exV (fstO ((ns.map Prod.snd).find? (hasS v))).1, .bool (fstO ((ns.map Prod.snd).find? (hasS v))).2]) ∧ Below w.heap.size w w' := by
  have hro : Fence.wide.round = none := rfl
  have cG := fun w h => (callsIn_wide (n := n - 1)).2 (tall_any n₀ tb hb N last ns w h)
  have hbi := World.block_lt_of_cell? w _ hc
  have a1 := Boxed.new w 58 (.func (.func 29) #[] #[.pointer (some ⟨bi, 0, none⟩)])
  have a2 := Cl.new (w.alloc (.cells #[.func (.func 29) #[] #[.pointer (some ⟨bi, 0, none⟩)]] 58)) 33 [.int .u32 0, .int .i64 0, .int .i64 0, .int .u8 0, .string ⟨#[]⟩, .int .u8 0]
  have a3 := Boxed.new ((w.alloc (.cells #[.func (.func 29) #[] #[.pointer (some ⟨bi, 0, none⟩)]] 58)).alloc (.cells #[.int .u32 0, .int .i64 0, .int .i64 0, .int .u8 0, .string ⟨#[]⟩, .int .u8 0] 33)) 4 (.bool false)
  have hB3 : Below w.heap.size w (((w.alloc (.cells #[.func (.func 29) #[] #[.pointer (some ⟨bi, 0, none⟩)]] 58)).alloc (.cells #[.int .u32 0, .int .i64 0, .int .i64 0, .int .u8 0, .string ⟨#[]⟩, .int .u8 0] 33)).alloc (.cells #[.bool false] 4)) := (((Below.refl _ w).alloc (Nat.le_refl _) _).alloc (by simp) _).alloc (by simp; omega) _
  have b1 := (a1.alloc (.cells #[.int .u32 0, .int .i64 0, .int .i64 0, .int .u8 0, .string ⟨#[]⟩, .int .u8 0] 33)).alloc (.cells #[.bool false] 4)
  have b2 := a2.alloc (.cells #[.bool false] 4)
  have hz3 : (((w.alloc (.cells #[.func (.func 29) #[] #[.pointer (some ⟨bi, 0, none⟩)]] 58)).alloc (.cells #[.int .u32 0, .int .i64 0, .int .i64 0, .int .u8 0, .string ⟨#[]⟩, .int .u8 0] 33)).alloc (.cells #[.bool false] 4)).heap.size = w.heap.size + 1 + 1 + 1 := by simp
  simp only [World.size_alloc] at b2 a3
  clear a1 a2
  refine callsIn_of_wp_marks Try.func27 rfl trivial ?_ rfl
  simp only [Try.ntmps27, List.size_toArray, List.length_cons, List.length_nil, Nat.reduceAdd, Nat.reduceSub, Array.replicate_succ, Array.replicate_zero, List.push_toArray, List.append_toArray, List.nil_append, List.cons_append]
  gi_wp2_with (refine ⟨trivial, fun _ => by omega, ?_⟩; refine (cG _ (h.below hB3)).mono ?_; rintro e w' ⟨rfl, rfl⟩)
  generalize (((w.alloc (.cells #[.func (.func 29) #[] #[.pointer (some ⟨bi, 0, none⟩)]] 58)).alloc (.cells #[.int .u32 0, .int .i64 0, .int .i64 0, .int .u8 0, .string ⟨#[]⟩, .int .u8 0] 33)).alloc (.cells #[.bool false] 4)) = W3 at *
  have b4 := Boxed.new W3 54 (.pointer (some ⟨hb, 0, none⟩))
  have b1' := b1.alloc (.cells #[.pointer (some ⟨hb, 0, none⟩)] 54)
  have b2' := b2.alloc (.cells #[.pointer (some ⟨hb, 0, none⟩)] 54)
  have b3' := a3.alloc (.cells #[.pointer (some ⟨hb, 0, none⟩)] 54)
  have hB : Below w.heap.size w (W3.alloc (.cells #[.pointer (some ⟨hb, 0, none⟩)] 54)) := hB3.alloc hB3.size _
  have hz : (W3.alloc (.cells #[.pointer (some ⟨hb, 0, none⟩)] 54)).heap.size = w.heap.size + 4 := by simp [hz3]
  rw [hz3] at b4
  clear b1 b2 a3
  generalize W3.alloc (.cells #[.pointer (some ⟨hb, 0, none⟩)] 54) = W at *
  clear hB3 hz3 cG
  have hT : Tp n₀ W tb hb N last ns := h.below hB
  refine wpIn_rangeFunc_V (n := n) (w := W) (ps := #[9]) (encs := exA) hro (by omega) (gf := 45) (lb := #[.pointer (some ⟨w.heap.size + 1 + 1 + 1, 0, none⟩)]) rfl trivial (enters_of Try.func45 (by kernel_rfl) rfl)
    (Y := fun k => k = w.heap.size + 1 ∨ k = w.heap.size + 1 + 1)
    (all_seq (n - 1) (by omega) n₀ (w.heap.size + 1 + 1 + 1) hb ns (fun k => (k = w.heap.size + 1 ∨ k = w.heap.size + 1 + 1) ∨ k = W.heap.size + 1) W (by rintro k ((rfl | rfl) | rfl) <;> omega) (by omega) b4.cell hT.l)
    (fun k hk e => by omega) (Below.refl _ _) (fun _ => rfl)
    (fun pre V => (((Boxed V w.heap.size 58 (.func (.func 29) #[] #[.pointer (some ⟨bi, 0, none⟩)]) ∧ Cl V (w.heap.size + 1) 33 [.int .u32 0, .int .i64 0, .int .i64 0, .int .u8 0, .string ⟨#[]⟩, .int .u8 0]) ∧ Boxed V (w.heap.size + 1 + 1) 4 (.bool false)) ∧ Below w.heap.size w V) ∧ ∀ g ∈ pre, hasS v g = false)
    (fun c pre V => (((c = .ret ∧ ∃ q g, pre = q ++ [g] ∧ (∀ x ∈ q, hasS v x = false) ∧ hasS v g = true ∧ Cl V (w.heap.size + 1) 33 (exCs g)) ∧ Boxed V (w.heap.size + 1 + 1) 4 (.bool true)) ∧ Below w.heap.size w V))
    (fun s A C hs hb => ⟨⟨⟨⟨(hb.block _ (by omega)).trans hs.1.1.1.1, (hb.block _ (by omega)).trans hs.1.1.1.2⟩, (hb.block _ (by omega)).trans hs.1.1.2⟩, hs.1.2.trans (hb.mono (by omega))⟩, hs.2⟩)
    (fun c s A C hs hb => by
      obtain ⟨⟨⟨hc, q, g, h1, h2, h3, h4⟩, h5⟩, h6⟩ := hs
      exact ⟨⟨⟨hc, q, g, h1, h2, h3, (hb.block _ (by omega)).trans h4⟩, (hb.block _ (by omega)).trans h5⟩, h6.trans (hb.mono (by omega))⟩)
    ⟨⟨⟨⟨b1', b2'⟩, b3'⟩, hB⟩, by simp⟩
    (fun x a' V => ∃ D, (w.heap.size + 4 ≤ D ∧ D ≠ W.heap.size + 1) ∧ Cl V D 33 (exCs x) ∧ a' = { tmps := #[.pointer (some ⟨tb, 0, none⟩), .func (.func 29) #[] #[.pointer (some ⟨bi, 0, none⟩)], undef, .pointer (some ⟨w.heap.size, 0, none⟩), .pointer (some ⟨w.heap.size + 1, 0, none⟩), .pointer (some ⟨w.heap.size + 1 + 1, 0, none⟩), .pointer (some ⟨D, 0, none⟩), .pointer (some ⟨tb, 0, none⟩), .func (.func 45) #[] #[.pointer (some ⟨w.heap.size + 1 + 1 + 1, 0, none⟩)], exV x, undef, undef, undef, undef, undef], defers := [] })
    (by
      rintro x a' A C ⟨D, hD, hc, he⟩ hk
      exact ⟨D, hD, (hk D hD.2).trans hc, he⟩)
    ?assign ?body ?done ?stop
  case assign =>
    intro l x V K hl hK
    simp only [exA, exV]
    gi_wp2
    exact hK _ _ (below_new V _) ⟨V.heap.size, by omega, Cl.new V _ (exCs x), rfl⟩
  case body =>
    rintro l pre x a' V ⟨⟨⟨⟨h1, h2⟩, h3⟩, hbl⟩, hpre⟩ ⟨D, hD, hC, rfl⟩ hlen
    have c1 := h1.cell
    have e0 := hC.cell 0
    have e1 := hC.cell 1
    have e2 := hC.cell 2
    have e3 := hC.cell 3
    have e4 := hC.cell 4
    have e5 := hC.cell 5
    simp only [exCs, List.getElem?_cons_zero, List.getElem?_cons_succ] at e0 e1 e2 e3 e4 e5
    have cQ := (callsIn_wide (n := n - 1 - 1 - 1)).2 (askA_any v bi x V ((hbl.cell (p := ⟨bi, 0, none⟩) hbi).trans hc))
    unfold exV at cQ ⊢
    have HH := Hid3.mk hpre
    clear hpre hT
    cases hp : hasS v x with
    | true =>
      rw [hp] at cQ
      have HP := Hid3.mk hp
      clear hp
      gi_wp2_with fail
      refine ⟨trivial, fun _ => by omega, ?_⟩
      refine (CallsIn.inRound l cQ).mono ?_
      rintro e V2 ⟨rfl, bV2⟩
      have s1 : Boxed V2 w.heap.size _ _ := (bV2.block _ h1.lt).trans h1
      have s2 := h2.below bV2
      have s3 : Boxed V2 (w.heap.size + 1 + 1) _ _ := (bV2.block _ h3.lt).trans h3
      have hD2 := hC.below bV2
      clear cQ c1 e0 e1 e2 e3 e4 e5 hC h1 h2 h3
      have x0 := hD2.cell 0
      have x1 := hD2.cell 1
      have x2 := hD2.cell 2
      have x3 := hD2.cell 3
      have x4 := hD2.cell 4
      have x5 := hD2.cell 5
      have y0 := s2.cell 0
      have y1 := s2.cell 1
      have y2 := s2.cell 2
      have y3 := s2.cell 3
      have y4 := s2.cell 4
      have y5 := s2.cell 5
      have f0 := s2.thaw 0
      have f1 := s2.thaw 1
      have f2 := s2.thaw 2
      have f3 := s2.thaw 3
      have f4 := s2.thaw 4
      have f5 := s2.thaw 5
      have g0 := s3.cell
      have g1 := s3.frozen
      have hl2 := s2.lt
      have hl3 := s3.lt
      simp only [List.getElem?_cons_zero, List.getElem?_cons_succ, exCs] at x0 x1 x2 x3 x4 x5 y0 y1 y2 y3 y4 y5
      have hne : w.heap.size + 1 ≠ w.heap.size + 1 + 1 := by omega
      have hne2 : w.heap.size + 1 + 1 ≠ w.heap.size + 1 := by omega
      have HE : Hid3 (Apart (fun k => k = w.heap.size + 1 ∨ k = w.heap.size + 1 + 1) V V2 ∧ Below w.heap.size w V2 ∧ Cl V2 (w.heap.size + 1) 33 [.int .u32 0, .int .i64 0, .int .i64 0, .int .u8 0, .string ⟨#[]⟩, .int .u8 0] ∧ Boxed V2 (w.heap.size + 1 + 1) 4 (.bool false)) := ⟨Apart.of_below bV2, hbl.trans (bV2.mono hbl.size), s2, s3⟩
      clear s1 s2 s3 hD2 bV2 hbl
      gi_wp2
      have hE := HE.out
      refine ⟨(hE.1.fill (.inl rfl)).trans (Apart.at _ _ 0 _ (.inr rfl)), ⟨⟨rfl, pre, x, rfl, HH.out, HP.out, (Cl.fill hE.2.2.1).other (by omega) 0 _⟩, ?_⟩, ?_⟩
      · exact Boxed.of_fill hE.2.2.2 (by omega)
      · exact hE.2.1.trans ((((Apart.refl (fun k => k = w.heap.size + 1 ∨ k = w.heap.size + 1 + 1) V2).fill (.inl rfl)).trans (Apart.at _ _ 0 _ (.inr rfl))).below _ (by rintro k (rfl | rfl) <;> omega) hE.2.1.size)
    | false =>
      rw [hp] at cQ
      have HP := Hid3.mk hp
      have HE : Hid3 ((Boxed V w.heap.size 58 (.func (.func 29) #[] #[.pointer (some ⟨bi, 0, none⟩)]) ∧ Cl V (w.heap.size + 1) 33 [.int .u32 0, .int .i64 0, .int .i64 0, .int .u8 0, .string ⟨#[]⟩, .int .u8 0]) ∧ Boxed V (w.heap.size + 1 + 1) 4 (.bool false)) := ⟨⟨h1, h2⟩, h3⟩
      clear hp
      gi_wp2_with (refine ⟨trivial, fun _ => by omega, ?_⟩; refine (CallsIn.inRound l cQ).mono ?_; rintro e V2 ⟨rfl, bV2⟩)
      obtain ⟨⟨h1, h2⟩, h3⟩ := HE.out
      refine ⟨Apart.of_below bV2, ⟨⟨⟨(bV2.block _ h1.lt).trans h1, h2.below bV2⟩, (bV2.block _ h3.lt).trans h3⟩, hbl.trans (bV2.mono hbl.size)⟩, ?_⟩
      intro g hg
      rcases List.mem_append.1 hg with hg | hg
      · exact HH.out g hg
      · rw [List.mem_singleton.1 hg]; exact HP.out
  case done =>
    rintro D ys V hD rfl ⟨⟨⟨⟨h1, h2⟩, h3⟩, hbl⟩, hpre⟩ hK
    have y0 := h2.cell 0
    have y1 := h2.cell 1
    have y2 := h2.cell 2
    have y3 := h2.cell 3
    have y4 := h2.cell 4
    have y5 := h2.cell 5
    have f0 := h2.thaw 0
    have f1 := h2.thaw 1
    have f2 := h2.thaw 2
    have f3 := h2.thaw 3
    have f4 := h2.thaw 4
    have f5 := h2.thaw 5
    have g0 := h3.cell
    have g1 := h3.frozen
    have hl2 := h2.lt
    have hl3 := h3.lt
    simp only [List.getElem?_cons_zero, List.getElem?_cons_succ] at y0 y1 y2 y3 y4 y5
    have hne : w.heap.size + 1 ≠ w.heap.size + 1 + 1 := by omega
    have hne2 : w.heap.size + 1 + 1 ≠ w.heap.size + 1 := by omega
    have hF := Hid3.mk (findx_no hpre)
    have HE : Hid3 (Below w.heap.size w V ∧ Cl V (w.heap.size + 1) 33 [.int .u32 0, .int .i64 0, .int .i64 0, .int .u8 0, .string ⟨#[]⟩, .int .u8 0] ∧ Boxed V (w.heap.size + 1 + 1) 4 (.bool false) ∧ V.heap[D]? = some (.deferred (some []))) := ⟨hbl, h2, h3, hK⟩
    clear h1 h2 h3 hbl hpre hT hK
    gi_wp2
    obtain ⟨hbl, h2, h3, hK⟩ := HE.out
    have q2 := (Cl.fill (a0 := .int .u32 0) (a1 := .int .i64 0) (a2 := .int .i64 0) (a3 := .int .u8 0) (a4 := .string ⟨#[]⟩) (a5 := .int .u8 0) h2).other (d := w.heap.size + 1 + 1) (by omega) 0 (.bool false)
    have q3 := Boxed.of_fill (i := w.heap.size + 1) (a0 := .int .u32 0) (a1 := .int .i64 0) (a2 := .int .i64 0) (a3 := .int .u8 0) (a4 := .string ⟨#[]⟩) (a5 := .int .u8 0) (v' := .bool false) h3 (by omega)
    have qa := ((Apart.refl (fun k => k = w.heap.size + 1 ∨ k = w.heap.size + 1 + 1) V).fill (i := w.heap.size + 1) (a0 := .int .u32 0) (a1 := .int .i64 0) (a2 := .int .i64 0) (a3 := .int .u8 0) (a4 := .string ⟨#[]⟩) (a5 := .int .u8 0) (.inl rfl)).trans (Apart.at _ (w.heap.size + 1 + 1) 0 (.bool false) (.inr rfl))
    have hK2 := (qa.block D (Array.getElem?_eq_some_iff.1 hK).1 (by omega)).trans hK
    have hbl2 := hbl.trans (qa.below _ (by rintro k (rfl | rfl) <;> omega) hbl.size)
    generalize (((((((V.setCell ⟨w.heap.size + 1, 0, none⟩ (.int .u32 0)).setCell ⟨w.heap.size + 1, 1, none⟩ (.int .i64 0)).setCell ⟨w.heap.size + 1, 2, none⟩ (.int .i64 0)).setCell ⟨w.heap.size + 1, 3, none⟩ (.int .u8 0)).setCell ⟨w.heap.size + 1, 4, none⟩ (.string ⟨#[]⟩)).setCell ⟨w.heap.size + 1, 5, none⟩ (.int .u8 0)).setCell ⟨w.heap.size + 1 + 1, 0, none⟩ (.bool false)) = V2 at *
    have hp := below_put (B := w.heap.size + 4) (W := V2) (l := D) (.deferred none) (by omega)
    have j2 : Cl (V2.putObj D (.deferred none)) _ _ _ := (hp.block _ (by omega)).trans q2
    have j3 : Boxed (V2.putObj D (.deferred none)) _ _ _ := (hp.block _ (by omega)).trans q3
    have k0 := j2.cell 0
    have k1 := j2.cell 1
    have k2 := j2.cell 2
    have k3 := j2.cell 3
    have k4 := j2.cell 4
    have k5 := j2.cell 5
    have k6 := j3.cell
    simp only [List.getElem?_cons_zero, List.getElem?_cons_succ] at k0 k1 k2 k3 k4 k5
    refine ⟨by simp, .inl ⟨_, _, rfl, run_takeDeferred hK2, ?_⟩⟩
    exact ⟨.tuple #[exV zEx, .bool false], by simp [results, Try.f27, go_sem, k0, k1, k2, k3, k4, k5, k6, exV, zEx], by rw [show (ns.map Prod.snd).find? (hasS v) = none from hF.out]; rfl, hbl2.trans (hp.mono (by omega))⟩
  case stop =>
    rintro D c pre V hD hpre ⟨⟨⟨rfl, q, g, rfl, hq, hg, h2⟩, h3⟩, hbl⟩ hK
    obtain ⟨t, ht⟩ := hpre
    have hF : (ns.map Prod.snd).find? (hasS v) = some g := findx_at ht.symm hq hg
    have hl2 := h2.lt
    gi_wp2
    have hp := below_put (B := w.heap.size + 4) (W := V) (l := D) (.deferred none) (by omega)
    have j2 : Cl (V.putObj D (.deferred none)) _ _ _ := (hp.block _ (by omega)).trans h2
    have j3 : Boxed (V.putObj D (.deferred none)) _ _ _ := (hp.block _ (by omega)).trans h3
    have k0 := j2.cell 0
    have k1 := j2.cell 1
    have k2 := j2.cell 2
    have k3 := j2.cell 3
    have k4 := j2.cell 4
    have k5 := j2.cell 5
    have k6 := j3.cell
    simp only [List.getElem?_cons_zero, List.getElem?_cons_succ, exCs] at k0 k1 k2 k3 k4 k5
    refine ⟨by simp, .inl ⟨_, _, rfl, run_takeDeferred hK, ?_⟩⟩
    exact ⟨.tuple #[exV g, .bool true], by simp [results, Try.f27, go_sem, k0, k1, k2, k3, k4, k5, k6, exV], by rw [hF]; rfl, hbl.trans (hp.mono (by omega))⟩
set_option maxHeartbeats 1000000 in
theorem at_any (v : Int) (n₀ tb hb N last : Nat) (ns : List Ln) (w : World) (h : Tp n₀ w tb hb N last ns) (hn0 : n₀ ≤ w.heap.size) :
    Calls Try.prog 7 #[.pointer (some ⟨tb, 0, none⟩), .int .i64 v] w fun e w' =>
      e = .returned (.tuple #[exV (fstO ((ns.map Prod.snd).find? (hasS v))).1, .bool (fstO ((ns.map Prod.snd).find? (hasS v))).2]) ∧ Below w.heap.size w w' := by
  have hB : Below w.heap.size w ((w.alloc (.cells #[.int .i64 v] 3)).alloc (.cells #[.int .u32 0, .int .i64 0, .int .i64 0, .int .u8 0, .string ⟨#[]⟩, .int .u8 0] 33)) := ((Below.refl _ w).alloc (Nat.le_refl _) _).alloc (by simp) _
  have hb1 := (Boxed.new w 3 (.int .i64 v)).alloc (.cells #[.int .u32 0, .int .i64 0, .int .i64 0, .int .u8 0, .string ⟨#[]⟩, .int .u8 0] 33)
  have hb2 := Cl.new (w.alloc (.cells #[.int .i64 v] 3)) 33 [.int .u32 0, .int .i64 0, .int .i64 0, .int .u8 0, .string ⟨#[]⟩, .int .u8 0]
  rw [World.size_alloc] at hb2
  have cF := (callsIn_wide (n := 8)).1 (firstA_in 8 (by decide) v w.heap.size n₀ tb hb N last ns _ (h.below hB) (by simp; omega) hb1.cell)
  obtain ⟨x, hx⟩ : ∃ x, (fstO ((ns.map Prod.snd).find? (hasS v))).1 = x := ⟨_, rfl⟩
  obtain ⟨o, ho⟩ : ∃ o, (fstO ((ns.map Prod.snd).find? (hasS v))).2 = o := ⟨_, rfl⟩
  rw [hx, ho] at cF ⊢
  have HB := Hid3.mk hB
  have HB2 := Hid3.mk hb2
  clear hx ho h hB hb1 hb2
  unfold exV at cF ⊢
  go_enter Try.func7, Try.ntmps7
  go_wp2_with fail
  refine cF.mono ?_
  rintro e W2 ⟨rfl, hB2⟩
  have s2 := HB2.out.below hB2
  have HB3 := Hid3.mk (HB.out.trans (hB2.mono HB.out.size))
  have y0 := s2.cell 0
  have y1 := s2.cell 1
  have y2 := s2.cell 2
  have y3 := s2.cell 3
  have y4 := s2.cell 4
  have y5 := s2.cell 5
  have f0 := s2.thaw 0
  have f1 := s2.thaw 1
  have f2 := s2.thaw 2
  have f3 := s2.thaw 3
  have f4 := s2.thaw 4
  have f5 := s2.thaw 5
  have hl2 := s2.lt
  have HS := Hid3.mk s2
  simp only [List.getElem?_cons_zero, List.getElem?_cons_succ] at y0 y1 y2 y3 y4 y5
  clear s2 hB2 cF HB HB2
  go_wp2
  have q2 := Cl.fill (a0 := .int .u32 x.id) (a1 := .int .i64 x.st) (a2 := .int .i64 x.ln) (a3 := .int .u8 x.ow) (a4 := .string x.nm) (a5 := .int .u8 x.rt.toNat) HS.out
  have qa := (Apart.refl (fun k => k = w.heap.size + 1) W2).fill (i := w.heap.size + 1) (a0 := .int .u32 x.id) (a1 := .int .i64 x.st) (a2 := .int .i64 x.ln) (a3 := .int .u8 x.ow) (a4 := .string x.nm) (a5 := .int .u8 x.rt.toNat) rfl
  have hB4 := HB3.out.trans (qa.below w.heap.size (fun k e => by omega) HB3.out.size)
  generalize ((((((W2.setCell ⟨w.heap.size + 1, 0, none⟩ (.int .u32 x.id)).setCell ⟨w.heap.size + 1, 1, none⟩ (.int .i64 x.st)).setCell ⟨w.heap.size + 1, 2, none⟩ (.int .i64 x.ln)).setCell ⟨w.heap.size + 1, 3, none⟩ (.int .u8 x.ow)).setCell ⟨w.heap.size + 1, 4, none⟩ (.string x.nm)).setCell ⟨w.heap.size + 1, 5, none⟩ (.int .u8 x.rt.toNat)) = W3 at *
  have k0 := q2.cell 0
  have k1 := q2.cell 1
  have k2 := q2.cell 2
  have k3 := q2.cell 3
  have k4 := q2.cell 4
  have k5 := q2.cell 5
  simp only [List.getElem?_cons_zero, List.getElem?_cons_succ] at k0 k1 k2 k3 k4 k5
  refine bodyPost_ret (v := .tuple #[.agg #[.int .u32 x.id, .int .i64 x.st, .int .i64 x.ln, .int .u8 x.ow, .string x.nm, .int .u8 x.rt.toNat], .bool o]) (by simp [results, Try.f7, go_sem, k0, k1, k2, k3, k4, k5]) rfl ?_
  exact ⟨rfl, hB4⟩
end Go.Proofs.Ytmepnnlmhlndmab
