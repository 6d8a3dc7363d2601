/- A range over a function whose round begins by making a variable of its own: Nest's law, with an assignment that makes memory. The first extent that is asked for: by its number, by a sector. -/
import Derived.Test.YtdegjmceeggldaaNest
import Derived.Test.YtdegjmceeggldaaExV
namespace Go.Proofs.Ytdegjmceeggldaa
open Go.RowKit
set_option linter.unusedVariables false
variable {F : Fence} {n : Nat} {P : Program}
/-- The round of an outermost loop. -/
theorem round_V {α : Type} {ps : Array Tmp} {assign body : Code} {a : Act} {B fn : Nat} {encs : α → Array Value} {Y : Nat → Prop} {N : Nat}
    (hY : ∀ k, B ≤ k → ¬ Y k) (hfn : F.fn fn) (hps : ∀ x, (encs x).size = ps.size)
    (I : List α → World → Prop) (Ix : Code → List α → World → Prop) (hI : Low B I) (hIx : ∀ c, Low B (Ix c)) (Ax : α → Act → World → Prop) (hAx : ∀ x a' A C, Ax x a' A → (∀ k, k ≠ B + 1 → C.heap[k]? = A.heap[k]?) → Ax x a' C) {m : Nat}
    (hassign : ∀ (l : Nat) (x : α) (W : World) (K : Act → World → Prop), B + 1 < W.heap.size → (∀ a' W', Below W.heap.size W W' → Ax x a' W' → K a' W') →
      assign.wpIn (F.inRound l) m P (Exit.then K (fun _ _ _ => False)) { tmps := (ps.zip (encs x)).foldl (fun t (p, v) => t.setIfInBounds p v) a.tmps, defers := [] } W)
    (hbody : ∀ (l : Nat) (pre : List α) (x : α) (a' : Act) (W : World), I pre W → Ax x a' W → pre.length < N → body.wpIn (F.inRound l) m P (postU Y I Ix (pre ++ [x]) W) a' W)
    (rec : LoopState → Option Code → Loop) (hrec : rec = fun st pe => { state := st, pending := pe, fn, tmps := a.tmps, params := ps, assign, body, defers := B })
    (pre : List α) (x : α) (W : World) (hi : I pre W) (hl : W.heap[B + 1]? = some (.loop (rec .ready none))) (hk : W.heap[B]? = some (.deferred (some []))) (hlen : pre.length < N) :
    YieldAt F m P (B + 1) (encs x) W fun e W' => Apart (fun k => Y k ∨ k = B + 1) W W' ∧
      ((e = .returned (.bool true) ∧ (I (pre ++ [x]) W' ∧ W'.heap[B + 1]? = some (.loop (rec .ready none)) ∧ W'.heap[B]? = some (.deferred (some [])))) ∨
       (e = .returned (.bool false) ∧ ∃ c, Ix c (pre ++ [x]) W' ∧ W'.heap[B + 1]? = some (.loop (rec .done (some c))) ∧ W'.heap[B]? = some (.deferred (some [])))) := by
  have hlt0 : B + 1 < W.heap.size := (Array.getElem?_eq_some_iff.1 hl).1
  have hy := run_yield (P := P) (args := encs x) hl (by rw [hrec]; exact hps x)
  rw [hrec] at hy
  refine ⟨fn, _, assign, body, hy, roundIn_of_wpIn hfn (hassign _ x W _ hlt0 ?_)⟩
  clear hy
  intro a₁ W1 hb1 hax
  have hl1 : W1.heap[B + 1]? = some (.loop (rec .ready none)) := (hb1.block _ hlt0).trans hl
  have hk1 : W1.heap[B]? = some (.deferred (some [])) := (hb1.block _ (by omega)).trans hk
  have hlt : B + 1 < W1.heap.size := Nat.lt_of_lt_of_le hlt0 hb1.size
  refine ⟨_, run_beginRound hl1 (by rw [hrec]), ?_⟩
  obtain ⟨W2, hW2⟩ : ∃ W2, W1.putObj (B + 1) (.loop { rec .ready none with state := .busy }) = W2 := ⟨_, rfl⟩
  rw [hW2]
  have ap2 : Apart (fun k => Y k ∨ k = B + 1) W W2 := by rw [← hW2]; exact (Apart.of_below hb1).trans (Apart.put _ (.inr rfl))
  have hb2 : Below B W W2 := by rw [← hW2]; exact (hb1.mono (by omega)).trans (below_put _ (by omega))
  have hl2 : W2.heap[B + 1]? = some (.loop { rec .ready none with state := .busy }) := by rw [← hW2]; exact World.putObj_heap_same hlt
  have hk2 : W2.heap[B]? = some (.deferred (some [])) := by rw [← hW2]; exact (World.putObj_heap_other (by omega)).trans hk1
  have hax2 : Ax x a₁ W2 := hAx _ _ _ _ hax (fun k hk => by rw [← hW2]; exact World.putObj_heap_other hk)
  refine wpIn_mono (hbody _ pre x a₁ W2 (hI _ _ _ hi hb2) hax2 hlen) ?_
  have fin : ∀ (jump : Option Code) (W3 : World), Apart Y W2 W3 → ∃ W4, (Instr.endRound (B + 1) jump).run P W3 = .ok (.bool jump.isNone) W4 ∧
      W4.heap[B + 1]? = some (.loop (rec (if jump.isNone then .ready else .done) jump)) ∧ W4.heap[B]? = some (.deferred (some [])) ∧ Below B W3 W4 ∧ Apart (fun k => Y k ∨ k = B + 1) W W4 := fun jump W3 hk3 => by
    have hl3 : W3.heap[B + 1]? = _ := (hk3.block _ (Array.getElem?_eq_some_iff.1 hl2).1 (hY _ (by omega))).trans hl2
    have hk4 : W3.heap[B]? = _ := (hk3.block _ (Array.getElem?_eq_some_iff.1 hk2).1 (hY _ (Nat.le_refl _))).trans hk2
    have hr := run_endRound (P := P) jump hl3
    rw [hrec] at hr ⊢
    exact ⟨_, hr, World.putObj_heap_same (Array.getElem?_eq_some_iff.1 hl3).1, (World.putObj_heap_other (by omega)).trans hk4, below_put _ (by omega), (ap2.trans (hk3.wide (fun _ _ h => .inl h))).trans (Apart.put _ (.inr rfl))⟩
  rintro e a3 W3 hp
  cases e with
  | normal =>
    obtain ⟨W4, hr, hl4, hk4, hb4, ap4⟩ := fin none W3 hp.1
    exact ⟨_, _, hr, ap4, .inl ⟨rfl, hI _ _ _ hp.2 hb4, hl4, hk4⟩⟩
  | ret =>
    obtain ⟨W4, hr, hl4, hk4, hb4, ap4⟩ := fin (some .ret) W3 hp.1
    exact ⟨_, _, hr, ap4, .inr ⟨rfl, .ret, hIx _ _ _ _ hp.2 hb4, hl4, hk4⟩⟩
  | exit id =>
    obtain ⟨W4, hr, hl4, hk4, hb4, ap4⟩ := fin (some (.exit id)) W3 hp.1
    exact ⟨_, _, hr, ap4, .inr ⟨rfl, .exit id, hIx _ _ _ _ hp.2 hb4, hl4, hk4⟩⟩
  | goto t =>
    obtain ⟨W4, hr, hl4, hk4, hb4, ap4⟩ := fin (some (.goto t)) W3 hp.1
    exact ⟨_, _, hr, ap4, .inr ⟨rfl, .goto t, hIx _ _ _ _ hp.2 hb4, hl4, hk4⟩⟩
  | panic ch => exact hp.elim
  | outgrown => exact hp.elim
/-- The statement 'for x := range g { .. }' over such an iterator. -/
theorem wpIn_rangeFunc_V {α : Type} {g : Operand} {ps : Array Tmp} {assign body : Code} {Q : Exit → Act → World → Prop} {a : Act} {w : World}
    (hro : F.round = none) (h1 : 1 ≤ n) {gf : Nat} {lb : Array Value} (hg : a.eval g = .func (.func gf) #[] lb) (hFg : F.fn gf) (eg : ∀ args w, (callFunc gf args).run P w = .ok (.enter gf args) w)
    {encs : α → Array Value} {Y : Nat → Prop} {S Sp : List α → Prop} {N : Nat} {w0 : World} (hseq : SeqU F (n - 1) P gf lb encs (fun k => Y k ∨ k = w.heap.size + 1) S Sp N w0)
    (hY : ∀ k, w.heap.size ≤ k → ¬ Y k) (hb0 : Below w0.heap.size w0 w) (hps : ∀ x, (encs x).size = ps.size)
    (I : List α → World → Prop) (Ix : Code → List α → World → Prop) (hI : Low w.heap.size I) (hIx : ∀ c, Low w.heap.size (Ix c)) (h0 : I [] w) (Ax : α → Act → World → Prop)
    (hAx : ∀ x a' A C, Ax x a' A → (∀ k, k ≠ w.heap.size + 1 → C.heap[k]? = A.heap[k]?) → Ax x a' C)
    (hassign : ∀ (l : Nat) (x : α) (W : World) (K : Act → World → Prop), w.heap.size + 1 < W.heap.size → (∀ a' W', Below W.heap.size W W' → Ax x a' W' → K a' W') →
      assign.wpIn (F.inRound l) (n - 1 - 1) P (Exit.then K (fun _ _ _ => False)) { tmps := (ps.zip (encs x)).foldl (fun t (p, v) => t.setIfInBounds p v) a.tmps, defers := [] } W)
    (hbody : ∀ (l : Nat) (pre : List α) (x : α) (a' : Act) (W : World), I pre W → Ax x a' W → pre.length < N → body.wpIn (F.inRound l) (n - 1 - 1) P (postU Y I Ix (pre ++ [x]) W) a' W)
    (hdone : ∀ (D : Nat) (xs : List α) (W : World), w.heap.size ≤ D → S xs → I xs W → W.heap[D]? = some (.deferred (some [])) → Q .normal { a with defers := { target := .collected D, args := #[] } :: a.defers } W)
    (hstop : ∀ (D : Nat) (c : Code) (pre : List α) (W : World), w.heap.size ≤ D → Sp pre → Ix c pre W → W.heap[D]? = some (.deferred (some [])) → c.wpIn F n P Q { a with defers := { target := .collected D, args := #[] } :: a.defers } W) :
    (Code.rangeFunc g ps assign body).wpIn F n P Q a w := by
  refine wpIn_rangeFunc ?_
  intro fn hfn
  rw [hro]
  obtain ⟨rec, hrec⟩ : ∃ rec : LoopState → Option Code → Loop, rec = fun st pe => { state := st, pending := pe, fn, tmps := a.tmps, params := ps, assign, body, defers := w.heap.size } := ⟨_, rfl⟩
  obtain ⟨W1, hW1⟩ : ∃ W1, (w.alloc (.deferred (some []))).alloc (.loop (rec .ready none)) = W1 := ⟨_, rfl⟩
  have hs1 : W1.heap.size = w.heap.size + 2 := by rw [← hW1]; simp
  have hb1 : Below w.heap.size w W1 := by
    rw [← hW1]; exact ((Below.refl _ w).alloc (Nat.le_refl _) _).alloc (by simp) _
  have hL1 : W1.heap[w.heap.size + 1]? = some (.loop (rec .ready none)) := by
    rw [← hW1]; have := World.alloc_heap_new (w.alloc (.deferred (some []))) (.loop (rec .ready none)); rwa [World.size_alloc] at this
  have hK1 : W1.heap[w.heap.size]? = some (.deferred (some [])) := by
    rw [← hW1]; exact (Below.heap_alloc _ _ _ (by simp)).trans (World.alloc_heap_new w _)
  refine ⟨w.heap.size + 1, [{ target := .collected w.heap.size, args := #[] }], W1, { target := .fn (.func gf) lb, args := #[.func (.yield (w.heap.size + 1)) #[] #[]] }, W1, gf,
    #[.func (.yield (w.heap.size + 1)) #[] #[]] ++ lb, W1, ?_, ?_, ?_, ?_, fun _ => h1, ?_⟩
  · rw [← hW1, hrec]; exact run_enterLoop_outer _ _ _ _ _
  · simp only [resolve, hg]
    simp [go_sem]
  · intro f' hf'; simp [Target.leads] at hf'; subst hf'; exact hFg
  · simp [invoke, go_sem, eg]
  refine (hseq (w.heap.size + 1)
    (fun pre W => I pre W ∧ W.heap[w.heap.size + 1]? = some (.loop (rec .ready none)) ∧ W.heap[w.heap.size]? = some (.deferred (some [])))
    (fun pre W => ∃ c, Ix c pre W ∧ W.heap[w.heap.size + 1]? = some (.loop (rec .done (some c))) ∧ W.heap[w.heap.size]? = some (.deferred (some [])))
    W1 (hb0.trans (hb1.mono hb0.size)) (fun k hk => ?_) ?_ ?_ ?_ ⟨hI _ _ _ h0 hb1, hL1, hK1⟩).mono ?_
  · rintro (h | rfl)
    · exact hY k (by omega) h
    · omega
  · rintro s A C ⟨hi, hl, hk⟩ hb
    exact ⟨hI _ _ _ hi (hb.mono (by omega)), (hb.block _ (by omega)).trans hl, (hb.block _ (by omega)).trans hk⟩
  · rintro s A C ⟨c, hi, hl, hk⟩ hb
    exact ⟨c, hIx _ _ _ _ hi (hb.mono (by omega)), (hb.block _ (by omega)).trans hl, (hb.block _ (by omega)).trans hk⟩
  · rintro pre x W ⟨hi, hl, hk⟩ hlen
    exact round_V hY hfn hps I Ix hI hIx Ax hAx hassign hbody rec hrec pre x W hi hl hk hlen
  · rintro e W2 ⟨⟨v, rfl⟩, (⟨xs, hS, hi, hl, hk⟩ | ⟨pre, hSp, c, hi, hl, hk⟩)⟩
    · have hr := run_endLoop (P := P) hl (by rw [hrec]; simp)
      rw [hrec] at hr
      exact ⟨none, _, hr, hdone _ xs _ (Nat.le_refl _) hS (hI _ _ _ hi (below_put _ (by omega))) ((World.putObj_heap_other (by omega)).trans hk)⟩
    · have hr := run_endLoop (P := P) hl (by rw [hrec]; simp)
      rw [hrec] at hr
      exact ⟨some c, _, hr, hstop _ c pre _ (Nat.le_refl _) hSp (hIx _ _ _ _ hi (below_put _ (by omega))) ((World.putObj_heap_other (by omega)).trans hk)⟩
end Go.Proofs.Ytdegjmceeggldaa
namespace Go.Proofs.Ytdegjmceeggldaa
open Go.RowKit Go.Shelf Go.Maps Go.Sort
set_option linter.unusedVariables false
set_option maxRecDepth 100000
attribute [local go_sem] Oper.semAt_some
theorem findx_at {p : Ex → Bool} {gs q t : List Ex} {g : Ex} (h : gs = (q ++ [g]) ++ t) (hq : ∀ x ∈ q, p x = false) (hg : p g = true) : gs.find? p = some g := by
  subst h
  rw [List.append_assoc, List.find?_append, List.find?_eq_none.2 (by intro x hx; rw [hq x hx]; simp)]
  simp [hg]
theorem findx_no {p : Ex → Bool} {gs : List Ex} (hq : ∀ x ∈ gs, p x = false) : gs.find? p = none := List.find?_eq_none.2 (by intro x hx; rw [hq x hx]; simp)
def fstO : Option Ex → Ex × Bool
  | some x => (x, true)
  | none => (zEx, false)
def isId (id : Nat) (x : Ex) : Bool := decide (x.id = id)
def hasS (sec : Int) (x : Ex) : Bool := decide ((x.st : Int) ≤ sec) && decide (sec < ((x.st + x.ln : Nat) : Int))
/-- Six cells are written, one behind the other. -/
theorem Cl.fill {W : World} {i : Nat} {t : TypeId} {c0 c1 c2 c3 c4 c5 a0 a1 a2 a3 a4 a5 : Value} (h : Cl W i t [c0, c1, c2, c3, c4, c5]) :
    Cl ((((((W.setCell ⟨i, 0, none⟩ a0).setCell ⟨i, 1, none⟩ a1).setCell ⟨i, 2, none⟩ a2).setCell ⟨i, 3, none⟩ a3).setCell ⟨i, 4, none⟩ a4).setCell ⟨i, 5, none⟩ a5) i t [a0, a1, a2, a3, a4, a5] :=
  (((((h.set 0 a0).set 1 a1).set 2 a2).set 3 a3).set 4 a4).set 5 a5
theorem Apart.fill {X : Nat → Prop} {W V : World} {i : Nat} {a0 a1 a2 a3 a4 a5 : Value} (h : Apart X W V) (hx : X i) :
    Apart X W ((((((V.setCell ⟨i, 0, none⟩ a0).setCell ⟨i, 1, none⟩ a1).setCell ⟨i, 2, none⟩ a2).setCell ⟨i, 3, none⟩ a3).setCell ⟨i, 4, none⟩ a4).setCell ⟨i, 5, none⟩ a5) :=
  (((((h.trans (Apart.at _ i 0 a0 hx)).trans (Apart.at _ i 1 a1 hx)).trans (Apart.at _ i 2 a2 hx)).trans (Apart.at _ i 3 a3 hx)).trans (Apart.at _ i 4 a4 hx)).trans (Apart.at _ i 5 a5 hx)
theorem Boxed.of_fill {W : World} {b i : Nat} {t : TypeId} {v v' a0 a1 a2 a3 a4 a5 : Value} (h : Boxed W b t v) (hne : b ≠ i) :
    Boxed (((((((W.setCell ⟨i, 0, none⟩ a0).setCell ⟨i, 1, none⟩ a1).setCell ⟨i, 2, none⟩ a2).setCell ⟨i, 3, none⟩ a3).setCell ⟨i, 4, none⟩ a4).setCell ⟨i, 5, none⟩ a5).setCell ⟨b, 0, none⟩ v') b t v' := by
  have h2 : Cl W b t [v] := h
  have h3 := ((((((h2.other hne 0 a0).other hne 1 a1).other hne 2 a2).other hne 3 a3).other hne 4 a4).other hne 5 a5).set 0 v'
  exact h3
end Go.Proofs.Ytdegjmceeggldaa
