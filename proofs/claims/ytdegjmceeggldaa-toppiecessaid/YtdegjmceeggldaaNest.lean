/- A range over a function whose own rounds yield: an iterator over an iterator. What the caller keeps is told by the blocks that its round may turn; what it holds abides whatever lies beyond the blocks that lay when the iterator began. -/
import Derived.Test.YtdegjmceeggldaaGen
import Derived.RangeFuncNested
import Derived.RangeFuncBound
import Derived.RangeFuncCalls
import Derived.RangeFuncLeaves
import Derived.RangeFuncBox
import Derived.RangeFuncWrites
import Derived.RangeFuncFrom
namespace Go.Proofs.Ytdegjmceeggldaa
open Go.RowKit
set_option linter.unusedVariables false

theorem Apart.put {X : Nat → Prop} {W : World} {l : Nat} (o' : Obj) (hx : X l) : Apart X W (W.putObj l o') :=
  ⟨rfl, rfl, rfl, by simp, fun k _ hk => World.putObj_heap_other (fun e => hk (by rw [e]; exact hx))⟩
theorem below_put {B : Nat} {W : World} {l : Nat} (o' : Obj) (hB : B ≤ l) : Below B W (W.putObj l o') :=
  ⟨rfl, rfl, rfl, by simp, fun k hk => World.putObj_heap_other (by omega)⟩

/-- What holds of a world holds of every later one that is the same below a block. -/
def Low {β : Type} (B : Nat) (I : β → World → Prop) : Prop := ∀ s A C, I s A → Below B A C → I s C
theorem Low.mono {β : Type} {B B' : Nat} {I : β → World → Prop} (h : Low B I) (hB : B ≤ B') : Low B' I := fun s A C hs hb => h s A C hs (hb.mono hB)
theorem Low.and {β : Type} {B : Nat} {I I' : β → World → Prop} (h : Low B I) (h' : Low B I') : Low B (fun s W => I s W ∧ I' s W) := fun s A C hs hb => ⟨h s A C hs.1 hb, h' s A C hs.2 hb⟩
theorem Low.own {β : Type} {B : Nat} {I : β → World → Prop} (h : Low B I) {B' : Nat} (hB : B ≤ B') : ∀ s W W' row, I s W → B ≤ W.heap.size → W.grownBy W' row → (∀ r, row = some r → B' ≤ r ∧ ∃ o : Obj, W.heap[r]? = some o ∧ o.isCells = false) → I s W' :=
  fun s W W' row hs hl hg hr => h s W W' hs ((Below.refl B W).grown hg hl (fun k e => Nat.le_trans hB (hr k e).1))

/-- An iterator: each round turns blocks of X alone, below what lay when it began. -/
def SeqU {α : Type} (F : Fence) (n : Nat) (P : Program) (g : Nat) (lb : Array Value) (encs : α → Array Value) (X : Nat → Prop) (S Sp : List α → Prop) (N : Nat) (w : World) : Prop :=
  ∀ (l : Nat) (J Jx : List α → World → Prop) (W : World), Below w.heap.size w W → (∀ k, W.heap.size ≤ k → ¬ X k) → Low W.heap.size J → Low W.heap.size Jx →
    (∀ pre x W1, J pre W1 → pre.length < N → YieldAt F (n - 1) P l (encs x) W1 fun e W' =>
      Apart X W1 W' ∧ ((e = .returned (.bool true) ∧ J (pre ++ [x]) W') ∨ (e = .returned (.bool false) ∧ Jx (pre ++ [x]) W'))) →
    J [] W →
    CallsIn F n P g (#[.func (.yield l) #[] #[]] ++ lb) W fun e W' => (∃ v, e = .returned v) ∧ ((∃ xs, S xs ∧ J xs W') ∨ (∃ pre, Sp pre ∧ Jx pre W'))

/-- How the body of a round may be left. -/
def postU {α : Type} (Y : Nat → Prop) (I : List α → World → Prop) (Ix : Code → List α → World → Prop) (xs : List α) (W : World) : Exit → Act → World → Prop
  | .normal, _, W' => Apart Y W W' ∧ I xs W'
  | .ret, _, W' => Apart Y W W' ∧ Ix .ret xs W'
  | .exit id, _, W' => Apart Y W W' ∧ Ix (.exit id) xs W'
  | .goto t, _, W' => Apart Y W W' ∧ Ix (.goto t) xs W'
  | .panic _, _, _ => False
  | .outgrown, _, _ => False

variable {F : Fence} {n : Nat} {P : Program}
/-- The round of an outermost loop, whose record lies behind the block of its deferred calls. -/
theorem round_U {α : Type} {ps : Array Tmp} {assign body : Code} {a : Act} {B fn : Nat} {encs : α → Array Value} {Y : Nat → Prop} {N : Nat}
    (hY : ∀ k, B ≤ k → ¬ Y k) (hfn : F.fn fn) (hps : ∀ x, (encs x).size = ps.size)
    (I : List α → World → Prop) (Ix : Code → List α → World → Prop) (hI : Low B I) (hIx : ∀ c, Low B (Ix c)) (a₁ : α → Act) {m : Nat}
    (hassign : ∀ (l : Nat) (x : α) (W : World) (K : Act → World → Prop), K (a₁ x) W →
      assign.wpIn (F.inRound l) m P (Exit.then K (fun _ _ _ => False)) { tmps := (ps.zip (encs x)).foldl (fun t (p, v) => t.setIfInBounds p v) a.tmps, defers := [] } W)
    (hbody : ∀ (l : Nat) (pre : List α) (x : α) (W : World), I pre W → pre.length < N → body.wpIn (F.inRound l) m P (postU Y I Ix (pre ++ [x]) W) (a₁ x) W)
    (rec : LoopState → Option Code → Loop) (hrec : rec = fun st pe => { state := st, pending := pe, fn, tmps := a.tmps, params := ps, assign, body, defers := B })
    (pre : List α) (x : α) (W : World) (hi : I pre W) (hl : W.heap[B + 1]? = some (.loop (rec .ready none))) (hk : W.heap[B]? = some (.deferred (some []))) (hlen : pre.length < N) :
    YieldAt F m P (B + 1) (encs x) W fun e W' => Apart (fun k => Y k ∨ k = B + 1) W W' ∧
      ((e = .returned (.bool true) ∧ (I (pre ++ [x]) W' ∧ W'.heap[B + 1]? = some (.loop (rec .ready none)) ∧ W'.heap[B]? = some (.deferred (some [])))) ∨
       (e = .returned (.bool false) ∧ ∃ c, Ix c (pre ++ [x]) W' ∧ W'.heap[B + 1]? = some (.loop (rec .done (some c))) ∧ W'.heap[B]? = some (.deferred (some [])))) := by
  have hlt : B + 1 < W.heap.size := (Array.getElem?_eq_some_iff.1 hl).1
  have hy := run_yield (P := P) (args := encs x) hl (by rw [hrec]; exact hps x)
  rw [hrec] at hy
  refine ⟨fn, _, assign, body, hy, roundIn_of_wpIn hfn (hassign _ x W _ ⟨_, run_beginRound hl (by rw [hrec]), ?_⟩)⟩
  clear hy
  obtain ⟨W2, hW2⟩ : ∃ W2, W.putObj (B + 1) (.loop { rec .ready none with state := .busy }) = W2 := ⟨_, rfl⟩
  rw [hW2]
  have ap2 : Apart (fun k => Y k ∨ k = B + 1) W W2 := by rw [← hW2]; exact Apart.put _ (.inr rfl)
  have hb2 : Below B W W2 := by rw [← hW2]; exact below_put _ (by omega)
  have hl2 : W2.heap[B + 1]? = some (.loop { rec .ready none with state := .busy }) := by rw [← hW2]; exact World.putObj_heap_same hlt
  have hk2 : W2.heap[B]? = some (.deferred (some [])) := by rw [← hW2]; exact (World.putObj_heap_other (by omega)).trans hk
  refine wpIn_mono (hbody _ pre x W2 (hI _ _ _ hi hb2) hlen) ?_
  have fin : ∀ (jump : Option Code) (W3 : World), Apart Y W2 W3 → ∃ W4, (Instr.endRound (B + 1) jump).run P W3 = .ok (.bool jump.isNone) W4 ∧
      W4.heap[B + 1]? = some (.loop (rec (if jump.isNone then .ready else .done) jump)) ∧ W4.heap[B]? = some (.deferred (some [])) ∧ Below B W3 W4 ∧ Apart (fun k => Y k ∨ k = B + 1) W W4 := fun jump W3 hk3 => by
    have hl3 : W3.heap[B + 1]? = _ := (hk3.block _ (Array.getElem?_eq_some_iff.1 hl2).1 (hY _ (by omega))).trans hl2
    have hk4 : W3.heap[B]? = _ := (hk3.block _ (Array.getElem?_eq_some_iff.1 hk2).1 (hY _ (Nat.le_refl _))).trans hk2
    have hr := run_endRound (P := P) jump hl3
    rw [hrec] at hr ⊢
    exact ⟨_, hr, World.putObj_heap_same (Array.getElem?_eq_some_iff.1 hl3).1, (World.putObj_heap_other (by omega)).trans hk4, below_put _ (by omega), (ap2.trans (hk3.wide (fun _ _ h => .inl h))).trans (Apart.put _ (.inr rfl))⟩
  rintro e a3 W3 hp
  cases e with
  | normal =>
    obtain ⟨W4, hr, hl4, hk4, hb4, ap4⟩ := fin none W3 hp.1
    exact ⟨_, _, hr, ap4, .inl ⟨rfl, hI _ _ _ hp.2 hb4, hl4, hk4⟩⟩
  | ret =>
    obtain ⟨W4, hr, hl4, hk4, hb4, ap4⟩ := fin (some .ret) W3 hp.1
    exact ⟨_, _, hr, ap4, .inr ⟨rfl, .ret, hIx _ _ _ _ hp.2 hb4, hl4, hk4⟩⟩
  | exit id =>
    obtain ⟨W4, hr, hl4, hk4, hb4, ap4⟩ := fin (some (.exit id)) W3 hp.1
    exact ⟨_, _, hr, ap4, .inr ⟨rfl, .exit id, hIx _ _ _ _ hp.2 hb4, hl4, hk4⟩⟩
  | goto t =>
    obtain ⟨W4, hr, hl4, hk4, hb4, ap4⟩ := fin (some (.goto t)) W3 hp.1
    exact ⟨_, _, hr, ap4, .inr ⟨rfl, .goto t, hIx _ _ _ _ hp.2 hb4, hl4, hk4⟩⟩
  | panic ch => exact hp.elim
  | outgrown => exact hp.elim
/-- The statement 'for .. := range g { .. }' over such an iterator. -/
theorem wpIn_rangeFunc_U {α : Type} {g : Operand} {ps : Array Tmp} {assign body : Code} {Q : Exit → Act → World → Prop} {a : Act} {w : World}
    (hro : F.round = none) (h1 : 1 ≤ n) {gf : Nat} {lb : Array Value} (hg : a.eval g = .func (.func gf) #[] lb) (hFg : F.fn gf) (eg : ∀ args w, (callFunc gf args).run P w = .ok (.enter gf args) w)
    {encs : α → Array Value} {Y : Nat → Prop} {S Sp : List α → Prop} {N : Nat} {w0 : World} (hseq : SeqU F (n - 1) P gf lb encs (fun k => Y k ∨ k = w.heap.size + 1) S Sp N w0)
    (hY : ∀ k, w.heap.size ≤ k → ¬ Y k) (hb0 : Below w0.heap.size w0 w) (hps : ∀ x, (encs x).size = ps.size)
    (I : List α → World → Prop) (Ix : Code → List α → World → Prop) (hI : Low w.heap.size I) (hIx : ∀ c, Low w.heap.size (Ix c)) (h0 : I [] w) (a₁ : α → Act)
    (hassign : ∀ (l : Nat) (x : α) (W : World) (K : Act → World → Prop), K (a₁ x) W →
      assign.wpIn (F.inRound l) (n - 1 - 1) P (Exit.then K (fun _ _ _ => False)) { tmps := (ps.zip (encs x)).foldl (fun t (p, v) => t.setIfInBounds p v) a.tmps, defers := [] } W)
    (hbody : ∀ (l : Nat) (pre : List α) (x : α) (W : World), I pre W → pre.length < N → body.wpIn (F.inRound l) (n - 1 - 1) P (postU Y I Ix (pre ++ [x]) W) (a₁ x) W)
    (hdone : ∀ (D : Nat) (xs : List α) (W : World), w.heap.size ≤ D → S xs → I xs W → W.heap[D]? = some (.deferred (some [])) → Q .normal { a with defers := { target := .collected D, args := #[] } :: a.defers } W)
    (hstop : ∀ (D : Nat) (c : Code) (pre : List α) (W : World), w.heap.size ≤ D → Sp pre → Ix c pre W → W.heap[D]? = some (.deferred (some [])) → c.wpIn F n P Q { a with defers := { target := .collected D, args := #[] } :: a.defers } W) :
    (Code.rangeFunc g ps assign body).wpIn F n P Q a w := by
  refine wpIn_rangeFunc ?_
  intro fn hfn
  rw [hro]
  obtain ⟨rec, hrec⟩ : ∃ rec : LoopState → Option Code → Loop, rec = fun st pe => { state := st, pending := pe, fn, tmps := a.tmps, params := ps, assign, body, defers := w.heap.size } := ⟨_, rfl⟩
  obtain ⟨W1, hW1⟩ : ∃ W1, (w.alloc (.deferred (some []))).alloc (.loop (rec .ready none)) = W1 := ⟨_, rfl⟩
  have hs1 : W1.heap.size = w.heap.size + 2 := by rw [← hW1]; simp
  have hb1 : Below w.heap.size w W1 := by
    rw [← hW1]; exact ((Below.refl _ w).alloc (Nat.le_refl _) _).alloc (by simp) _
  have hL1 : W1.heap[w.heap.size + 1]? = some (.loop (rec .ready none)) := by
    rw [← hW1]; have := World.alloc_heap_new (w.alloc (.deferred (some []))) (.loop (rec .ready none)); rwa [World.size_alloc] at this
  have hK1 : W1.heap[w.heap.size]? = some (.deferred (some [])) := by
    rw [← hW1]; exact (Below.heap_alloc _ _ _ (by simp)).trans (World.alloc_heap_new w _)
  refine ⟨w.heap.size + 1, [{ target := .collected w.heap.size, args := #[] }], W1, { target := .fn (.func gf) lb, args := #[.func (.yield (w.heap.size + 1)) #[] #[]] }, W1, gf,
    #[.func (.yield (w.heap.size + 1)) #[] #[]] ++ lb, W1, ?_, ?_, ?_, ?_, fun _ => h1, ?_⟩
  · rw [← hW1, hrec]; exact run_enterLoop_outer _ _ _ _ _
  · simp only [resolve, hg]
    simp [go_sem]
  · intro f' hf'; simp [Target.leads] at hf'; subst hf'; exact hFg
  · simp [invoke, go_sem, eg]
  refine (hseq (w.heap.size + 1)
    (fun pre W => I pre W ∧ W.heap[w.heap.size + 1]? = some (.loop (rec .ready none)) ∧ W.heap[w.heap.size]? = some (.deferred (some [])))
    (fun pre W => ∃ c, Ix c pre W ∧ W.heap[w.heap.size + 1]? = some (.loop (rec .done (some c))) ∧ W.heap[w.heap.size]? = some (.deferred (some [])))
    W1 (hb0.trans (hb1.mono hb0.size)) (fun k hk => ?_) ?_ ?_ ?_ ⟨hI _ _ _ h0 hb1, hL1, hK1⟩).mono ?_
  · rintro (h | rfl)
    · exact hY k (by omega) h
    · omega
  · rintro s A C ⟨hi, hl, hk⟩ hb
    exact ⟨hI _ _ _ hi (hb.mono (by omega)), (hb.block _ (by omega)).trans hl, (hb.block _ (by omega)).trans hk⟩
  · rintro s A C ⟨c, hi, hl, hk⟩ hb
    exact ⟨c, hIx _ _ _ _ hi (hb.mono (by omega)), (hb.block _ (by omega)).trans hl, (hb.block _ (by omega)).trans hk⟩
  · rintro pre x W ⟨hi, hl, hk⟩ hlen
    exact round_U hY hfn hps I Ix hI hIx a₁ hassign hbody rec hrec pre x W hi hl hk hlen
  · rintro e W2 ⟨⟨v, rfl⟩, (⟨xs, hS, hi, hl, hk⟩ | ⟨pre, hSp, c, hi, hl, hk⟩)⟩
    · have hr := run_endLoop (P := P) hl (by rw [hrec]; simp)
      rw [hrec] at hr
      exact ⟨none, _, hr, hdone _ xs _ (Nat.le_refl _) hS (hI _ _ _ hi (below_put _ (by omega))) ((World.putObj_heap_other (by omega)).trans hk)⟩
    · have hr := run_endLoop (P := P) hl (by rw [hrec]; simp)
      rw [hrec] at hr
      exact ⟨some c, _, hr, hstop _ c pre _ (Nat.le_refl _) hSp (hIx _ _ _ _ hi (below_put _ (by omega))) ((World.putObj_heap_other (by omega)).trans hk)⟩
end Go.Proofs.Ytdegjmceeggldaa
