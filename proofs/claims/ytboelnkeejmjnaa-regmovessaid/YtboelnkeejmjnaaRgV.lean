/- Both registries, side by side. -/
import Derived.Test.YtboelnkeejmjnaaRgT
import Derived.Test.YtboelnkeejmjnaaLawRgN
namespace Go.Proofs.Ytboelnkeejmjnaa
open Go.RowKit Go.Maps
set_option linter.unusedVariables false
set_option maxRecDepth 100000
theorem Rg.stay {B : Nat} {w w' : World} {b rc rf : Nat} {C : Int → Option (Int × Bool)} {F : Int → Option Int} {X : Nat → Prop} (h : Rg B w b rc rf C F) (k : Apart X w w') (h1 : ¬ X b) (h2 : ¬ X rc) (h3 : ¬ X rf) : Rg B w' b rc rf C F :=
  ⟨h.g, h.gc, h.gf, h.ne, h.r.stay k h1, h.mc.elim fun cs hc => ⟨cs, hc.1.stay k h2, hc.2⟩, h.mf.elim fun fs hf => ⟨fs, hf.1.stay k h3, hf.2⟩⟩
/-- Both, side by side. -/
structure Two (B : Nat) (w : World) (b rc rf rb : Nat) (q : St) : Prop where
  t : RgS B w b rc rf q
  r : Rf B w rb q.C
  ok : q.Ok
def XT (rc rf rb : Nat) : Nat → Prop := fun k => XR rc rf k ∨ XB rb k
structure Mv (B : Nat) (w w' : World) (b rc rf rb : Nat) (q' : St) : Prop where
  two : Two B w' b rc rf rb q'
  ap : Apart (XT rc rf rb) w w'
theorem Two.below {B : Nat} {w w' : World} {b rc rf rb : Nat} {q : St} (h : Two B w b rc rf rb q) (k : Below w.heap.size w w') : Two B w' b rc rf rb q := ⟨h.t.below k, h.r.below k, h.ok⟩
theorem Two.lts {B : Nat} {w : World} {b rc rf rb : Nat} {q : St} (h : Two B w b rc rf rb q) : rc < w.heap.size ∧ rf < w.heap.size ∧ rb < w.heap.size := ⟨h.t.mc.elim fun _ hc => hc.1.lt, h.t.mf.elim fun _ hc => hc.1.lt, h.r.lt⟩
theorem Two.ne {B : Nat} {w : World} {b rc rf rb : Nat} {q : St} (h : Two B w b rc rf rb q) : rb ≠ b ∧ rb ≠ rc ∧ rb ≠ rf := by
  obtain ⟨arr, h1, _⟩ := h.r.r
  have hr : w.heap[b]? = some (.cells #[.map (some rc), .map (some rf)] 53 (0, 0)) := h.t.r
  obtain ⟨_, ⟨a1, c1, k1, _⟩, _⟩ := h.t.mc
  obtain ⟨_, ⟨a2, c2, k2, _⟩, _⟩ := h.t.mf
  refine ⟨fun e => ?_, fun e => ?_, fun e => ?_⟩
  · rw [e, hr] at h1
    injection h1 with h1
    injection h1 with _ h2 _
    exact absurd h2 (by decide)
  · rw [e, k1] at h1
    cases h1
  · rw [e, k2] at h1
    cases h1
theorem Two.rstay {B : Nat} {w W1 : World} {b rc rf rb : Nat} {q : St} (h : Two B w b rc rf rb q) (ap : Apart (XR rc rf) w W1) : Rf B W1 rb q.C := h.r.stay ap (fun e => by
  have := h.ne
  rcases e with e | e
  · exact this.2.1 e
  · exact this.2.2 e)
theorem Mv.mk' {B : Nat} {w W1 W1' w' : World} {b rc rf rb : Nat} {q q' : St} (h : Two B w b rc rf rb q) (s : StpS B w W1 b rc rf q') (k : Below W1.heap.size W1 W1') (r : FStp B W1' w' rb q'.C) (ok : q'.Ok) : Mv B w w' b rc rf rb q' :=
  ⟨⟨(s.a.below k).stay r.ap (fun e => h.ne.1 e.symm) (fun e => h.ne.2.1 e.symm) (fun e => h.ne.2.2 e.symm), r.a, ok⟩, ((s.ap.trans (Apart.of_below k)).wide (fun _ _ e => .inl e)).trans (r.ap.wide (fun _ _ e => .inr e))⟩
theorem Mv.pre {B : Nat} {a a' c : World} {b rc rf rb : Nat} {q' : St} (h : Below a.heap.size a a') (k : Mv B a' c b rc rf rb q') : Mv B a c b rc rf rb q' := ⟨k.two, (Apart.of_below h).trans k.ap⟩
theorem Mv.same {B : Nat} {w w' : World} {b rc rf rb : Nat} {q : St} (h : Two B w b rc rf rb q) (k : Below w.heap.size w w') : Mv B w w' b rc rf rb q := ⟨h.below k, Apart.of_below k⟩
theorem Mv.below {B : Nat} {w w' : World} {b rc rf rb : Nat} {q q' : St} (h : Mv B w w' b rc rf rb q') (k : Two B w b rc rf rb q) (hB : B ≤ w.heap.size) : Below B w w' :=
  h.ap.below B (fun i e => by
    rcases e with (e | e) | e
    · exact e ▸ k.t.gc
    · exact e ▸ k.t.gf
    · have e' : i = rb := e
      exact e' ▸ k.r.g) hB
def doQ (d : Dd) (q : St) : St := if d.k = 0 then bindQ d.f d.s q else if d.k = 1 then unQ d.f q else if d.k = 2 then diQ d.f d.on q else if d.k = 3 then moQ d.f d.g q else if d.k = 4 then cq d.f d.g q 2 else q
def playQ : List Dd → St → St
  | [], q => q
  | d :: l, q => playQ l (doQ d q)
theorem playQ_snoc : ∀ (l : List Dd) (d : Dd) (q : St), playQ (l ++ [d]) q = doQ d (playQ l q)
  | [], d, q => rfl
  | x :: l, d, q => playQ_snoc l d (doQ x q)
end Go.Proofs.Ytboelnkeejmjnaa
