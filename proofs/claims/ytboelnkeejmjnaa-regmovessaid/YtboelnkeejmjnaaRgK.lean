/- What the registry keeps: both ways lead to one another; Clear's states. -/
import Derived.Test.YtboelnkeejmjnaaRgS
namespace Go.Proofs.Ytboelnkeejmjnaa
open Go.RowKit Go.Maps
set_option linter.unusedVariables false
set_option maxRecDepth 100000
theorem ok0 : q0.Ok := ⟨fun f s b h => (by cases h), fun s f h => (by cases h)⟩
theorem St.Ok.holds {q : St} (hq : q.Ok) (f : Int) (c : Int × Bool) (f0 : 0 ≤ f) (f1 : f < 64) (c0 : 0 ≤ c.1) (c1 : c.1 < 64) (h1 : ∀ c', q.C f = some c' → c'.1 = c.1) (h2 : ∀ g, q.F c.1 = some g → g = f) : (q.hold f c).Ok := by
  refine ⟨fun f' s b h => ?_, fun s f' h => ?_⟩
  · change upI q.C f (some c) f' = _ at h
    show _ ∧ _ ∧ _ ∧ _ ∧ upI q.F c.1 (some f) s = some f'
    unfold upI at h ⊢
    by_cases e : f' = f
    · subst e
      rw [if_pos rfl] at h
      cases h
      exact ⟨f0, f1, c0, c1, if_pos rfl⟩
    · rw [if_neg e] at h
      obtain ⟨a1, a2, a3, a4, a5⟩ := hq.c f' s b h
      refine ⟨a1, a2, a3, a4, ?_⟩
      rw [if_neg (fun es => e (h2 f' (by rw [← es]; exact a5)))]
      exact a5
  · change upI q.F c.1 (some f) s = _ at h
    show ∃ b, upI q.C f (some c) f' = _
    unfold upI at h ⊢
    by_cases e : s = c.1
    · subst e
      rw [if_pos rfl] at h
      cases h
      exact ⟨c.2, if_pos rfl⟩
    · rw [if_neg e] at h
      obtain ⟨b, hb⟩ := hq.f s f' h
      refine ⟨b, ?_⟩
      rw [if_neg (fun es => e (h1 (s, b) (by rw [← es]; exact hb)))]
      exact hb
theorem St.Ok.leaves {q : St} (hq : q.Ok) (f : Int) (c : Int × Bool) (h : q.C f = some c) : (q.leave f c).Ok := by
  obtain ⟨_, _, _, _, hF⟩ := hq.c f c.1 c.2 h
  refine ⟨fun f' s b k => ?_, fun s f' k => ?_⟩
  · change upI q.C f none f' = _ at k
    show _ ∧ _ ∧ _ ∧ _ ∧ upI q.F c.1 none s = some f'
    unfold upI at k ⊢
    by_cases e : f' = f
    · rw [if_pos e] at k
      cases k
    · rw [if_neg e] at k
      obtain ⟨a1, a2, a3, a4, a5⟩ := hq.c f' s b k
      refine ⟨a1, a2, a3, a4, ?_⟩
      rw [if_neg (fun es => by rw [es, hF] at a5; cases a5; exact e rfl)]
      exact a5
  · change upI q.F c.1 none s = _ at k
    show ∃ b, upI q.C f none f' = _
    unfold upI at k ⊢
    by_cases e : s = c.1
    · rw [if_pos e] at k
      cases k
    · rw [if_neg e] at k
      obtain ⟨b, hb⟩ := hq.f s f' k
      refine ⟨b, ?_⟩
      rw [if_neg (fun es => by rw [es, h] at hb; cases hb; exact e rfl)]
      exact hb
theorem bind_ok {q : St} (hq : q.Ok) (f s : Int) (h0 : 0 ≤ f) : (bindQ f s q).Ok := by
  unfold bindQ
  by_cases e : bindE f s q = 0
  · rw [if_pos e]
    unfold bindE at e
    by_cases h6 : 64 ≤ f
    · rw [if_pos h6] at e; omega
    rw [if_neg h6] at e
    by_cases hs : s < 0 ∨ 64 ≤ s
    · rw [if_pos hs] at e; omega
    rw [if_neg hs] at e
    by_cases hx : (q.C f).isSome = true ∨ (q.F s).isSome = true
    · rw [if_pos hx] at e; omega
    refine hq.holds f (s, false) h0 (by omega) (by show 0 ≤ s; omega) (by show s < 64; omega) (fun c' hc => (hx (.inl (by rw [hc]; rfl))).elim) (fun g hg => (hx (.inr ?_)).elim)
    have hg : q.F s = some g := hg
    rw [hg]
    rfl
  · rw [if_neg e]
    exact hq
theorem un_ok {q : St} (hq : q.Ok) (f : Int) : (unQ f q).Ok := by
  unfold unQ
  by_cases e : unE f q = 0
  · rw [if_pos e]
    unfold unE at e
    by_cases h0 : ctE q.C f = 0
    · obtain ⟨_, c, hc, hcc, _⟩ := ct_some hq h0
      rw [hcc]
      exact hq.leaves f c hc
    · rw [if_neg h0] at e
      exact (h0 e).elim
  · rw [if_neg e]
    exact hq
theorem di_ok {q : St} (hq : q.Ok) (f : Int) (on : Bool) (h0 : 0 ≤ f) : (diQ f on q).Ok := by
  unfold diQ
  by_cases h : ctE q.C f = 0
  · obtain ⟨h6, c, hc, hcc, c0, c1⟩ := ct_some hq h
    rw [if_pos h, hcc]
    have hF := (hq.c f c.1 c.2 hc).2.2.2.2
    exact hq.holds f (c.1, on) h0 h6 c0 c1 (fun c' hc' => by rw [hc] at hc'; cases hc'; rfl) (fun g hg => by
      have hg : q.F c.1 = some g := hg
      rw [hF] at hg
      cases hg
      rfl)
  · rw [if_neg h]
    exact hq
theorem ct_none {q : St} {f : Int} (h6 : f < 64) (h : ctE q.C f ≠ 0) : q.C f = none := by
  unfold ctE at h
  rw [if_neg (by omega)] at h
  cases e : q.C f with
  | none => rfl
  | some c => rw [e] at h; exact (h rfl).elim
theorem mo_ok {q : St} (hq : q.Ok) (f t : Int) (h0 : 0 ≤ f) (h1 : 0 ≤ t) : (moQ f t q).Ok := by
  unfold moQ
  by_cases e : moE f t q = 0
  · rw [if_pos e]
    unfold moE at e
    by_cases h6 : 64 ≤ t
    · rw [if_pos h6] at e; omega
    rw [if_neg h6] at e
    by_cases hf : ctE q.C f = 0
    · rw [if_pos hf] at e
      by_cases ht : ctE q.C t = 0
      · rw [if_pos ht] at e; omega
      obtain ⟨_, c, hc, hcc, c0, c1⟩ := ct_some hq hf
      rw [hcc]
      have hn := ct_none (q := q) (f := t) (by omega) ht
      refine (hq.leaves f c hc).holds t c h1 (by omega) c0 c1 (fun c' hc' => ?_) (fun g hg => ?_)
      · change upI q.C f none t = _ at hc'
        unfold upI at hc'
        rw [hn] at hc'
        split at hc' <;> cases hc'
      · change upI q.F c.1 none c.1 = _ at hg
        unfold upI at hg
        rw [if_pos rfl] at hg
        cases hg
    · rw [if_neg hf] at e
      exact (hf e).elim
  · rw [if_neg e]
    exact hq
def clQ (f : Int) (q : St) : St := if ctE q.C f = 0 then q.leave f (ctC q.C f) else q
def clN (f : Int) (q : St) : Int := if ctE q.C f = 0 then 1 else 0
def fx (f g : Int) : Nat → Int
  | 0 => f
  | _ => g
def cq (f g : Int) (q : St) : Nat → St
  | 0 => q
  | k + 1 => clQ (fx f g k) (cq f g q k)
def cn (f g : Int) (q : St) : Nat → Int
  | 0 => 0
  | k + 1 => cn f g q k + clN (fx f g k) (cq f g q k)
theorem cl_ok {q : St} (hq : q.Ok) (f : Int) : (clQ f q).Ok := by
  unfold clQ
  by_cases h : ctE q.C f = 0
  · obtain ⟨_, c, hc, hcc, _⟩ := ct_some hq h
    rw [if_pos h, hcc]
    exact hq.leaves f c hc
  · rw [if_neg h]
    exact hq
theorem cq_ok {q : St} (hq : q.Ok) (f g : Int) : ∀ k, (cq f g q k).Ok
  | 0 => hq
  | k + 1 => cl_ok (cq_ok hq f g k) _
theorem cn_le (f g : Int) (q : St) : ∀ k : Nat, 0 ≤ cn f g q k ∧ cn f g q k ≤ k
  | 0 => ⟨Int.le_refl _, Int.le_refl _⟩
  | k + 1 => by
    have := cn_le f g q k
    show 0 ≤ cn f g q k + clN (fx f g k) (cq f g q k) ∧ cn f g q k + clN (fx f g k) (cq f g q k) ≤ ((k + 1 : Nat) : Int)
    unfold clN
    split <;> omega
end Go.Proofs.Ytboelnkeejmjnaa
