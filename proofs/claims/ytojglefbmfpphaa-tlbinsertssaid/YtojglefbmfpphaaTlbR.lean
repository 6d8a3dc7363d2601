/- Two objects side by side, the program's and the document's; when lists of mappings are the same. -/
import Derived.Test.YtojglefbmfpphaaTlbM
namespace Go.Proofs.Ytojglefbmfpphaa
open Go.RowKit Go.Maps
set_option linter.unusedVariables false
set_option maxRecDepth 100000

theorem tTR : (55 : TypeId) ≠ 57 := by decide
theorem Ob.apart {B : Nat} {t t2 : TypeId} {w : World} {b b2 : Nat} {v v2 : Value} {L L2 : List Mp} (h : Ob B t w b v L) (k : Ob B t2 w b2 v2 L2) (ht : t2 ≠ 33) (g : Nat) (hg : v.ownBlock = some g) : g ≠ b2 := by
  obtain ⟨cur, hc⟩ := own_kind h.row g hg
  intro e
  subst e
  rw [k.blk] at hc
  injection hc with hc
  injection hc with _ hc
  exact ht hc
theorem Ob.unlike {B : Nat} {t t2 : TypeId} {w : World} {b b2 : Nat} {v v2 : Value} {L L2 : List Mp} (h : Ob B t w b v L) (k : Ob B t2 w b2 v2 L2) (ht : t ≠ t2) : b ≠ b2 := by
  intro e
  subst e
  have := h.blk.symm.trans k.blk
  injection this with this
  injection this with _ this
  exact ht this
/-- The rows of two slices lie in unlike blocks. -/
def Ap (v u : Value) : Prop := ∀ g, v.ownBlock = some g → u.ownBlock = some g → False
theorem Ap.symm {v u : Value} (h : Ap v u) : Ap u v := fun g a b => h g b a
/-- Another object stays, and its row stays apart. -/
theorem Stp.other {B : Nat} {t t2 : TypeId} {w w' : World} {b b2 : Nat} {v v' u : Value} {L L' L2 : List Mp} (s : Stp B t w w' b v v' L') (h : Ob B t w b v L) (k : Ob B t2 w b2 u L2) (ht : t ≠ 33) (ht2 : t2 ≠ 33) (hb : b ≠ b2) (ha : Ap v u) : Ob B t2 w' b2 u L2 ∧ Ap v' u := by
  refine ⟨k.stay s.ap (fun e => ?_) (fun g hg e => ?_), fun g h1 h2 => ?_⟩
  · rcases e with e | e
    · exact hb e.symm
    · exact h.apart k ht2 b2 e.symm rfl
  · rcases e with e | e
    · exact k.apart h ht g hg e
    · exact ha g e.symm hg
  · rcases s.own with o | ⟨g', hg', o⟩
    · exact ha g (o ▸ h1) h2
    · rw [o] at h1
      have e1 := Option.some.inj h1
      have := (k.row.lt g h2).2
      omega
structure Two (B : Nat) (w : World) (tb rb : Nat) (v u : Value) (L : List Mp) : Prop where
  t : Ob B 55 w tb v L
  r : Ob B 57 w rb u L
  ap : Ap v u
/-- What a deed on both comes to. -/
structure Mv (B : Nat) (w w' : World) (tb rb : Nat) (v u v' u' : Value) (L' : List Mp) : Prop where
  two : Two B w' tb rb v' u' L'
  ap : Apart (fun k => (k = tb ∨ some k = v.ownBlock) ∨ (k = rb ∨ some k = u.ownBlock)) w w'
  vo : v'.ownBlock = v.ownBlock ∨ ∃ g, w.heap.size ≤ g ∧ v'.ownBlock = some g
  uo : u'.ownBlock = u.ownBlock ∨ ∃ g, w.heap.size ≤ g ∧ u'.ownBlock = some g
theorem Two.below {B : Nat} {w w' : World} {tb rb : Nat} {v u : Value} {L : List Mp} (h : Two B w tb rb v u L) (k : Below w.heap.size w w') : Two B w' tb rb v u L := ⟨h.t.below k, h.r.below k, h.ap⟩
theorem Two.ne {B : Nat} {w : World} {tb rb : Nat} {v u : Value} {L : List Mp} (h : Two B w tb rb v u L) : tb ≠ rb := h.t.unlike h.r tTR
theorem Two.tstep {B : Nat} {w w' : World} {tb rb : Nat} {v v' u : Value} {L L' : List Mp} (h : Two B w tb rb v u L) (s : Stp B 55 w w' tb v v' L') : Ob B 57 w' rb u L ∧ Ap v' u := s.other h.t h.r tT tR h.ne h.ap
/-- The program's step, and then the document's. -/
theorem Mv.mk' {B : Nat} {w W1 W2 w' : World} {tb rb : Nat} {v u v' u' : Value} {L L' : List Mp} (h : Two B w tb rb v u L) (s : Stp B 55 w W1 tb v v' L') (k : Below W1.heap.size W1 W2) (q : Stp B 57 W2 w' rb u u' L') : Mv B w w' tb rb v u v' u' L' := by
  obtain ⟨h1, h2⟩ := h.tstep s
  have s2 := s.post k
  obtain ⟨h3, h4⟩ := q.other (h1.below k) s2.ob tR tT h.ne.symm h2.symm
  refine ⟨⟨h3, q.ob, h4.symm⟩, (s2.ap.wide (fun i _ e => .inl e)).then q.ap (fun i _ e => .inr e), s2.own, ?_⟩
  exact q.own.imp id (fun ⟨g, hg, e⟩ => ⟨g, Nat.le_trans s2.ap.size hg, e⟩)
theorem Mv.pre {B : Nat} {w W w' : World} {tb rb : Nat} {v u v' u' : Value} {L' : List Mp} (h : Mv B W w' tb rb v u v' u' L') (k : Below w.heap.size w W) : Mv B w w' tb rb v u v' u' L' :=
  ⟨h.two, (Apart.of_below k).trans h.ap, h.vo.imp id (fun ⟨g, hg, e⟩ => ⟨g, Nat.le_trans k.size hg, e⟩), h.uo.imp id (fun ⟨g, hg, e⟩ => ⟨g, Nat.le_trans k.size hg, e⟩)⟩
theorem Mv.post {B : Nat} {w W w' : World} {tb rb : Nat} {v u v' u' : Value} {L' : List Mp} (h : Mv B w W tb rb v u v' u' L') (k : Below W.heap.size W w') : Mv B w w' tb rb v u v' u' L' :=
  ⟨h.two.below k, h.ap.trans (Apart.of_below k), h.vo, h.uo⟩
theorem Mv.same {B : Nat} {w w' : World} {tb rb : Nat} {v u : Value} {L : List Mp} (h : Two B w tb rb v u L) (k : Below w.heap.size w w') : Mv B w w' tb rb v u v u L := ⟨h.below k, Apart.of_below k, .inl rfl, .inl rfl⟩
theorem Mv.below {B : Nat} {w w' : World} {tb rb : Nat} {v u v' u' : Value} {L L' : List Mp} (h : Mv B w w' tb rb v u v' u' L') (k : Two B w tb rb v u L) (hB : B ≤ w.heap.size) : Below B w w' :=
  h.ap.below B (fun i e => by
    rcases e with (e | e) | (e | e)
    · exact e ▸ k.t.ge
    · exact (k.t.row.lt i e.symm).1
    · exact e ▸ k.r.ge
    · exact (k.r.row.lt i e.symm).1) hB
/-- Two others stay. -/
theorem Mv.others {B : Nat} {w w' : World} {tb rb fb gb : Nat} {v u v' u' x y : Value} {L L' M : List Mp} (h : Mv B w w' tb rb v u v' u' L') (k : Two B w tb rb v u L) (o : Two B w fb gb x y M) (h1 : tb ≠ fb) (h2 : rb ≠ gb) (a1 : Ap v x) (a2 : Ap v y) (a3 : Ap u x) (a4 : Ap u y) : Two B w' fb gb x y M ∧ Ap v' x ∧ Ap v' y ∧ Ap u' x ∧ Ap u' y := by
  have far : ∀ {p q z : Value} {b : Nat} {t : TypeId} {N : List Mp}, (q.ownBlock = p.ownBlock ∨ ∃ g, w.heap.size ≤ g ∧ q.ownBlock = some g) → Ap p z → Ob B t w b z N → Ap q z := fun o a ob g e1 e2 => by
    rcases o with o | ⟨g', hg', o⟩
    · exact a g (o ▸ e1) e2
    · rw [o] at e1
      have e3 := Option.some.inj e1
      have := (ob.row.lt g e2).2
      omega
  refine ⟨⟨o.t.stay h.ap (fun e => ?_) (fun g hg e => ?_), o.r.stay h.ap (fun e => ?_) (fun g hg e => ?_), o.ap⟩, far h.vo a1 o.t, far h.vo a2 o.r, far h.uo a3 o.t, far h.uo a4 o.r⟩
  · rcases e with (e | e) | (e | e)
    · exact h1 e.symm
    · exact k.t.apart o.t tT fb e.symm rfl
    · exact o.t.unlike k.r tTR e
    · exact k.r.apart o.t tT fb e.symm rfl
  · rcases e with (e | e) | (e | e)
    · exact o.t.apart k.t tT g hg e
    · exact a1 g e.symm hg
    · exact o.t.apart k.r tR g hg e
    · exact a3 g e.symm hg
  · rcases e with (e | e) | (e | e)
    · exact k.t.unlike o.r tTR e.symm
    · exact k.t.apart o.r tR gb e.symm rfl
    · exact h2 e.symm
    · exact k.r.apart o.r tR gb e.symm rfl
  · rcases e with (e | e) | (e | e)
    · exact o.r.apart k.t tT g hg e
    · exact a2 g e.symm hg
    · exact o.r.apart k.r tR g hg e
    · exact a4 g e.symm hg

set_option maxHeartbeats 4000000 in
theorem same_any (v u : Value) (L M : List Mp) (w : World) (hv : Mps w v L) (hu : Mps w u M) (hL : L.length ≤ 1000) (hM : M.length ≤ 1000) (he : L = M) :
    Calls Try.prog 11 #[v, u] w fun e w' => e = .returned (.bool true) ∧ Below w.heap.size w w' := by
  subst he
  obtain ⟨ad, cap, rfl, hcap, _, hcell⟩ := hv
  obtain ⟨ad2, cap2, rfl, hcap2, _, hcell2⟩ := hu
  have HC : Hid (∀ j m, L[j]? = some m → ∃ g off, ad = some ⟨g, off, none⟩ ∧ w.cell? ⟨g, off + j * 4, none⟩ = some (.int .u8 m.1) ∧ w.cell? ⟨g, off + j * 4 + 1, none⟩ = some (.int .u8 m.2.1) ∧ w.cell? ⟨g, off + j * 4 + 2, none⟩ = some (.int .u8 m.2.2.1) ∧ w.cell? ⟨g, off + j * 4 + 3, none⟩ = some (.bool m.2.2.2)) := hcell
  have HC2 : Hid (∀ j m, L[j]? = some m → ∃ g off, ad2 = some ⟨g, off, none⟩ ∧ w.cell? ⟨g, off + j * 4, none⟩ = some (.int .u8 m.1) ∧ w.cell? ⟨g, off + j * 4 + 1, none⟩ = some (.int .u8 m.2.1) ∧ w.cell? ⟨g, off + j * 4 + 2, none⟩ = some (.int .u8 m.2.2.1) ∧ w.cell? ⟨g, off + j * 4 + 3, none⟩ = some (.bool m.2.2.2)) := hcell2
  clear hcell hcell2
  have hne : ((L.length : Int) != (L.length : Int)) = false := by simp
  have eG := eqGuardM
  go_enter Try.func11, Try.ntmps11
  go_wp2
  go_loopw [5] (fun s5 wr => ∃ kk nq : Nat, kk ≤ L.length ∧ s5 = .int .i64 kk ∧ wr = w.drewN nq) (fun s5 _ => L.length - (intOf s5).toNat)
  case atStart => exact ⟨0, 0, Nat.zero_le _, rfl, rfl⟩
  case round =>
    obtain ⟨kk, nq, hkk, rfl, rfl⟩ := hrel
    by_cases hlt : kk < L.length
    · have hltz : (kk : Int) < (L.length : Int) := by omega
      obtain ⟨g, off, rfl, c0, c1, c2, c3⟩ := HC.out kk L[kk] (List.getElem?_eq_getElem hlt)
      obtain ⟨g', off', rfl, d0, d1, d2, d3⟩ := HC2.out kk L[kk] (List.getElem?_eq_getElem hlt)
      generalize L[kk] = y at *
      obtain ⟨y0, y1, y2, y3⟩ := y
      simp only at c0 c1 c2 c3 d0 d1 d2 d3
      have eM := fun w => eqM w y0 y1 y2 y0 y1 y2 y3 y3
      simp only [decide_true] at eM
      go_wp2_with fail
      go_quiet (fail)
      go_wp2
      go_roundw
      case rel => exact ⟨kk + 1, _, by omega, by go_num, rfl⟩
      case measure => simp [intOf]; omega
    · have hltz : ¬ (kk : Int) < (L.length : Int) := by omega
      go_wp2
      go_ret
      exact ⟨rfl, ⟨rfl, rfl, rfl, Nat.le_refl _, fun _ _ => rfl⟩⟩
end Go.Proofs.Ytojglefbmfpphaa
