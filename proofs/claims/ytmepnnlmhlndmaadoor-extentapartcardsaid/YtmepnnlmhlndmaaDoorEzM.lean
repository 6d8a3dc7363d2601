/- Both tables: what each call comes to on both. -/
import Derived.Test.YtmepnnlmhlndmaaDoorEzL
import Derived.Test.YtmepnnlmhlndmaaDoorEyC
import Derived.Test.YtmepnnlmhlndmaaDoorNameP
namespace Go.Proofs.YtmepnnlmhlndmaaDoor
open Go.RowKit Go.Maps
set_option linter.unusedVariables false
set_option maxRecDepth 100000
/-- Both tables, each in its own state. -/
structure Mx (B : Nat) (w : World) (L : Lo) (b : Nat) (s s2 : Xt) : Prop where
  t : Pt B w L s
  r : Rt B w b s2
  n : Nt B w
theorem Pt.notb {B : Nat} {w : World} {L : Lo} {b : Nat} {s : Xt} {c : List Value} (h : Pt B w L s) (hc : Cl w b 88 c) {k : Nat} (hk : XT L k) : k ≠ b := by
  obtain ⟨t, c', h1, h2⟩ := h.ty hk
  intro e
  subst e
  rcases h2 with rfl | rfl
  · exact h1.ne hc (by decide) rfl
  · exact h1.ne hc (by decide) rfl
theorem Rt.far {B : Nat} {w w' : World} {L : Lo} {b : Nat} {s s2 : Xt} (h : Rt B w b s) (ht : Pt B w L s2) (ap : Apart (XT L) w w') : Rt B w' b s := by
  obtain ⟨v, h1, h2⟩ := h.ex
  refine h.stay ap (fun e => ht.notb h1 e rfl) (fun g cur hg hx => ?_)
  obtain ⟨t, c', h3, h4⟩ := ht.ty hx
  have := h3.symm.trans hg
  injection this with this
  injection this with _ this
  rcases h4 with e | e <;> (rw [e] at this; exact absurd this (by decide))
theorem Mx.low {B : Nat} {w w' : World} {L : Lo} {b : Nat} {s s2 : Xt} (h : Mx B w L b s s2) (k : Below w.heap.size w w') : Mx B w' L b s s2 := ⟨h.t.below k, h.r.below k, h.n.low k⟩
theorem Mx.sz {B : Nat} {w : World} {L : Lo} {b : Nat} {s s2 : Xt} (h : Mx B w L b s s2) : B ≤ w.heap.size := h.n.size
/-- What a deed on both comes to. -/
structure Mv (B : Nat) (w w' : World) (L : Lo) (b : Nat) (s s2 : Xt) : Prop where
  out : ∃ L', L'.t = L.t ∧ Mx B w' L' b s s2 ∧ ∀ k, XT L' k → XT L k ∨ w.heap.size ≤ k
  ap : Apart (fun k => XT L k ∨ k = b) w w'
theorem Mx.step1 {B : Nat} {w w1 : World} {L : Lo} {b : Nat} {s s' s2 : Xt} (h : Mx B w L b s s2) (k : TStp B w w1 L s') : ∃ L', L'.t = L.t ∧ Mx B w1 L' b s' s2 ∧ ∀ k, XT L' k → XT L k ∨ w.heap.size ≤ k := by
  obtain ⟨L', e, hP, hX⟩ := k.out
  exact ⟨L', e, ⟨hP, h.r.far h.t k.ap, h.n.to (k.low h.t h.sz)⟩, hX⟩
theorem Mx.step2 {B : Nat} {w w1 : World} {L : Lo} {b : Nat} {s s2 s' : Xt} (h : Mx B w L b s s2) (k : RStp B w w1 b s') : Mx B w1 L b s s' := by
  obtain ⟨v, hc, _⟩ := h.r.ex
  exact ⟨h.t.stay k.ap (fun i hi e => h.t.notb hc hi e), k.r, h.n.apart k.ap h.r.g⟩
theorem Mv.mk' {B : Nat} {w w1 w2 : World} {L : Lo} {b : Nat} {s s' : Xt} (h : Mx B w L b s s) (h1 : TStp B w w1 L s') (h2 : RStp B w1 w2 b s') : Mv B w w2 L b s' s' := by
  obtain ⟨L', e, hM, hX⟩ := h.step1 h1
  exact ⟨⟨L', e, hM.step2 h2, hX⟩, (h1.ap.wide (fun i _ x => .inl x)).trans (h2.ap.wide (fun i _ x => .inr x))⟩
theorem Mv.pre {B : Nat} {w w1 w2 : World} {L : Lo} {b : Nat} {s s2 : Xt} (h : Below w.heap.size w w1) (k : Mv B w1 w2 L b s s2) : Mv B w w2 L b s s2 :=
  ⟨k.out.elim fun L' hL => ⟨L', hL.1, hL.2.1, fun i hi => (hL.2.2 i hi).imp id (Nat.le_trans h.size)⟩, (Apart.of_below h).trans k.ap⟩
theorem Mv.same {B : Nat} {w w' : World} {L : Lo} {b : Nat} {s s2 : Xt} (h : Mx B w L b s s2) (k : Below w.heap.size w w') : Mv B w w' L b s s2 := ⟨⟨L, rfl, h.low k, fun _ => .inl⟩, Apart.of_below k⟩
theorem Mv.low {B : Nat} {w w' : World} {L : Lo} {b : Nat} {s s2 s0 : Xt} (k : Mv B w w' L b s s2) (h : Mx B w L b s0 s0) : Below B w w' := k.ap.below B (fun i hi => hi.elim (fun x => h.t.g i x) (fun e => e ▸ h.r.g)) h.sz
/-- How far a state is on. -/
structure Nx (s s' : Xt) : Prop where
  N : s'.N = s.N
  la : s'.last ≤ s.last + 1
theorem Nx.refl (s : Xt) : Nx s s := ⟨rfl, Nat.le_succ _⟩
/-- One answer of both, a number. -/
structure B1 (fp fr : FuncId) (args : Array Value) (s : Xt) (e : Int) (s' : Xt) : Prop where
  p : ∀ B w L, Pt B w L s → B ≤ w.heap.size → Calls Tryd.prog fp (#[.pointer (some ⟨L.t, 0, none⟩)] ++ args) w fun r w' => r = .returned (.int .i64 e) ∧ TStp B w w' L s'
  r : ∀ B w b, Rt B w b s → Nt B w → Calls Tryd.prog fr (#[.pointer (some ⟨b, 0, none⟩)] ++ args) w fun r w' => r = .returned (.int .i64 e) ∧ RStp B w w' b s'
  n : Nx s s'
/-- One answer of both, a number of an extent and an error. -/
structure B2 (fp fr : FuncId) (args : Array Value) (s : Xt) (x : Nat) (e : Int) (s' : Xt) : Prop where
  p : ∀ B w L, Pt B w L s → B ≤ w.heap.size → Calls Tryd.prog fp (#[.pointer (some ⟨L.t, 0, none⟩)] ++ args) w fun r w' => r = .returned (.tuple #[.int .u32 x, .int .i64 e]) ∧ TStp B w w' L s'
  r : ∀ B w b, Rt B w b s → Nt B w → Calls Tryd.prog fr (#[.pointer (some ⟨b, 0, none⟩)] ++ args) w fun r w' => r = .returned (.tuple #[.int .u32 x, .int .i64 e]) ∧ RStp B w w' b s'
  n : Nx s s'
theorem free_both (s : Xt) (ow id : Nat) : ∃ e s', B1 18 55 #[.int .u8 ow, .int .u32 id] s e s' := by
  rcases had_cases s ow id with ⟨c, k⟩ | ⟨pre, x, post, k⟩
  · exact ⟨c, s, fun B w L h hB => p_free_no h ow id c k, fun B w b h _ => freeR_no h ow id c k, Nx.refl s⟩
  · exact ⟨0, _, fun B w L h hB => p_free h hB ow id pre post x k, fun B w b h _ => freeR_ok h ow id pre post x k, rfl, Nat.le_succ _⟩
theorem give_both (s : Xt) (ow id tw : Nat) : ∃ e s', B1 19 56 #[.int .u8 ow, .int .u32 id, .int .u8 tw] s e s' := by
  rcases had_cases s ow id with ⟨c, k⟩ | ⟨pre, x, post, k⟩
  · exact ⟨c, s, fun B w L h hB => p_give_no h ow id tw c k, fun B w b h _ => giveR_no h ow id tw c k, Nx.refl s⟩
  by_cases ht : 6 ≤ tw
  · exact ⟨2, s, fun B w L h hB => p_give_far h ow id tw pre post x k ht, fun B w b h _ => giveR_far h ow id tw pre post x k ht, Nx.refl s⟩
  · exact ⟨0, _, fun B w L h hB => p_give h hB ow id tw pre post x k (by omega), fun B w b h _ => giveR_ok h ow id tw pre post x k (by omega), rfl, Nat.le_succ _⟩
theorem grow_both (s : Xt) (ok : s.Ok) (ow id : Nat) (m : Int) : ∃ e s', B1 20 57 #[.int .u8 ow, .int .u32 id, .int .i64 m] s e s' := by
  rcases had_cases s ow id with ⟨c, k⟩ | ⟨pre, x, post, k⟩
  · exact ⟨c, s, fun B w L h hB => p_grow_no h ow id m c k, fun B w b h _ => growR_no h ow id m c k, Nx.refl s⟩
  rcases there_cases s.N ((x.st + x.ln : Nat) : Int) m with ht | ⟨st, k0, e1, rfl, h1, h2⟩
  · exact ⟨2, s, fun B w L h hB => p_grow_far h ow id m pre post x k ht, fun B w b h _ => growR_far h ow id m pre post x k ht, Nx.refl s⟩
  have h2' : x.st + x.ln + k0 ≤ s.N := by omega
  have hb := ok.nb
  have hx : x.st + (x.ln + k0) ≤ 1000 := by omega
  rcases free_cases s.l ((x.st + x.ln : Nat) : Int) k0 with hf | hf
  · exact ⟨0, _, fun B w L h hB => p_grow h hB ow id k0 pre post x k h1 h2' hf hx, fun B w b h _ => growR_ok h ow id k0 pre post x k h1 h2' hf hx, rfl, Nat.le_succ _⟩
  · exact ⟨8, s, fun B w L h hB => p_grow_busy h ow id k0 pre post x k h1 h2' hf, fun B w b h _ => growR_busy h ow id k0 pre post x k h1 h2' hf, Nx.refl s⟩
theorem merge_both (s : Xt) (ok : s.Ok) (ow ia ib : Nat) : ∃ e s', B1 17 54 #[.int .u8 ow, .int .u32 ia, .int .u32 ib] s e s' := by
  rcases had_cases s ow ia with ⟨c, k⟩ | ⟨pre, x, post, k⟩
  · exact ⟨c, s, fun B w L h hB => p_merge_no h ow ia ib c k, fun B w b h _ => mergeR_no h ow ia ib c k, Nx.refl s⟩
  rcases had_cases s ow ib with ⟨c, k2⟩ | ⟨pre', z, post', k2⟩
  · exact ⟨c, s, fun B w L h hB => p_merge_no2 h ow ia ib c pre post x k k2, fun B w b h _ => mergeR_no2 h ow ia ib c pre post x k k2, Nx.refl s⟩
  by_cases hne : x.st + x.ln = z.st
  · cases hg : sameG x z with
    | false => exact ⟨9, s, fun B w L h hB => p_merge_state h ow ia ib pre post pre' post' x z k k2 (.inr ⟨hne, hg⟩), fun B w b h _ => mergeR_grd h ow ia ib pre post pre' post' x z k k2 hne hg, Nx.refl s⟩
    | true =>
      obtain ⟨p2, rfl, kb⟩ := merge_next ok k k2 hne
      have hz : z ∈ s.l := by rw [k2.l]; simp
      have hb := ok.nb
      have hxz : x.st + (x.ln + z.ln) ≤ 1000 := by have := (ok.ln z hz).2; omega
      exact ⟨0, _, fun B w L h hB => p_merge h hB ow ia ib pre p2 x z k kb hne hg hxz, fun B w b h _ => mergeR_ok h ow ia ib pre (z :: p2) (pre ++ [x]) p2 x z k kb p2 rfl rfl hne hg hxz, rfl, Nat.le_succ _⟩
  · exact ⟨9, s, fun B w L h hB => p_merge_state h ow ia ib pre post pre' post' x z k k2 (.inl hne), fun B w b h _ => mergeR_far h ow ia ib pre post pre' post' x z k k2 hne, Nx.refl s⟩
theorem split_both (s : Xt) (ok : s.Ok) (hl : s.last < 1000000) (ow id : Nat) (a : Int) : ∃ x e s', B2 15 53 #[.int .u8 ow, .int .u32 id, .int .i64 a] s x e s' := by
  rcases had_cases s ow id with ⟨c, k⟩ | ⟨pre, x, post, k⟩
  · exact ⟨0, c, s, fun B w L h hB => p_split_no h ow id a c k, fun B w b h _ => splitR_no h ow id a c k, Nx.refl s⟩
  by_cases ha : a ≤ (x.st : Int) ∨ ((x.st + x.ln : Nat) : Int) ≤ a
  · exact ⟨0, 2, s, fun B w L h hB => p_split_far h ow id a pre post x k ha, fun B w b h _ => splitR_far h ow id a pre post x k ha, Nx.refl s⟩
  obtain ⟨n, rfl⟩ : ∃ n : Nat, a = n := ⟨a.toNat, by omega⟩
  have h1 : x.st < n := by omega
  have h2 : n < x.st + x.ln := by omega
  have hxb := x.b
  by_cases hlen : 24 ≤ s.l.length
  · exact ⟨0, 4, s, fun B w L h hB => p_split_full h ow id n pre post x k h1 h2 hlen, fun B w b h _ => splitR_full h ow id n pre post x k h1 h2 hlen, Nx.refl s⟩
  · have hxa : x.st + (n - x.st) ≤ 1000 := by omega
    have h24 : s.l.length < 24 := by omega
    exact ⟨s.last + 1, 0, _, fun B w L h hB => p_split h hB ow id n pre post x k h1 h2 h24 hl hxa, fun B w b h _ => splitR_ok h ow id n pre post x k h1 h2 h24 hl hxa, rfl, Nat.le_refl _⟩
theorem alloc_both (s : Xt) (ok : s.Ok) (hl : s.last < 1000000) (ow : Nat) (start many : Int) (nm : ByteArray) (rt : BitVec 8) (hst : start ≤ 9223372036854775807) (hnm : nm.size ≤ 1000) : ∃ x e s', B2 23 52 #[.int .u8 ow, .int .i64 start, .int .i64 many, .agg #[.string nm, .int .u8 rt.toNat]] s x e s' := by
  by_cases ho : 6 ≤ ow
  · exact ⟨0, 2, s, fun B w L h hB => p_alloc_own h ow start many nm rt ho, fun B w b h _ => allocR_own h ow start many nm rt ho, Nx.refl s⟩
  have ho' : ow < 6 := by omega
  rcases there_cases s.N start many with ht | ⟨st, k, rfl, rfl, h1, h2⟩
  · exact ⟨0, 2, s, fun B w L h hB => p_alloc_far h ow start many nm rt ho' hst ht, fun B w b h _ => allocR_far h ow start many nm rt ho' ht, Nx.refl s⟩
  cases hr : rightB nm.data.toList rt.toNat with
  | false => exact ⟨0, 3, s, fun B w L h hB => p_alloc_form h ow st k nm rt ho' h1 h2 hnm hr, fun B w b h hn => allocR_form h ow st k nm rt ho' st k rfl rfl h1 h2 hnm hn.size hn hr, Nx.refl s⟩
  | true =>
    rcases free_cases s.l st k with hf | hf
    · by_cases hlen : 24 ≤ s.l.length
      · exact ⟨0, 4, s, fun B w L h hB => p_alloc_full h ow st k nm rt ho' h1 h2 hnm hr hf hlen, fun B w b h hn => allocR_full h ow st k nm rt ho' st k rfl rfl h1 h2 hnm hn.size hn hr hf hlen, Nx.refl s⟩
      · obtain ⟨pre, post, c⟩ := cut_x ok st k h1 hf
        have hb := ok.nb
        have hx2 : st + k ≤ 1000 := by omega
        have h24 : s.l.length < 24 := by omega
        exact ⟨s.last + 1, 0, _, fun B w L h hB => p_alloc h hB ow st k nm rt ho' h1 h2 hnm hr hf h24 hl pre post c hx2, fun B w b h hn => allocR_ok h ow st k nm rt ho' st k rfl rfl h1 h2 hnm hn.size hn hr hf h24 hl pre post c hx2, rfl, Nat.le_refl _⟩
    · exact ⟨0, 8, s, fun B w L h hB => p_alloc_busy h ow st k nm rt ho' h1 h2 hnm hr hf, fun B w b h hn => allocR_busy h ow st k nm rt ho' st k rfl rfl h1 h2 hnm hn.size hn hr hf, Nx.refl s⟩
end Go.Proofs.YtmepnnlmhlndmaaDoor
