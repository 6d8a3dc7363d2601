/- The document's Due. -/
import Derived.Test.YtpmndhbcohjboaaRvU
namespace Go.Proofs.Ytpmndhbcohjboaa
open Go.RowKit Go.Maps
set_option linter.unusedVariables false
set_option maxRecDepth 100000
theorem takeD {ops : Array Oper} {Q : Exit → Act → World → Prop} {S : World → Prop} {i : Nat} {oi : Oper} {v : Value} {fuel : Nat} {listed : Array Bool} {a : Act} {w : World} (d : Option Nat) (hi : ops[i]? = some oi) (hd : oi.dst = d)
    (hs : Region.noSelect ops = true) (hf : Region.free .any ops listed i = true) (hr : (Region.ready .any ops listed).contains i = true)
    (hQ : ∀ c a w, Q (.panic c) (a.put d v) w → Q (.panic c) a w) (hy : YieldsIf Try.prog ops S oi v a) (hS : S w)
    (h : wpAnyH Try.prog .any ops Q S fuel (listed.setIfInBounds i true) (a.put d v) w) : wpAnyH Try.prog .any ops Q S (fuel + 1) listed a w := by
  subst hd
  exact wpAnyH_take hi hs hf hr hQ hy hS h
theorem step_appD {w : World} {ops : Array Oper} {o : Oper} {a : Act} {K : Act → World → Prop} {Q : Exit → Act → World → Prop} {E : Prop} (d : Option Nat) (hd : o.dst = d) (hgd : o.guard = none) (s x : Operand) (t e : TypeId) (size : Nat) (hT : AppT t e size)
    (ho : o.op = .call { callee := .builtin .append, args := #[s, x], argTypes := #[t, t] })
    (B : Nat) (v : Value) (n : Nat) (xs : List Value) (hs : a.eval s = v) (hown : RowO w B e size v n xs) (C : Nat) (u : Value) (m : Nat) (ys : List Value) (hx : a.eval x = u) (hu : RowO w C e size u m ys) (h1 : ∀ y ∈ ys, y.oneCell' = true) (hb : n + m ≤ 100000) (hB : B ≤ w.heap.size)
    (h : ∀ v' w', RowO w' B e size v' (n + m) (xs ++ ys) → w.grownBy w' v.ownBlock → (v'.ownBlock = v.ownBlock ∨ v'.ownBlock = some w.heap.size) → K (a.put d v') w') :
    if Region.wanted o (yielded ops a.tmps) = true then Oper.wp Try.prog o a w K Q else E := by
  subst hd
  exact step_appR (.tmp 0) _ rfl hgd s x t e size hT ho B v n xs hs hown C u m ys hx hu h1 hb hB h
abbrev SB (c : Nat) (x y : Int) (W : World) : Prop := W.cell? ⟨c, 0, none⟩ = some (.int .u8 x) ∧ W.cell? ⟨c, 1, none⟩ = some (.int .u8 y)
theorem Rk.vecX {B : Nat} {w W : World} {b : Nat} {lv v : Value} {ls : Fin 6 → Value} {q : Rs} (e : Fin 6) (V : List Int) (h : Rk B w b lv ls q) (hb : Below w.heap.size w W) (hr : RowO W w.heap.size 5 1 v V.length (uCs V)) : Rk B (W.setCell ⟨b, 1 + e.1, none⟩ v) b lv (upd ls e v) ⟨q.d, upd q.v e V⟩ := by
  have hk := (h.below hb)
  have hs : Apart (XB b) W (W.setCell ⟨b, 1 + e.1, none⟩ v) := Apart.at W b _ v rfl
  have hB : B ≤ w.heap.size := Nat.le_trans h.g (Nat.le_of_lt h.k.lt)
  have hkk := hk.k.set (1 + e.1) v
  rw [rCs_set] at hkk
  refine ⟨h.g, hkk, hk.l.stay hs (fun g hg i => ?_), fun f => ?_⟩
  · have i : g = b := i
    subst i
    exact hk.l.ne_cl hk.k (by decide) hg
  · by_cases hf : f = e
    · subst hf
      rw [upd_same]
      show RowO _ B _ 1 v (upd q.v f V f).length (uCs (upd q.v f V f))
      rw [upd_same]
      refine (hr.stay hs (fun g hg i => ?_)).base hB
      have i : g = b := i
      subst i
      exact hr.ne_cl hk.k (by decide) hg
    · rw [upd_other _ _ _ _ hf]
      show RowO _ B _ 1 (ls f) (upd q.v e V f).length (uCs (upd q.v e V f))
      rw [upd_other _ _ _ _ hf]
      refine (hk.v f).stay hs (fun g hg i => ?_)
      have i : g = b := i
      subst i
      exact (hk.v f).ne_cl hk.k (by decide) hg
/-- As the loop goes: what is out, what is left, which are laid into the vectors. -/
structure RDI (B : Nat) (w wr : World) (b : Nat) (lv : Value) (ls : Fin 6 → Value) (q : Rs) (To Tl Tv : List Dm) (s5 s6 : Value) : Prop where
  k : ∃ ls', Rk B wr b lv ls' ⟨q.d, layV Tv q.v⟩ ∧ ∀ k, YK b lv ls' k → YK b lv ls k ∨ w.heap.size ≤ k
  ap : Apart (XB b) w wr
  o : RowO wr w.heap.size 39 3 s5 To.length (aCs To)
  l : RowO wr w.heap.size 39 3 s6 Tl.length (aCs Tl)
  ne : ∀ g, s5.ownBlock = some g → s6.ownBlock ≠ some g
  lb : b < w.heap.size
  ll : ∀ g, lv.ownBlock = some g → g < w.heap.size
theorem RDI.below {B : Nat} {w wr W : World} {b : Nat} {lv s5 s6 : Value} {ls : Fin 6 → Value} {q : Rs} {To Tl Tv : List Dm} (h : RDI B w wr b lv ls q To Tl Tv s5 s6) (k : Below wr.heap.size wr W) : RDI B w W b lv ls q To Tl Tv s5 s6 := by
  obtain ⟨ls', h1, h2⟩ := h.k
  exact ⟨⟨ls', h1.below k, h2⟩, h.ap.trans (Apart.of_below k), h.o.below k, h.l.below k, h.ne, h.lb, h.ll⟩
theorem Rk.grown {B C : Nat} {wr W : World} {b : Nat} {lv s : Value} {ls : Fin 6 → Value} {q : Rs} {n : Nat} {xs : List Value} (h1 : Rk B wr b lv ls q) (ll : ∀ g, lv.ownBlock = some g → g < C) (hb : b < C) (ho : RowO wr C 39 3 s n xs) (hg : wr.grownBy W s.ownBlock) : Rk B W b lv ls q := by
  have hA : Apart (fun k => some k = s.ownBlock) wr W := Apart.of_grown hg (fun k _ e => e)
  refine h1.stay hA (fun i e i2 => ?_)
  have e2 := (ho.lt i e.symm).1
  rcases i2 with i2 | i2 | ⟨f, i2⟩
  · omega
  · have := ll i i2
    omega
  · exact ho.ne_row (h1.v f) (by decide) e.symm i2
theorem RDI.addO {B : Nat} {w wr W : World} {b : Nat} {lv s5 s6 : Value} {ls : Fin 6 → Value} {q : Rs} {To Tl Tv : List Dm} {v' : Value} (d : Dm) (h : RDI B w wr b lv ls q To Tl Tv s5 s6) (hg : wr.grownBy W s5.ownBlock) (hr : RowO W w.heap.size 39 3 v' (To.length + 1) (aCs To ++ [.int .u8 d.1, .int .u8 d.2.1, .int .i64 d.2.2])) (ha : v'.ownBlock = s5.ownBlock ∨ v'.ownBlock = some wr.heap.size) : RDI B w W b lv ls q (To ++ [d]) Tl Tv v' s6 := by
  obtain ⟨ls', h1, h2⟩ := h.k
  have hA : Apart (fun k => some k = s5.ownBlock) wr W := Apart.of_grown hg (fun k _ e => e)
  refine ⟨⟨ls', h1.grown h.ll h.lb h.o hg, h2⟩, h.ap.then hA (fun i hi e => ?_), ?_, h.l.stay hA (fun g h5 e => h.ne g e.symm h5), fun g e e2 => ?_, h.lb, h.ll⟩
  · have := (h.o.lt i e.symm).1
    omega
  · rw [aCs_append, List.length_append]
    exact hr
  · rcases ha with ha | ha
    · exact h.ne g (ha.symm.trans e) e2
    · rw [ha] at e
      have := Option.some.inj e
      have := (h.l.lt g e2).2
      omega
theorem RDI.addL {B : Nat} {w wr W : World} {b : Nat} {lv s5 s6 : Value} {ls : Fin 6 → Value} {q : Rs} {To Tl Tv : List Dm} {v' : Value} (d : Dm) (h : RDI B w wr b lv ls q To Tl Tv s5 s6) (hg : wr.grownBy W s6.ownBlock) (hr : RowO W w.heap.size 39 3 v' (Tl.length + 1) (aCs Tl ++ [.int .u8 d.1, .int .u8 d.2.1, .int .i64 d.2.2])) (ha : v'.ownBlock = s6.ownBlock ∨ v'.ownBlock = some wr.heap.size) : RDI B w W b lv ls q To (Tl ++ [d]) Tv s5 v' := by
  obtain ⟨ls', h1, h2⟩ := h.k
  have hA : Apart (fun k => some k = s6.ownBlock) wr W := Apart.of_grown hg (fun k _ e => e)
  refine ⟨⟨ls', h1.grown h.ll h.lb h.l hg, h2⟩, h.ap.then hA (fun i hi e => ?_), h.o.stay hA (fun g h5 e => h.ne g h5 e.symm), ?_, fun g e e2 => ?_, h.lb, h.ll⟩
  · have := (h.l.lt i e.symm).1
    omega
  · rw [aCs_append, List.length_append]
    exact hr
  · rcases ha with ha | ha
    · exact h.ne g e (ha.symm.trans e2)
    · rw [ha] at e2
      have := Option.some.inj e2
      have := (h.o.lt g e).2
      omega
theorem RDI.addV {B : Nat} {w wr W : World} {b : Nat} {lv s5 s6 : Value} {ls : Fin 6 → Value} {q : Rs} {To Tl Tv : List Dm} {v : Value} (d : Dm) (k : Nat) (hk : k < 6) (hd : d.1 = k) (h : RDI B w wr b lv ls q To Tl Tv s5 s6) (hb : Below wr.heap.size wr W) (hr : RowO W wr.heap.size 5 1 v (layV Tv q.v ⟨k, hk⟩ ++ [d.2.1]).length (uCs (layV Tv q.v ⟨k, hk⟩ ++ [d.2.1]))) : RDI B w (W.setCell ⟨b, 1 + k, none⟩ v) b lv ls q To Tl (Tv ++ [d]) s5 s6 := by
  obtain ⟨ls', h1, h2⟩ := h.k
  have hA : Apart (XB b) W (W.setCell ⟨b, 1 + k, none⟩ v) := Apart.at W b _ v rfl
  have hw := h.ap.size
  have hlb := h.lb
  refine ⟨⟨upd ls' ⟨k, hk⟩ v, ?_, fun i e => ?_⟩, (h.ap.trans (Apart.of_below hb)).trans hA, (h.o.below hb).stay hA (fun g hg e => ?_), (h.l.below hb).stay hA (fun g hg e => ?_), h.ne, h.lb, h.ll⟩
  · rw [layV_snoc _ _ _ k hk hd]
    exact h1.vecX ⟨k, hk⟩ _ hb hr
  · rcases e with e | e | ⟨f, e⟩
    · exact .inl (.inl e)
    · exact .inl (.inr (.inl e))
    · by_cases hf : f = ⟨k, hk⟩
      · rw [hf, upd_same] at e
        have := (hr.lt i e).1
        exact .inr (by omega)
      · rw [upd_other _ _ _ _ hf] at e
        exact h2 i (.inr (.inr ⟨f, e⟩))
  · have := (h.o.lt g hg).1
    have e : g = b := e
    omega
  · have := (h.l.lt g hg).1
    have e : g = b := e
    omega
theorem RDI.done {B : Nat} {w wr : World} {b : Nat} {lv s5 s6 : Value} {ls : Fin 6 → Value} {q : Rs} {To Tl Tv : List Dm} (h : RDI B w wr b lv ls q To Tl Tv s5 s6) : RStp B w (wr.setCell ⟨b, 0, none⟩ s6) b lv ls ⟨Tl, layV Tv q.v⟩ ∧ RowO (wr.setCell ⟨b, 0, none⟩ s6) w.heap.size 39 3 s5 To.length (aCs To) := by
  obtain ⟨ls', h1, h2⟩ := h.k
  have hA : Apart (XB b) wr (wr.setCell ⟨b, 0, none⟩ s6) := Apart.at wr b 0 s6 rfl
  have hlb := h.lb
  have hB : B ≤ w.heap.size := Nat.le_trans h1.g (by omega)
  refine ⟨⟨s6, ls', ⟨h1.g, h1.k.set 0 s6, (h.l.stay hA (fun g hg e => ?_)).base hB, fun f => (h1.v f).stay hA (fun g hg i => ?_)⟩, h.ap.trans hA, fun k i => ?_⟩, h.o.stay hA (fun g hg e => ?_)⟩
  · have := (h.l.lt g hg).1
    have e : g = b := e
    omega
  · have i : g = b := i
    subst i
    exact (h1.v f).ne_cl h1.k (by decide) hg
  · rcases i with i | i | i
    · exact .inl (.inl i)
    · exact .inr (h.l.lt k i).1
    · exact h2 k (.inr (.inr i))
  · have := (h.o.lt g hg).1
    have e : g = b := e
    omega
set_option maxHeartbeats 8000000 in
theorem rdue_any (B b : Nat) (lv : Value) (ls : Fin 6 → Value) (q : Rs) (N : Nat) (t : Int) (w : World) (h : Rk B w b lv ls q) (hO : q.Ok N) (hN : N ≤ 900) : Calls Try.prog 45 #[.pointer (some ⟨b, 0, none⟩), .int .i64 t] w fun e w' => ∃ r, e = .returned r ∧ RowO w' w.heap.size 39 3 r (dueL t q).length (aCs (dueL t q)) ∧ RStp B w w' b lv ls (dueQ t q) := by
  have hfew := hO.few
  have H0 : Hid3 (RDI B w w b lv ls q [] [] [] (.slice none 0 0) (.slice none 0 0)) := ⟨⟨⟨ls, by rw [layV_nil]; exact h, fun _ e => .inl e⟩, Apart.refl _ _, RowO.nil _ _ _ _, RowO.nil _ _ _ _, (fun g e => by cases e), h.k.lt, fun g hg => (h.l.lt g hg).2⟩⟩
  have HO := Hid3.mk hO
  have HN := Hid3.mk hN
  obtain ⟨a0, cap0, rfl⟩ := h.l.sl
  have hbl := h.c.l
  clear h hO hN
  go_enter Try.func45, Try.ntmps45
  go_wp2
  go_loopw [5, 6, 7, 8] (fun s5 s6 s7 _ wr => ∃ kk : Nat, kk ≤ q.d.length ∧ s7 = .int .i64 kk ∧ Hid3 (RDI B w wr b (.slice a0 q.d.length cap0) ls q ((q.d.take kk).filter (dueP t)) ((q.d.take kk).filter (fun d => !dueP t d)) ((q.d.take kk).filter (dueP t)) s5 s6)) (fun _ _ s7 _ _ => q.d.length - (intOf s7).toNat)
  case atStart => exact ⟨0, Nat.zero_le _, rfl, H0⟩
  case round =>
    obtain ⟨kk, hkk, rfl, HI⟩ := hrel
    clear H0
    obtain ⟨ls1, hk1, hk2⟩ := HI.out.k
    have c0 := hk1.c.c0
    have hblW := hk1.c.l
    obtain ⟨a5, c5, rfl⟩ := HI.out.o.sl
    obtain ⟨a6, c6, rfl⟩ := HI.out.l.sl
    by_cases hlt : kk < q.d.length
    · have hltz : (kk : Int) < (q.d.length : Int) := by omega
      obtain ⟨g, off, rfl, hg, k0, k1, k2⟩ := Row3.at hk1.l kk hlt
      have hcnt : ((q.d.take kk).filter (dueP t)).length ≤ 8 := Nat.le_trans (List.length_filter_le _ _) (by rw [List.length_take]; omega)
      have hcnt2 : ((q.d.take kk).filter (fun d => !dueP t d)).length ≤ 8 := Nat.le_trans (List.length_filter_le _ _) (by rw [List.length_take]; omega)
      have hrg := HO.out.rng _ (List.getElem_mem hlt)
      obtain ⟨k, hk⟩ : ∃ k : Nat, q.d[kk].1 = k := ⟨q.d[kk].1.toNat, by have := hrg.1; omega⟩
      have hk6 : k < 6 := by have := hrg.2.1; omega
      have hk7 : (k : Int) < 6 := by omega
      have hX1 := below_new wr (.cells #[.int .u8 (k : Int), .int .u8 q.d[kk].2.1, .int .i64 q.d[kk].2.2] 39)
      have hI1 := HI.out.below hX1
      have hbx := Cl.new wr 39 [.int .u8 (k : Int), .int .u8 q.d[kk].2.1, .int .i64 q.d[kk].2.2]
      have hX2 := below_new (wr.alloc (.cells #[.int .u8 (k : Int), .int .u8 q.d[kk].2.1, .int .i64 q.d[kk].2.2] 39)) (.cells #[.int .u8 (k : Int), .int .u8 q.d[kk].2.1, .int .i64 q.d[kk].2.2] 39)
      have hI2 := hI1.below hX2
      have hbx2 := hbx.below hX2
      have hlit := row_lit (wr.alloc (.cells #[.int .u8 (k : Int), .int .u8 q.d[kk].2.1, .int .i64 q.d[kk].2.2] 39)) 39 3 w.heap.size 1 [.int .u8 (k : Int), .int .u8 q.d[kk].2.1, .int .i64 q.d[kk].2.2] hI1.ap.size rfl (by omega)
      rw [World.size_alloc] at hlit
      rw [hk] at k0
      by_cases hdue : q.d[kk].2.2 ≤ t
      · have hp : dueP t q.d[kk] = true := decide_eq_true hdue
        have hdz : ¬ t < q.d[kk].2.2 := by omega
        have HT : Hid3 ((q.d.take (kk + 1)).filter (dueP t) = ((q.d.take kk).filter (dueP t)) ++ [q.d[kk]] ∧ (q.d.take (kk + 1)).filter (fun d => !dueP t d) = ((q.d.take kk).filter (fun d => !dueP t d))) := ⟨by rw [filter_take hlt, if_pos hp], by rw [filter_take hlt, if_neg (by simp [hp]), List.append_nil]⟩
        have HV : Hid3 (∀ V0 v5, ((wr.alloc (.cells #[.int .u8 (k : Int), .int .u8 q.d[kk].2.1, .int .i64 q.d[kk].2.2] 39)).alloc (.cells #[.int .u8 (k : Int), .int .u8 q.d[kk].2.1, .int .i64 q.d[kk].2.2] 39)).grownBy V0 (Value.ownBlock (.slice a5 ((q.d.take kk).filter (dueP t)).length c5)) → RowO V0 w.heap.size 39 3 v5 (((q.d.take kk).filter (dueP t)).length + 1) (aCs ((q.d.take kk).filter (dueP t)) ++ [.int .u8 (k : Int), .int .u8 q.d[kk].2.1, .int .i64 q.d[kk].2.2]) → (v5.ownBlock = Value.ownBlock (.slice a5 ((q.d.take kk).filter (dueP t)).length c5) ∨ v5.ownBlock = some ((wr.alloc (.cells #[.int .u8 (k : Int), .int .u8 q.d[kk].2.1, .int .i64 q.d[kk].2.2] 39)).alloc (.cells #[.int .u8 (k : Int), .int .u8 q.d[kk].2.1, .int .i64 q.d[kk].2.2] 39)).heap.size) → RDI B w V0 b (.slice (some ⟨g, off, none⟩) q.d.length cap0) ls q (((q.d.take kk).filter (dueP t)) ++ [q.d[kk]]) ((q.d.take kk).filter (fun d => !dueP t d)) ((q.d.take kk).filter (dueP t)) v5 (.slice a6 ((q.d.take kk).filter (fun d => !dueP t d)).length c6) ∧ Cl V0 wr.heap.size 39 [.int .u8 (k : Int), .int .u8 q.d[kk].2.1, .int .i64 q.d[kk].2.2]) := ⟨fun V0 v5 g1 g2 g3 => by
          rw [← hk] at g1 g2 g3 hI2 hbx2 ⊢
          refine ⟨hI2.addO q.d[kk] g1 g2 g3, hbx2.stay (Apart.of_grown (X := fun i => some i = Value.ownBlock (.slice a5 ((q.d.take kk).filter (dueP t)).length c5)) g1 (fun i _ e => e)) (fun e => ?_)⟩
          have := (HI.out.o.lt _ e.symm).2
          omega⟩
        have HY : Hid3 (∀ V0 v5, RDI B w V0 b (.slice (some ⟨g, off, none⟩) q.d.length cap0) ls q (((q.d.take kk).filter (dueP t)) ++ [q.d[kk]]) ((q.d.take kk).filter (fun d => !dueP t d)) ((q.d.take kk).filter (dueP t)) v5 (.slice a6 ((q.d.take kk).filter (fun d => !dueP t d)).length c6) → ∃ V aL nL capL ls2, nL = V.length ∧ nL ≤ 950 ∧ ls2 ⟨k, hk6⟩ = .slice aL nL capL ∧ Rk B V0 b (.slice (some ⟨g, off, none⟩) q.d.length cap0) ls2 ⟨q.d, layV ((q.d.take kk).filter (dueP t)) q.v⟩ ∧ RowO V0 B 5 1 (.slice aL nL capL) nL (uCs V) ∧ ∀ vb Wb, Below V0.heap.size V0 Wb → RowO Wb V0.heap.size 5 1 vb (0 + nL + 1) ([] ++ uCs V ++ [.int .u8 q.d[kk].2.1]) → RDI B w (Wb.setCell ⟨b, 1 + k, none⟩ vb) b (.slice (some ⟨g, off, none⟩) q.d.length cap0) ls q (((q.d.take kk).filter (dueP t)) ++ [q.d[kk]]) ((q.d.take kk).filter (fun d => !dueP t d)) (((q.d.take kk).filter (dueP t)) ++ [q.d[kk]]) v5 (.slice a6 ((q.d.take kk).filter (fun d => !dueP t d)).length c6)) := ⟨fun V0 v5 hI => by
          obtain ⟨ls2, r1, r2⟩ := hI.k
          have rv : RowO V0 B 5 1 (ls2 ⟨k, hk6⟩) (layV ((q.d.take kk).filter (dueP t)) q.v ⟨k, hk6⟩).length (uCs (layV ((q.d.take kk).filter (dueP t)) q.v ⟨k, hk6⟩)) := r1.v ⟨k, hk6⟩
          obtain ⟨aL, capL, e⟩ := rv.sl
          have hll := layV_len ((q.d.take kk).filter (dueP t)) q.v ⟨k, hk6⟩
          have hlv := HO.out.vec ⟨k, hk6⟩
          have hn9 := HN.out
          refine ⟨layV ((q.d.take kk).filter (dueP t)) q.v ⟨k, hk6⟩, aL, _, capL, ls2, rfl, by omega, e, r1, by rw [← e]; exact rv, fun vb Wb hb hr => hI.addV q.d[kk] k hk6 hk hb ?_⟩
          rw [uCs_append, List.length_append]
          rw [Nat.zero_add, List.nil_append] at hr
          exact hr⟩
        clear hX1 hI1 hX2 hp hdue hbx hrg hk1 hk2 HI
        have HQ1 := Hid3.mk hI2.o
        have HQ2 := Hid3.mk hI2.ap.size
        have HM := Hid3.mk hlit
        have HLD := Hid3.mk hk
        clear hI2 hbx2 hlit hk
        generalize ((q.d.take kk).filter (dueP t)) = TO at *
        generalize ((q.d.take kk).filter (fun d => !dueP t d)) = TL at *
        generalize q.d[kk] = dd at *
        generalize dd.2.1 = y at *
        generalize dd.2.2 = z at *
        go_wp2_with (at_builtin; refine wpList_appR rfl _ _ 35 39 3 appA rfl w.heap.size _ TO.length (aCs TO) rfl HQ1.out w.heap.size _ 1 [.int .u8 (k : Int), .int .u8 y, .int .i64 z] rfl HM.out (by simp [Value.oneCell']) (by omega) HQ2.out ?_; intro v5 V0 hown4 hgrow hat; obtain ⟨hI4, hbx4⟩ := HV.out V0 v5 hgrow hown4 hat; clear hown4 hgrow hat)
        obtain ⟨V, aL, nL, capL, ls2, hnL, hnL9, hls2, r1, rv, HFm⟩ := HY.out V0 v5 hI4
        have HF := Hid3.mk HFm
        have hwk : wr.heap.size < V0.heap.size := hbx4.lt
        have c1 := r1.c.cv ⟨k, hk6⟩
        rw [hls2] at c1
        simp only at c1
        have f1 := r1.c.f (1 + k)
        have hbV := r1.c.l
        have y0 : V0.cell? ⟨wr.heap.size, 0, none⟩ = some (.int .u8 (k : Int)) := hbx4.cell 0
        have y1 : V0.cell? ⟨wr.heap.size, 1, none⟩ = some (.int .u8 y) := hbx4.cell 1
        have HC : Hid3 (∀ W, Below V0.heap.size V0 W → W.cell? ⟨b, 1 + k, none⟩ = some (.slice aL nL capL) ∧ W.frozen? ⟨b, 1 + k, none⟩ = false ∧ b < W.heap.size ∧ W.cell? ⟨wr.heap.size, 0, none⟩ = some (.int .u8 (k : Int)) ∧ W.cell? ⟨wr.heap.size, 1, none⟩ = some (.int .u8 y) ∧ wr.heap.size < W.heap.size) := ⟨fun W hb => ⟨(hb.cell hbV).trans c1, (hb.frozen hbV).trans f1, Nat.lt_of_lt_of_le hbV hb.size, (hbx4.below hb).cell 0, (hbx4.below hb).cell 1, (hbx4.below hb).lt⟩⟩
        have hX1 := below_newd V0 (.cells #[] 5)
        have hX2 : Below V0.heap.size V0 ((V0.alloc (.cells #[] 5)).alloc (.cells #[.int .u8 y] 5)).drew := (((Below.refl _ V0).alloc (Nat.le_refl _) _).alloc (by simp) _).drew
        have hX3 : Below V0.heap.size V0 ((V0.alloc (.cells #[.int .u8 y] 5)).alloc (.cells #[] 5)).drew := (((Below.refl _ V0).alloc (Nat.le_refl _) _).alloc (by simp) _).drew
        have HX1 := Hid3.mk hX1
        have HX2 := Hid3.mk hX2
        have HX3 := Hid3.mk hX3
        have H01 : Hid3 (RowO (V0.alloc (.cells #[] 5)).drew V0.heap.size 5 1 (.slice (some ⟨V0.heap.size, 0, none⟩) 0 0) 0 []) := ⟨(row_none V0 5 1 V0.heap.size (Nat.le_refl _)).below (below_drew _)⟩
        have H02 : Hid3 (RowO ((V0.alloc (.cells #[] 5)).alloc (.cells #[.int .u8 y] 5)).drew V0.heap.size 5 1 (.slice (some ⟨V0.heap.size, 0, none⟩) 0 0) 0 []) := ⟨((row_none V0 5 1 V0.heap.size (Nat.le_refl _)).below (below_new _ _)).below (below_drew _)⟩
        have H03 : Hid3 (RowO ((V0.alloc (.cells #[.int .u8 y] 5)).alloc (.cells #[] 5)).drew V0.heap.size 5 1 (.slice (some ⟨V0.heap.size + 1, 0, none⟩) 0 0) 0 []) := ⟨by
          have := row_none (V0.alloc (.cells #[.int .u8 y] 5)) 5 1 V0.heap.size (by simp)
          rw [World.size_alloc] at this
          exact this.below (below_drew _)⟩
        have HM2 : Hid3 (RowO ((V0.alloc (.cells #[] 5)).alloc (.cells #[.int .u8 y] 5)).drew V0.heap.size 5 1 (.slice (some ⟨V0.heap.size + 1, 0, none⟩) 1 1) 1 [.int .u8 y]) := ⟨by
          have := row_lit (V0.alloc (.cells #[] 5)) 5 1 V0.heap.size 1 [.int .u8 y] (by simp) rfl (by omega)
          rw [World.size_alloc] at this
          exact this.below (below_drew _)⟩
        have HM3 : Hid3 (RowO ((V0.alloc (.cells #[.int .u8 y] 5)).alloc (.cells #[] 5)).drew V0.heap.size 5 1 (.slice (some ⟨V0.heap.size, 0, none⟩) 1 1) 1 [.int .u8 y]) := ⟨((row_lit V0 5 1 V0.heap.size 1 [.int .u8 y] (Nat.le_refl _) rfl (by omega)).below (below_new _ _)).below (below_drew _)⟩
        have H11 := Hid3.mk (rv.below hX1)
        have H12 := Hid3.mk (rv.below hX2)
        have H13 := Hid3.mk (rv.below hX3)
        clear hX1 hX2 hX3 rv r1 HFm hI4 hbx4 HV HY hls2 HQ1 HQ2 HM hnL HLD
        have hwrb : wr.heap.size ≠ b := by omega
        have hS0 : Hid3 (SB wr.heap.size k y V0.drew) := ⟨y0, y1⟩
        have hS1 : Hid3 (SB wr.heap.size k y (V0.alloc (.cells #[] 5)).drew) := ⟨(HC.out _ HX1.out).2.2.2.1, (HC.out _ HX1.out).2.2.2.2.1⟩
        have hS2 : Hid3 (SB wr.heap.size k y ((V0.alloc (.cells #[] 5)).alloc (.cells #[.int .u8 y] 5)).drew) := ⟨(HC.out _ HX2.out).2.2.2.1, (HC.out _ HX2.out).2.2.2.2.1⟩
        have hS3 : Hid3 (SB wr.heap.size k y ((V0.alloc (.cells #[.int .u8 y] 5)).alloc (.cells #[] 5)).drew) := ⟨(HC.out _ HX3.out).2.2.2.1, (HC.out _ HX3.out).2.2.2.2.1⟩
        have hS4 : Hid3 (SB wr.heap.size k y (V0.alloc (.cells #[.int .u8 y] 5)).drew) := ⟨(HC.out _ (below_newd V0 (.cells #[.int .u8 y] 5))).2.2.2.1, (HC.out _ (below_newd V0 (.cells #[.int .u8 y] 5))).2.2.2.2.1⟩
        refine wp_region_held_drew (S := (fun w' => w'.cell? ⟨wr.heap.size, 0, none⟩ = some (.int .u8 (k : Int)) ∧ w'.cell? ⟨wr.heap.size, 1, none⟩ = some (.int .u8 y))) (by kernel_rfl) hS0.out (fun hHeld => ?_)
        refine takeD (i := 0) (v := ?v0) (some 41) rfl rfl (by kernel_rfl) (by kernel_rfl) (by kernel_rfl) (fun _ _ _ h => h) (Or.inl ⟨by rfl, ?hy0⟩) (by assumption) ?_
        case hy0 => (intro w' hSw; (try dsimp only at hSw); go_simp; try (with_reducible rfl))
        simp only [Act.put, List.setIfInBounds_toArray, List.set_cons_zero, List.set_cons_succ]
        refine takeD (i := 1) (v := ?v1) (some 42) rfl rfl (by kernel_rfl) (by kernel_rfl) (by kernel_rfl) (fun _ _ _ h => h) (Or.inl ⟨by rfl, ?hy1⟩) (by assumption) ?_
        case hy1 => (intro w' hSw; (try dsimp only at hSw); go_simp; try (with_reducible rfl))
        simp only [Act.put, List.setIfInBounds_toArray, List.set_cons_zero, List.set_cons_succ]
        refine takeD (i := 2) (v := ?v2) (some 43) rfl rfl (by kernel_rfl) (by kernel_rfl) (by kernel_rfl) (fun _ _ _ h => h) (Or.inl ⟨by rfl, ?hy2⟩) (by assumption) ?_
        case hy2 => (intro w' hSw; (try dsimp only at hSw); go_simp; try (with_reducible rfl))
        simp only [Act.put, List.setIfInBounds_toArray, List.set_cons_zero, List.set_cons_succ]
        refine takeD (i := 4) (v := ?v4) (some 45) rfl rfl (by kernel_rfl) (by kernel_rfl) (by kernel_rfl) (fun _ _ _ h => h) (Or.inl ⟨by rfl, ?hy4⟩) (by assumption) ?_
        case hy4 => (intro w' hSw; (try dsimp only at hSw); go_simp; try (with_reducible rfl))
        simp only [Act.put, List.setIfInBounds_toArray, List.set_cons_zero, List.set_cons_succ]
        refine takeD (i := 5) (v := ?v5) (some 46) rfl rfl (by kernel_rfl) (by kernel_rfl) (by kernel_rfl) (fun _ _ _ h => h) (Or.inl ⟨by rfl, ?hy5⟩) (by assumption) ?_
        case hy5 => (intro w' hSw; (try dsimp only at hSw); go_simp; try (with_reducible rfl))
        simp only [Act.put, List.setIfInBounds_toArray, List.set_cons_zero, List.set_cons_succ]
        refine takeD (i := 6) (v := ?v6) (some 47) rfl rfl (by kernel_rfl) (by kernel_rfl) (by kernel_rfl) (fun _ _ _ h => h) (Or.inl ⟨by rfl, ?hy6⟩) (by assumption) ?_
        case hy6 => (intro w' hSw; (try dsimp only at hSw); go_simp; try (with_reducible rfl))
        simp only [Act.put, List.setIfInBounds_toArray, List.set_cons_zero, List.set_cons_succ]
        refine takeD (i := 7) (v := ?v7) (some 48) rfl rfl (by kernel_rfl) (by kernel_rfl) (by kernel_rfl) (fun _ _ _ h => h) (Or.inl ⟨by rfl, ?hy7⟩) (by assumption) ?_
        case hy7 => (intro w' hSw; (try dsimp only at hSw); go_simp; try (with_reducible rfl))
        simp only [Act.put, List.setIfInBounds_toArray, List.set_cons_zero, List.set_cons_succ]
        refine takeD (i := 8) (v := ?v8) (some 49) rfl rfl (by kernel_rfl) (by kernel_rfl) (by kernel_rfl) (fun _ _ _ h => h) (Or.inl ⟨by rfl, ?hy8⟩) (by assumption) ?_
        case hy8 => (intro w' hSw; (try dsimp only at hSw); go_simp; try (with_reducible rfl))
        simp only [Act.put, List.setIfInBounds_toArray, List.set_cons_zero, List.set_cons_succ]
        refine takeD (i := 9) (v := ?v9) (some 50) rfl rfl (by kernel_rfl) (by kernel_rfl) (by kernel_rfl) (fun _ _ _ h => h) (Or.inl ⟨by rfl, ?hy9⟩) (by assumption) ?_
        case hy9 => (intro w' hSw; (try dsimp only at hSw); go_simp; try (with_reducible rfl))
        simp only [Act.put, List.setIfInBounds_toArray, List.set_cons_zero, List.set_cons_succ]
        refine takeD (i := 12) (v := ?v12) (some 53) rfl rfl (by kernel_rfl) (by kernel_rfl) (by kernel_rfl) (fun _ _ _ h => h) (Or.inl ⟨by rfl, ?hy12⟩) (by assumption) ?_
        case hy12 => (intro w' hSw; (try dsimp only at hSw); go_simp; try (with_reducible rfl))
        simp only [Act.put, List.setIfInBounds_toArray, List.set_cons_zero, List.set_cons_succ]
        refine takeD (i := 13) (v := ?v13) (some 54) rfl rfl (by kernel_rfl) (by kernel_rfl) (by kernel_rfl) (fun _ _ _ h => h) (Or.inl ⟨by rfl, ?hy13⟩) (by assumption) ?_
        case hy13 => (intro w' hSw; (try dsimp only at hSw); go_simp; try (with_reducible rfl))
        simp only [Act.put, List.setIfInBounds_toArray, List.set_cons_zero, List.set_cons_succ]
        refine takeD (i := 16) (v := ?v16) (some 57) rfl rfl (by kernel_rfl) (by kernel_rfl) (by kernel_rfl) (fun _ _ _ h => h) (Or.inl ⟨by rfl, ?hy16⟩) (by assumption) ?_
        case hy16 => (intro w' hSw; (try dsimp only at hSw); go_simp; try (with_reducible rfl))
        simp only [Act.put, List.setIfInBounds_toArray, List.set_cons_zero, List.set_cons_succ]
        refine takeD (i := 17) (v := ?v17) (some 58) rfl rfl (by kernel_rfl) (by kernel_rfl) (by kernel_rfl) (fun _ _ _ h => h) (Or.inl ⟨by rfl, ?hy17⟩) (by assumption) ?_
        case hy17 => (intro w' hSw; (try dsimp only at hSw); go_simp; try (with_reducible rfl))
        simp only [Act.put, List.setIfInBounds_toArray, List.set_cons_zero, List.set_cons_succ]
        refine wpAnyH_ready (rs := [3, 10, 14]) (by kernel_rfl) (by simp) ?_
        refine AllReadyH.cons rfl (fun K hK => ?_) ?_
        · go_simp
          refine hK.out _ _ hS1.out (fun hHeld2 => ?_)
          clear hK K hHeld
          have hHeld := hHeld2
          clear hHeld2
          try simp only [Act.put, List.setIfInBounds_toArray, List.set_cons_zero, List.set_cons_succ]
          refine wpAnyH_ready (rs := [10, 14]) (by kernel_rfl) (by simp) ?_
          refine AllReadyH.cons rfl (fun K hK => ?_) ?_
          · go_simp
            refine hK.out _ _ hS1.out (fun hHeld2 => ?_)
            clear hK K hHeld
            have hHeld := hHeld2
            clear hHeld2
            try simp only [Act.put, List.setIfInBounds_toArray, List.set_cons_zero, List.set_cons_succ]
            refine wpAnyH_ready (rs := [11, 14]) (by kernel_rfl) (by simp) ?_
            refine AllReadyH.cons rfl (fun K hK => ?_) ?_
            · refine step_appD (some 52) rfl (by rfl) _ _ 43 5 1 app8 (by rfl) V0.heap.size (.slice (some ⟨V0.heap.size, 0, none⟩) 0 0) 0 [] (by rfl) (by exact H01.out) B (.slice aL nL capL) nL (uCs V) (by rfl) (by exact H11.out) (by exact uCs_one _) (by omega) (by exact HX1.out.size) ?_; intro va Wa owna growa ata; have HBa := Hid3.mk (below_grown (B := B) HX1.out H01.out growa); have HOa := Hid3.mk owna; have hSa : Hid3 (SB wr.heap.size k y Wa) := ⟨(HC.out Wa HBa.out).2.2.2.1, (HC.out Wa HBa.out).2.2.2.2.1⟩; have hSa1 : Hid3 (SB wr.heap.size k y (Wa.alloc (.cells #[.int .u8 y] 5))) := ⟨(HC.out _ (HBa.out.trans ((below_new Wa (.cells #[.int .u8 y] 5)).mono HBa.out.size))).2.2.2.1, (HC.out _ (HBa.out.trans ((below_new Wa (.cells #[.int .u8 y] 5)).mono HBa.out.size))).2.2.2.2.1⟩; clear owna growa ata
              refine hK.out _ _ hSa.out (fun hHeld2 => ?_)
              clear hK K hHeld
              have hHeld := hHeld2
              clear hHeld2
              simp only [Act.put, List.setIfInBounds_toArray, List.set_cons_zero, List.set_cons_succ]
              refine wpAnyH_ready (rs := [14]) (by kernel_rfl) (by simp) ?_
              refine AllReadyH.cons rfl (fun K hK => ?_) ?_
              · go_simp
                refine hK.out _ _ hSa1.out (fun hHeld2 => ?_)
                clear hK K hHeld
                have hHeld := hHeld2
                clear hHeld2
                try simp only [Act.put, List.setIfInBounds_toArray, List.set_cons_zero, List.set_cons_succ]
                refine wpAnyH_ready (rs := [15]) (by kernel_rfl) (by simp) ?_
                refine AllReadyH.cons rfl (fun K hK => ?_) ?_
                · refine step_appD (some 56) rfl (by rfl) _ _ 43 5 1 app8 (by rfl) V0.heap.size va (0 + nL) ([] ++ uCs V) (by rfl) (by exact HOa.out.below (below_new Wa (.cells #[.int .u8 y] 5))) V0.heap.size _ 1 [.int .u8 y] (by rfl) (by exact row_lit Wa 5 1 V0.heap.size 1 [.int .u8 y] HBa.out.size rfl (by omega)) (by simp [Value.oneCell']) (by omega) (by exact Nat.le_trans HBa.out.size (below_new Wa (.cells #[.int .u8 y] 5)).size) ?_; intro vb Wb ownb growb atb; have hbb := below_grown (B := B) (HBa.out.trans ((below_new Wa (.cells #[.int .u8 y] 5)).mono HBa.out.size)) (HOa.out.below (below_new Wa (.cells #[.int .u8 y] 5))) growb; obtain ⟨p0, p1, p2, p3, p4, p5⟩ := HC.out Wb hbb; obtain ⟨a2, k2, e2⟩ := ownb.sl; subst e2; have hSb : Hid3 (SB wr.heap.size k y Wb) := ⟨p3, p4⟩; have hSc : Hid3 (SB wr.heap.size k y (Wb.setCell ⟨b, 1 + k, none⟩ (.slice a2 (nL + 1) k2))) := ⟨(World.cell?_of_block (Below.heap_setCell Wb ⟨b, 1 + k, none⟩ _ wr.heap.size hwrb)).trans p3, (World.cell?_of_block (Below.heap_setCell Wb ⟨b, 1 + k, none⟩ _ wr.heap.size hwrb)).trans p4⟩; clear p3 p4; have HF2 := Hid3.mk (HF.out _ Wb hbb ownb); clear ownb growb atb hbb
                  refine hK.out _ _ hSb.out (fun hHeld2 => ?_)
                  clear hK K hHeld
                  have hHeld := hHeld2
                  clear hHeld2
                  simp only [Act.put, List.setIfInBounds_toArray, List.set_cons_zero, List.set_cons_succ]
                  refine takeD (i := 18) (v := ?v18) (some 59) rfl rfl (by kernel_rfl) (by kernel_rfl) (by kernel_rfl) (fun _ _ _ h => h) (Or.inl ⟨by rfl, ?hy18⟩) (by assumption) ?_
                  case hy18 => (intro w' hSw; (try dsimp only at hSw); go_simp; try (with_reducible rfl))
                  simp only [Act.put, List.setIfInBounds_toArray, List.set_cons_zero, List.set_cons_succ]
                  refine wpAnyH_ready (rs := [19]) (by kernel_rfl) (by simp) ?_
                  refine AllReadyH.cons rfl (fun K hK => ?_) ?_
                  · go_simp
                    refine hK.out _ _ hSc.out (fun hHeld2 => ?_)
                    clear hK K hHeld
                    have hHeld := hHeld2
                    clear hHeld2
                    try simp only [Act.put, List.setIfInBounds_toArray, List.set_cons_zero, List.set_cons_succ]
                    refine wpAnyH_done (by kernel_rfl) ?_ _
                    go_wp2
                    go_roundw
                    case rel => exact ⟨kk + 1, by omega, by go_num, ⟨by rw [HT.out.1, HT.out.2]; have hfin := HF2.out; simp only [Nat.zero_add] at hfin; exact hfin⟩⟩
                    case measure => simp [intOf]; omega
                  exact AllReadyH.nil
                exact AllReadyH.nil
              exact AllReadyH.nil
            refine AllReadyH.cons rfl (fun K hK => ?_) ?_
            · go_simp
              refine hK.out _ _ hS2.out (fun hHeld2 => ?_)
              clear hK K hHeld
              have hHeld := hHeld2
              clear hHeld2
              try simp only [Act.put, List.setIfInBounds_toArray, List.set_cons_zero, List.set_cons_succ]
              refine wpAnyH_ready (rs := [11]) (by kernel_rfl) (by simp) ?_
              refine AllReadyH.cons rfl (fun K hK => ?_) ?_
              · refine step_appD (some 52) rfl (by rfl) _ _ 43 5 1 app8 (by rfl) V0.heap.size (.slice (some ⟨V0.heap.size, 0, none⟩) 0 0) 0 [] (by rfl) (by exact H02.out) B (.slice aL nL capL) nL (uCs V) (by rfl) (by exact H12.out) (by exact uCs_one _) (by omega) (by exact HX2.out.size) ?_; intro va Wa owna growa ata; have HBa := Hid3.mk (below_grown (B := B) HX2.out H02.out growa); have HOa := Hid3.mk owna; have hSa : Hid3 (SB wr.heap.size k y Wa) := ⟨(HC.out Wa HBa.out).2.2.2.1, (HC.out Wa HBa.out).2.2.2.2.1⟩; have hSa1 : Hid3 (SB wr.heap.size k y (Wa.alloc (.cells #[.int .u8 y] 5))) := ⟨(HC.out _ (HBa.out.trans ((below_new Wa (.cells #[.int .u8 y] 5)).mono HBa.out.size))).2.2.2.1, (HC.out _ (HBa.out.trans ((below_new Wa (.cells #[.int .u8 y] 5)).mono HBa.out.size))).2.2.2.2.1⟩; have HMa := Hid3.mk (HM2.out.stay (Apart.of_grown (X := fun i => some i = Value.ownBlock (.slice (some ⟨V0.heap.size, 0, none⟩) 0 0)) growa (fun i _ e => e)) (fun g hg e => by { have e2 : V0.heap.size + 1 = g := Option.some.inj hg; have e3 : g = V0.heap.size := Option.some.inj e; omega })); clear owna growa ata
                refine hK.out _ _ hSa.out (fun hHeld2 => ?_)
                clear hK K hHeld
                have hHeld := hHeld2
                clear hHeld2
                simp only [Act.put, List.setIfInBounds_toArray, List.set_cons_zero, List.set_cons_succ]
                refine wpAnyH_ready (rs := [15]) (by kernel_rfl) (by simp) ?_
                refine AllReadyH.cons rfl (fun K hK => ?_) ?_
                · refine step_appD (some 56) rfl (by rfl) _ _ 43 5 1 app8 (by rfl) V0.heap.size va (0 + nL) ([] ++ uCs V) (by rfl) (by exact HOa.out) V0.heap.size _ 1 [.int .u8 y] (by rfl) (by exact HMa.out) (by simp [Value.oneCell']) (by omega) (by exact HBa.out.size) ?_; intro vb Wb ownb growb atb; have hbb := below_grown (B := B) HBa.out HOa.out growb; obtain ⟨p0, p1, p2, p3, p4, p5⟩ := HC.out Wb hbb; obtain ⟨a2, k2, e2⟩ := ownb.sl; subst e2; have hSb : Hid3 (SB wr.heap.size k y Wb) := ⟨p3, p4⟩; have hSc : Hid3 (SB wr.heap.size k y (Wb.setCell ⟨b, 1 + k, none⟩ (.slice a2 (nL + 1) k2))) := ⟨(World.cell?_of_block (Below.heap_setCell Wb ⟨b, 1 + k, none⟩ _ wr.heap.size hwrb)).trans p3, (World.cell?_of_block (Below.heap_setCell Wb ⟨b, 1 + k, none⟩ _ wr.heap.size hwrb)).trans p4⟩; clear p3 p4; have HF2 := Hid3.mk (HF.out _ Wb hbb ownb); clear ownb growb atb hbb
                  refine hK.out _ _ hSb.out (fun hHeld2 => ?_)
                  clear hK K hHeld
                  have hHeld := hHeld2
                  clear hHeld2
                  simp only [Act.put, List.setIfInBounds_toArray, List.set_cons_zero, List.set_cons_succ]
                  refine takeD (i := 18) (v := ?v18) (some 59) rfl rfl (by kernel_rfl) (by kernel_rfl) (by kernel_rfl) (fun _ _ _ h => h) (Or.inl ⟨by rfl, ?hy18⟩) (by assumption) ?_
                  case hy18 => (intro w' hSw; (try dsimp only at hSw); go_simp; try (with_reducible rfl))
                  simp only [Act.put, List.setIfInBounds_toArray, List.set_cons_zero, List.set_cons_succ]
                  refine wpAnyH_ready (rs := [19]) (by kernel_rfl) (by simp) ?_
                  refine AllReadyH.cons rfl (fun K hK => ?_) ?_
                  · go_simp
                    refine hK.out _ _ hSc.out (fun hHeld2 => ?_)
                    clear hK K hHeld
                    have hHeld := hHeld2
                    clear hHeld2
                    try simp only [Act.put, List.setIfInBounds_toArray, List.set_cons_zero, List.set_cons_succ]
                    refine wpAnyH_done (by kernel_rfl) ?_ _
                    go_wp2
                    go_roundw
                    case rel => exact ⟨kk + 1, by omega, by go_num, ⟨by rw [HT.out.1, HT.out.2]; have hfin := HF2.out; simp only [Nat.zero_add] at hfin; exact hfin⟩⟩
                    case measure => simp [intOf]; omega
                  exact AllReadyH.nil
                exact AllReadyH.nil
              exact AllReadyH.nil
            exact AllReadyH.nil
          refine AllReadyH.cons rfl (fun K hK => ?_) ?_
          · go_simp
            refine hK.out _ _ hS2.out (fun hHeld2 => ?_)
            clear hK K hHeld
            have hHeld := hHeld2
            clear hHeld2
            try simp only [Act.put, List.setIfInBounds_toArray, List.set_cons_zero, List.set_cons_succ]
            refine wpAnyH_ready (rs := [10]) (by kernel_rfl) (by simp) ?_
            refine AllReadyH.cons rfl (fun K hK => ?_) ?_
            · go_simp
              refine hK.out _ _ hS2.out (fun hHeld2 => ?_)
              clear hK K hHeld
              have hHeld := hHeld2
              clear hHeld2
              try simp only [Act.put, List.setIfInBounds_toArray, List.set_cons_zero, List.set_cons_succ]
              refine wpAnyH_ready (rs := [11]) (by kernel_rfl) (by simp) ?_
              refine AllReadyH.cons rfl (fun K hK => ?_) ?_
              · refine step_appD (some 52) rfl (by rfl) _ _ 43 5 1 app8 (by rfl) V0.heap.size (.slice (some ⟨V0.heap.size, 0, none⟩) 0 0) 0 [] (by rfl) (by exact H02.out) B (.slice aL nL capL) nL (uCs V) (by rfl) (by exact H12.out) (by exact uCs_one _) (by omega) (by exact HX2.out.size) ?_; intro va Wa owna growa ata; have HBa := Hid3.mk (below_grown (B := B) HX2.out H02.out growa); have HOa := Hid3.mk owna; have hSa : Hid3 (SB wr.heap.size k y Wa) := ⟨(HC.out Wa HBa.out).2.2.2.1, (HC.out Wa HBa.out).2.2.2.2.1⟩; have hSa1 : Hid3 (SB wr.heap.size k y (Wa.alloc (.cells #[.int .u8 y] 5))) := ⟨(HC.out _ (HBa.out.trans ((below_new Wa (.cells #[.int .u8 y] 5)).mono HBa.out.size))).2.2.2.1, (HC.out _ (HBa.out.trans ((below_new Wa (.cells #[.int .u8 y] 5)).mono HBa.out.size))).2.2.2.2.1⟩; have HMa := Hid3.mk (HM2.out.stay (Apart.of_grown (X := fun i => some i = Value.ownBlock (.slice (some ⟨V0.heap.size, 0, none⟩) 0 0)) growa (fun i _ e => e)) (fun g hg e => by { have e2 : V0.heap.size + 1 = g := Option.some.inj hg; have e3 : g = V0.heap.size := Option.some.inj e; omega })); clear owna growa ata
                refine hK.out _ _ hSa.out (fun hHeld2 => ?_)
                clear hK K hHeld
                have hHeld := hHeld2
                clear hHeld2
                simp only [Act.put, List.setIfInBounds_toArray, List.set_cons_zero, List.set_cons_succ]
                refine wpAnyH_ready (rs := [15]) (by kernel_rfl) (by simp) ?_
                refine AllReadyH.cons rfl (fun K hK => ?_) ?_
                · refine step_appD (some 56) rfl (by rfl) _ _ 43 5 1 app8 (by rfl) V0.heap.size va (0 + nL) ([] ++ uCs V) (by rfl) (by exact HOa.out) V0.heap.size _ 1 [.int .u8 y] (by rfl) (by exact HMa.out) (by simp [Value.oneCell']) (by omega) (by exact HBa.out.size) ?_; intro vb Wb ownb growb atb; have hbb := below_grown (B := B) HBa.out HOa.out growb; obtain ⟨p0, p1, p2, p3, p4, p5⟩ := HC.out Wb hbb; obtain ⟨a2, k2, e2⟩ := ownb.sl; subst e2; have hSb : Hid3 (SB wr.heap.size k y Wb) := ⟨p3, p4⟩; have hSc : Hid3 (SB wr.heap.size k y (Wb.setCell ⟨b, 1 + k, none⟩ (.slice a2 (nL + 1) k2))) := ⟨(World.cell?_of_block (Below.heap_setCell Wb ⟨b, 1 + k, none⟩ _ wr.heap.size hwrb)).trans p3, (World.cell?_of_block (Below.heap_setCell Wb ⟨b, 1 + k, none⟩ _ wr.heap.size hwrb)).trans p4⟩; clear p3 p4; have HF2 := Hid3.mk (HF.out _ Wb hbb ownb); clear ownb growb atb hbb
                  refine hK.out _ _ hSb.out (fun hHeld2 => ?_)
                  clear hK K hHeld
                  have hHeld := hHeld2
                  clear hHeld2
                  simp only [Act.put, List.setIfInBounds_toArray, List.set_cons_zero, List.set_cons_succ]
                  refine takeD (i := 18) (v := ?v18) (some 59) rfl rfl (by kernel_rfl) (by kernel_rfl) (by kernel_rfl) (fun _ _ _ h => h) (Or.inl ⟨by rfl, ?hy18⟩) (by assumption) ?_
                  case hy18 => (intro w' hSw; (try dsimp only at hSw); go_simp; try (with_reducible rfl))
                  simp only [Act.put, List.setIfInBounds_toArray, List.set_cons_zero, List.set_cons_succ]
                  refine wpAnyH_ready (rs := [19]) (by kernel_rfl) (by simp) ?_
                  refine AllReadyH.cons rfl (fun K hK => ?_) ?_
                  · go_simp
                    refine hK.out _ _ hSc.out (fun hHeld2 => ?_)
                    clear hK K hHeld
                    have hHeld := hHeld2
                    clear hHeld2
                    try simp only [Act.put, List.setIfInBounds_toArray, List.set_cons_zero, List.set_cons_succ]
                    refine wpAnyH_done (by kernel_rfl) ?_ _
                    go_wp2
                    go_roundw
                    case rel => exact ⟨kk + 1, by omega, by go_num, ⟨by rw [HT.out.1, HT.out.2]; have hfin := HF2.out; simp only [Nat.zero_add] at hfin; exact hfin⟩⟩
                    case measure => simp [intOf]; omega
                  exact AllReadyH.nil
                exact AllReadyH.nil
              exact AllReadyH.nil
            exact AllReadyH.nil
          exact AllReadyH.nil
        refine AllReadyH.cons rfl (fun K hK => ?_) ?_
        · go_simp
          refine hK.out _ _ hS0.out (fun hHeld2 => ?_)
          clear hK K hHeld
          have hHeld := hHeld2
          clear hHeld2
          try simp only [Act.put, List.setIfInBounds_toArray, List.set_cons_zero, List.set_cons_succ]
          refine wpAnyH_ready (rs := [3, 14]) (by kernel_rfl) (by simp) ?_
          refine AllReadyH.cons rfl (fun K hK => ?_) ?_
          · go_simp
            refine hK.out _ _ hS1.out (fun hHeld2 => ?_)
            clear hK K hHeld
            have hHeld := hHeld2
            clear hHeld2
            try simp only [Act.put, List.setIfInBounds_toArray, List.set_cons_zero, List.set_cons_succ]
            refine wpAnyH_ready (rs := [11, 14]) (by kernel_rfl) (by simp) ?_
            refine AllReadyH.cons rfl (fun K hK => ?_) ?_
            · refine step_appD (some 52) rfl (by rfl) _ _ 43 5 1 app8 (by rfl) V0.heap.size (.slice (some ⟨V0.heap.size, 0, none⟩) 0 0) 0 [] (by rfl) (by exact H01.out) B (.slice aL nL capL) nL (uCs V) (by rfl) (by exact H11.out) (by exact uCs_one _) (by omega) (by exact HX1.out.size) ?_; intro va Wa owna growa ata; have HBa := Hid3.mk (below_grown (B := B) HX1.out H01.out growa); have HOa := Hid3.mk owna; have hSa : Hid3 (SB wr.heap.size k y Wa) := ⟨(HC.out Wa HBa.out).2.2.2.1, (HC.out Wa HBa.out).2.2.2.2.1⟩; have hSa1 : Hid3 (SB wr.heap.size k y (Wa.alloc (.cells #[.int .u8 y] 5))) := ⟨(HC.out _ (HBa.out.trans ((below_new Wa (.cells #[.int .u8 y] 5)).mono HBa.out.size))).2.2.2.1, (HC.out _ (HBa.out.trans ((below_new Wa (.cells #[.int .u8 y] 5)).mono HBa.out.size))).2.2.2.2.1⟩; clear owna growa ata
              refine hK.out _ _ hSa.out (fun hHeld2 => ?_)
              clear hK K hHeld
              have hHeld := hHeld2
              clear hHeld2
              simp only [Act.put, List.setIfInBounds_toArray, List.set_cons_zero, List.set_cons_succ]
              refine wpAnyH_ready (rs := [14]) (by kernel_rfl) (by simp) ?_
              refine AllReadyH.cons rfl (fun K hK => ?_) ?_
              · go_simp
                refine hK.out _ _ hSa1.out (fun hHeld2 => ?_)
                clear hK K hHeld
                have hHeld := hHeld2
                clear hHeld2
                try simp only [Act.put, List.setIfInBounds_toArray, List.set_cons_zero, List.set_cons_succ]
                refine wpAnyH_ready (rs := [15]) (by kernel_rfl) (by simp) ?_
                refine AllReadyH.cons rfl (fun K hK => ?_) ?_
                · refine step_appD (some 56) rfl (by rfl) _ _ 43 5 1 app8 (by rfl) V0.heap.size va (0 + nL) ([] ++ uCs V) (by rfl) (by exact HOa.out.below (below_new Wa (.cells #[.int .u8 y] 5))) V0.heap.size _ 1 [.int .u8 y] (by rfl) (by exact row_lit Wa 5 1 V0.heap.size 1 [.int .u8 y] HBa.out.size rfl (by omega)) (by simp [Value.oneCell']) (by omega) (by exact Nat.le_trans HBa.out.size (below_new Wa (.cells #[.int .u8 y] 5)).size) ?_; intro vb Wb ownb growb atb; have hbb := below_grown (B := B) (HBa.out.trans ((below_new Wa (.cells #[.int .u8 y] 5)).mono HBa.out.size)) (HOa.out.below (below_new Wa (.cells #[.int .u8 y] 5))) growb; obtain ⟨p0, p1, p2, p3, p4, p5⟩ := HC.out Wb hbb; obtain ⟨a2, k2, e2⟩ := ownb.sl; subst e2; have hSb : Hid3 (SB wr.heap.size k y Wb) := ⟨p3, p4⟩; have hSc : Hid3 (SB wr.heap.size k y (Wb.setCell ⟨b, 1 + k, none⟩ (.slice a2 (nL + 1) k2))) := ⟨(World.cell?_of_block (Below.heap_setCell Wb ⟨b, 1 + k, none⟩ _ wr.heap.size hwrb)).trans p3, (World.cell?_of_block (Below.heap_setCell Wb ⟨b, 1 + k, none⟩ _ wr.heap.size hwrb)).trans p4⟩; clear p3 p4; have HF2 := Hid3.mk (HF.out _ Wb hbb ownb); clear ownb growb atb hbb
                  refine hK.out _ _ hSb.out (fun hHeld2 => ?_)
                  clear hK K hHeld
                  have hHeld := hHeld2
                  clear hHeld2
                  simp only [Act.put, List.setIfInBounds_toArray, List.set_cons_zero, List.set_cons_succ]
                  refine takeD (i := 18) (v := ?v18) (some 59) rfl rfl (by kernel_rfl) (by kernel_rfl) (by kernel_rfl) (fun _ _ _ h => h) (Or.inl ⟨by rfl, ?hy18⟩) (by assumption) ?_
                  case hy18 => (intro w' hSw; (try dsimp only at hSw); go_simp; try (with_reducible rfl))
                  simp only [Act.put, List.setIfInBounds_toArray, List.set_cons_zero, List.set_cons_succ]
                  refine wpAnyH_ready (rs := [19]) (by kernel_rfl) (by simp) ?_
                  refine AllReadyH.cons rfl (fun K hK => ?_) ?_
                  · go_simp
                    refine hK.out _ _ hSc.out (fun hHeld2 => ?_)
                    clear hK K hHeld
                    have hHeld := hHeld2
                    clear hHeld2
                    try simp only [Act.put, List.setIfInBounds_toArray, List.set_cons_zero, List.set_cons_succ]
                    refine wpAnyH_done (by kernel_rfl) ?_ _
                    go_wp2
                    go_roundw
                    case rel => exact ⟨kk + 1, by omega, by go_num, ⟨by rw [HT.out.1, HT.out.2]; have hfin := HF2.out; simp only [Nat.zero_add] at hfin; exact hfin⟩⟩
                    case measure => simp [intOf]; omega
                  exact AllReadyH.nil
                exact AllReadyH.nil
              exact AllReadyH.nil
            refine AllReadyH.cons rfl (fun K hK => ?_) ?_
            · go_simp
              refine hK.out _ _ hS2.out (fun hHeld2 => ?_)
              clear hK K hHeld
              have hHeld := hHeld2
              clear hHeld2
              try simp only [Act.put, List.setIfInBounds_toArray, List.set_cons_zero, List.set_cons_succ]
              refine wpAnyH_ready (rs := [11]) (by kernel_rfl) (by simp) ?_
              refine AllReadyH.cons rfl (fun K hK => ?_) ?_
              · refine step_appD (some 52) rfl (by rfl) _ _ 43 5 1 app8 (by rfl) V0.heap.size (.slice (some ⟨V0.heap.size, 0, none⟩) 0 0) 0 [] (by rfl) (by exact H02.out) B (.slice aL nL capL) nL (uCs V) (by rfl) (by exact H12.out) (by exact uCs_one _) (by omega) (by exact HX2.out.size) ?_; intro va Wa owna growa ata; have HBa := Hid3.mk (below_grown (B := B) HX2.out H02.out growa); have HOa := Hid3.mk owna; have hSa : Hid3 (SB wr.heap.size k y Wa) := ⟨(HC.out Wa HBa.out).2.2.2.1, (HC.out Wa HBa.out).2.2.2.2.1⟩; have hSa1 : Hid3 (SB wr.heap.size k y (Wa.alloc (.cells #[.int .u8 y] 5))) := ⟨(HC.out _ (HBa.out.trans ((below_new Wa (.cells #[.int .u8 y] 5)).mono HBa.out.size))).2.2.2.1, (HC.out _ (HBa.out.trans ((below_new Wa (.cells #[.int .u8 y] 5)).mono HBa.out.size))).2.2.2.2.1⟩; have HMa := Hid3.mk (HM2.out.stay (Apart.of_grown (X := fun i => some i = Value.ownBlock (.slice (some ⟨V0.heap.size, 0, none⟩) 0 0)) growa (fun i _ e => e)) (fun g hg e => by { have e2 : V0.heap.size + 1 = g := Option.some.inj hg; have e3 : g = V0.heap.size := Option.some.inj e; omega })); clear owna growa ata
                refine hK.out _ _ hSa.out (fun hHeld2 => ?_)
                clear hK K hHeld
                have hHeld := hHeld2
                clear hHeld2
                simp only [Act.put, List.setIfInBounds_toArray, List.set_cons_zero, List.set_cons_succ]
                refine wpAnyH_ready (rs := [15]) (by kernel_rfl) (by simp) ?_
                refine AllReadyH.cons rfl (fun K hK => ?_) ?_
                · refine step_appD (some 56) rfl (by rfl) _ _ 43 5 1 app8 (by rfl) V0.heap.size va (0 + nL) ([] ++ uCs V) (by rfl) (by exact HOa.out) V0.heap.size _ 1 [.int .u8 y] (by rfl) (by exact HMa.out) (by simp [Value.oneCell']) (by omega) (by exact HBa.out.size) ?_; intro vb Wb ownb growb atb; have hbb := below_grown (B := B) HBa.out HOa.out growb; obtain ⟨p0, p1, p2, p3, p4, p5⟩ := HC.out Wb hbb; obtain ⟨a2, k2, e2⟩ := ownb.sl; subst e2; have hSb : Hid3 (SB wr.heap.size k y Wb) := ⟨p3, p4⟩; have hSc : Hid3 (SB wr.heap.size k y (Wb.setCell ⟨b, 1 + k, none⟩ (.slice a2 (nL + 1) k2))) := ⟨(World.cell?_of_block (Below.heap_setCell Wb ⟨b, 1 + k, none⟩ _ wr.heap.size hwrb)).trans p3, (World.cell?_of_block (Below.heap_setCell Wb ⟨b, 1 + k, none⟩ _ wr.heap.size hwrb)).trans p4⟩; clear p3 p4; have HF2 := Hid3.mk (HF.out _ Wb hbb ownb); clear ownb growb atb hbb
                  refine hK.out _ _ hSb.out (fun hHeld2 => ?_)
                  clear hK K hHeld
                  have hHeld := hHeld2
                  clear hHeld2
                  simp only [Act.put, List.setIfInBounds_toArray, List.set_cons_zero, List.set_cons_succ]
                  refine takeD (i := 18) (v := ?v18) (some 59) rfl rfl (by kernel_rfl) (by kernel_rfl) (by kernel_rfl) (fun _ _ _ h => h) (Or.inl ⟨by rfl, ?hy18⟩) (by assumption) ?_
                  case hy18 => (intro w' hSw; (try dsimp only at hSw); go_simp; try (with_reducible rfl))
                  simp only [Act.put, List.setIfInBounds_toArray, List.set_cons_zero, List.set_cons_succ]
                  refine wpAnyH_ready (rs := [19]) (by kernel_rfl) (by simp) ?_
                  refine AllReadyH.cons rfl (fun K hK => ?_) ?_
                  · go_simp
                    refine hK.out _ _ hSc.out (fun hHeld2 => ?_)
                    clear hK K hHeld
                    have hHeld := hHeld2
                    clear hHeld2
                    try simp only [Act.put, List.setIfInBounds_toArray, List.set_cons_zero, List.set_cons_succ]
                    refine wpAnyH_done (by kernel_rfl) ?_ _
                    go_wp2
                    go_roundw
                    case rel => exact ⟨kk + 1, by omega, by go_num, ⟨by rw [HT.out.1, HT.out.2]; have hfin := HF2.out; simp only [Nat.zero_add] at hfin; exact hfin⟩⟩
                    case measure => simp [intOf]; omega
                  exact AllReadyH.nil
                exact AllReadyH.nil
              exact AllReadyH.nil
            exact AllReadyH.nil
          refine AllReadyH.cons rfl (fun K hK => ?_) ?_
          · go_simp
            refine hK.out _ _ hS4.out (fun hHeld2 => ?_)
            clear hK K hHeld
            have hHeld := hHeld2
            clear hHeld2
            try simp only [Act.put, List.setIfInBounds_toArray, List.set_cons_zero, List.set_cons_succ]
            refine wpAnyH_ready (rs := [3]) (by kernel_rfl) (by simp) ?_
            refine AllReadyH.cons rfl (fun K hK => ?_) ?_
            · go_simp
              refine hK.out _ _ hS3.out (fun hHeld2 => ?_)
              clear hK K hHeld
              have hHeld := hHeld2
              clear hHeld2
              try simp only [Act.put, List.setIfInBounds_toArray, List.set_cons_zero, List.set_cons_succ]
              refine wpAnyH_ready (rs := [11]) (by kernel_rfl) (by simp) ?_
              refine AllReadyH.cons rfl (fun K hK => ?_) ?_
              · refine step_appD (some 52) rfl (by rfl) _ _ 43 5 1 app8 (by rfl) V0.heap.size (.slice (some ⟨V0.heap.size + 1, 0, none⟩) 0 0) 0 [] (by rfl) (by exact H03.out) B (.slice aL nL capL) nL (uCs V) (by rfl) (by exact H13.out) (by exact uCs_one _) (by omega) (by exact HX3.out.size) ?_; intro va Wa owna growa ata; have HBa := Hid3.mk (below_grown (B := B) HX3.out H03.out growa); have HOa := Hid3.mk owna; have hSa : Hid3 (SB wr.heap.size k y Wa) := ⟨(HC.out Wa HBa.out).2.2.2.1, (HC.out Wa HBa.out).2.2.2.2.1⟩; have hSa1 : Hid3 (SB wr.heap.size k y (Wa.alloc (.cells #[.int .u8 y] 5))) := ⟨(HC.out _ (HBa.out.trans ((below_new Wa (.cells #[.int .u8 y] 5)).mono HBa.out.size))).2.2.2.1, (HC.out _ (HBa.out.trans ((below_new Wa (.cells #[.int .u8 y] 5)).mono HBa.out.size))).2.2.2.2.1⟩; have HMa := Hid3.mk (HM3.out.stay (Apart.of_grown (X := fun i => some i = Value.ownBlock (.slice (some ⟨V0.heap.size + 1, 0, none⟩) 0 0)) growa (fun i _ e => e)) (fun g hg e => by { have e2 : V0.heap.size = g := Option.some.inj hg; have e3 : g = V0.heap.size + 1 := Option.some.inj e; omega })); clear owna growa ata
                refine hK.out _ _ hSa.out (fun hHeld2 => ?_)
                clear hK K hHeld
                have hHeld := hHeld2
                clear hHeld2
                simp only [Act.put, List.setIfInBounds_toArray, List.set_cons_zero, List.set_cons_succ]
                refine wpAnyH_ready (rs := [15]) (by kernel_rfl) (by simp) ?_
                refine AllReadyH.cons rfl (fun K hK => ?_) ?_
                · refine step_appD (some 56) rfl (by rfl) _ _ 43 5 1 app8 (by rfl) V0.heap.size va (0 + nL) ([] ++ uCs V) (by rfl) (by exact HOa.out) V0.heap.size _ 1 [.int .u8 y] (by rfl) (by exact HMa.out) (by simp [Value.oneCell']) (by omega) (by exact HBa.out.size) ?_; intro vb Wb ownb growb atb; have hbb := below_grown (B := B) HBa.out HOa.out growb; obtain ⟨p0, p1, p2, p3, p4, p5⟩ := HC.out Wb hbb; obtain ⟨a2, k2, e2⟩ := ownb.sl; subst e2; have hSb : Hid3 (SB wr.heap.size k y Wb) := ⟨p3, p4⟩; have hSc : Hid3 (SB wr.heap.size k y (Wb.setCell ⟨b, 1 + k, none⟩ (.slice a2 (nL + 1) k2))) := ⟨(World.cell?_of_block (Below.heap_setCell Wb ⟨b, 1 + k, none⟩ _ wr.heap.size hwrb)).trans p3, (World.cell?_of_block (Below.heap_setCell Wb ⟨b, 1 + k, none⟩ _ wr.heap.size hwrb)).trans p4⟩; clear p3 p4; have HF2 := Hid3.mk (HF.out _ Wb hbb ownb); clear ownb growb atb hbb
                  refine hK.out _ _ hSb.out (fun hHeld2 => ?_)
                  clear hK K hHeld
                  have hHeld := hHeld2
                  clear hHeld2
                  simp only [Act.put, List.setIfInBounds_toArray, List.set_cons_zero, List.set_cons_succ]
                  refine takeD (i := 18) (v := ?v18) (some 59) rfl rfl (by kernel_rfl) (by kernel_rfl) (by kernel_rfl) (fun _ _ _ h => h) (Or.inl ⟨by rfl, ?hy18⟩) (by assumption) ?_
                  case hy18 => (intro w' hSw; (try dsimp only at hSw); go_simp; try (with_reducible rfl))
                  simp only [Act.put, List.setIfInBounds_toArray, List.set_cons_zero, List.set_cons_succ]
                  refine wpAnyH_ready (rs := [19]) (by kernel_rfl) (by simp) ?_
                  refine AllReadyH.cons rfl (fun K hK => ?_) ?_
                  · go_simp
                    refine hK.out _ _ hSc.out (fun hHeld2 => ?_)
                    clear hK K hHeld
                    have hHeld := hHeld2
                    clear hHeld2
                    try simp only [Act.put, List.setIfInBounds_toArray, List.set_cons_zero, List.set_cons_succ]
                    refine wpAnyH_done (by kernel_rfl) ?_ _
                    go_wp2
                    go_roundw
                    case rel => exact ⟨kk + 1, by omega, by go_num, ⟨by rw [HT.out.1, HT.out.2]; have hfin := HF2.out; simp only [Nat.zero_add] at hfin; exact hfin⟩⟩
                    case measure => simp [intOf]; omega
                  exact AllReadyH.nil
                exact AllReadyH.nil
              exact AllReadyH.nil
            exact AllReadyH.nil
          exact AllReadyH.nil
        refine AllReadyH.cons rfl (fun K hK => ?_) ?_
        · go_simp
          refine hK.out _ _ hS4.out (fun hHeld2 => ?_)
          clear hK K hHeld
          have hHeld := hHeld2
          clear hHeld2
          try simp only [Act.put, List.setIfInBounds_toArray, List.set_cons_zero, List.set_cons_succ]
          refine wpAnyH_ready (rs := [3, 10]) (by kernel_rfl) (by simp) ?_
          refine AllReadyH.cons rfl (fun K hK => ?_) ?_
          · go_simp
            refine hK.out _ _ hS3.out (fun hHeld2 => ?_)
            clear hK K hHeld
            have hHeld := hHeld2
            clear hHeld2
            try simp only [Act.put, List.setIfInBounds_toArray, List.set_cons_zero, List.set_cons_succ]
            refine wpAnyH_ready (rs := [10]) (by kernel_rfl) (by simp) ?_
            refine AllReadyH.cons rfl (fun K hK => ?_) ?_
            · go_simp
              refine hK.out _ _ hS3.out (fun hHeld2 => ?_)
              clear hK K hHeld
              have hHeld := hHeld2
              clear hHeld2
              try simp only [Act.put, List.setIfInBounds_toArray, List.set_cons_zero, List.set_cons_succ]
              refine wpAnyH_ready (rs := [11]) (by kernel_rfl) (by simp) ?_
              refine AllReadyH.cons rfl (fun K hK => ?_) ?_
              · refine step_appD (some 52) rfl (by rfl) _ _ 43 5 1 app8 (by rfl) V0.heap.size (.slice (some ⟨V0.heap.size + 1, 0, none⟩) 0 0) 0 [] (by rfl) (by exact H03.out) B (.slice aL nL capL) nL (uCs V) (by rfl) (by exact H13.out) (by exact uCs_one _) (by omega) (by exact HX3.out.size) ?_; intro va Wa owna growa ata; have HBa := Hid3.mk (below_grown (B := B) HX3.out H03.out growa); have HOa := Hid3.mk owna; have hSa : Hid3 (SB wr.heap.size k y Wa) := ⟨(HC.out Wa HBa.out).2.2.2.1, (HC.out Wa HBa.out).2.2.2.2.1⟩; have hSa1 : Hid3 (SB wr.heap.size k y (Wa.alloc (.cells #[.int .u8 y] 5))) := ⟨(HC.out _ (HBa.out.trans ((below_new Wa (.cells #[.int .u8 y] 5)).mono HBa.out.size))).2.2.2.1, (HC.out _ (HBa.out.trans ((below_new Wa (.cells #[.int .u8 y] 5)).mono HBa.out.size))).2.2.2.2.1⟩; have HMa := Hid3.mk (HM3.out.stay (Apart.of_grown (X := fun i => some i = Value.ownBlock (.slice (some ⟨V0.heap.size + 1, 0, none⟩) 0 0)) growa (fun i _ e => e)) (fun g hg e => by { have e2 : V0.heap.size = g := Option.some.inj hg; have e3 : g = V0.heap.size + 1 := Option.some.inj e; omega })); clear owna growa ata
                refine hK.out _ _ hSa.out (fun hHeld2 => ?_)
                clear hK K hHeld
                have hHeld := hHeld2
                clear hHeld2
                simp only [Act.put, List.setIfInBounds_toArray, List.set_cons_zero, List.set_cons_succ]
                refine wpAnyH_ready (rs := [15]) (by kernel_rfl) (by simp) ?_
                refine AllReadyH.cons rfl (fun K hK => ?_) ?_
                · refine step_appD (some 56) rfl (by rfl) _ _ 43 5 1 app8 (by rfl) V0.heap.size va (0 + nL) ([] ++ uCs V) (by rfl) (by exact HOa.out) V0.heap.size _ 1 [.int .u8 y] (by rfl) (by exact HMa.out) (by simp [Value.oneCell']) (by omega) (by exact HBa.out.size) ?_; intro vb Wb ownb growb atb; have hbb := below_grown (B := B) HBa.out HOa.out growb; obtain ⟨p0, p1, p2, p3, p4, p5⟩ := HC.out Wb hbb; obtain ⟨a2, k2, e2⟩ := ownb.sl; subst e2; have hSb : Hid3 (SB wr.heap.size k y Wb) := ⟨p3, p4⟩; have hSc : Hid3 (SB wr.heap.size k y (Wb.setCell ⟨b, 1 + k, none⟩ (.slice a2 (nL + 1) k2))) := ⟨(World.cell?_of_block (Below.heap_setCell Wb ⟨b, 1 + k, none⟩ _ wr.heap.size hwrb)).trans p3, (World.cell?_of_block (Below.heap_setCell Wb ⟨b, 1 + k, none⟩ _ wr.heap.size hwrb)).trans p4⟩; clear p3 p4; have HF2 := Hid3.mk (HF.out _ Wb hbb ownb); clear ownb growb atb hbb
                  refine hK.out _ _ hSb.out (fun hHeld2 => ?_)
                  clear hK K hHeld
                  have hHeld := hHeld2
                  clear hHeld2
                  simp only [Act.put, List.setIfInBounds_toArray, List.set_cons_zero, List.set_cons_succ]
                  refine takeD (i := 18) (v := ?v18) (some 59) rfl rfl (by kernel_rfl) (by kernel_rfl) (by kernel_rfl) (fun _ _ _ h => h) (Or.inl ⟨by rfl, ?hy18⟩) (by assumption) ?_
                  case hy18 => (intro w' hSw; (try dsimp only at hSw); go_simp; try (with_reducible rfl))
                  simp only [Act.put, List.setIfInBounds_toArray, List.set_cons_zero, List.set_cons_succ]
                  refine wpAnyH_ready (rs := [19]) (by kernel_rfl) (by simp) ?_
                  refine AllReadyH.cons rfl (fun K hK => ?_) ?_
                  · go_simp
                    refine hK.out _ _ hSc.out (fun hHeld2 => ?_)
                    clear hK K hHeld
                    have hHeld := hHeld2
                    clear hHeld2
                    try simp only [Act.put, List.setIfInBounds_toArray, List.set_cons_zero, List.set_cons_succ]
                    refine wpAnyH_done (by kernel_rfl) ?_ _
                    go_wp2
                    go_roundw
                    case rel => exact ⟨kk + 1, by omega, by go_num, ⟨by rw [HT.out.1, HT.out.2]; have hfin := HF2.out; simp only [Nat.zero_add] at hfin; exact hfin⟩⟩
                    case measure => simp [intOf]; omega
                  exact AllReadyH.nil
                exact AllReadyH.nil
              exact AllReadyH.nil
            exact AllReadyH.nil
          refine AllReadyH.cons rfl (fun K hK => ?_) ?_
          · go_simp
            refine hK.out _ _ hS4.out (fun hHeld2 => ?_)
            clear hK K hHeld
            have hHeld := hHeld2
            clear hHeld2
            try simp only [Act.put, List.setIfInBounds_toArray, List.set_cons_zero, List.set_cons_succ]
            refine wpAnyH_ready (rs := [3]) (by kernel_rfl) (by simp) ?_
            refine AllReadyH.cons rfl (fun K hK => ?_) ?_
            · go_simp
              refine hK.out _ _ hS3.out (fun hHeld2 => ?_)
              clear hK K hHeld
              have hHeld := hHeld2
              clear hHeld2
              try simp only [Act.put, List.setIfInBounds_toArray, List.set_cons_zero, List.set_cons_succ]
              refine wpAnyH_ready (rs := [11]) (by kernel_rfl) (by simp) ?_
              refine AllReadyH.cons rfl (fun K hK => ?_) ?_
              · refine step_appD (some 52) rfl (by rfl) _ _ 43 5 1 app8 (by rfl) V0.heap.size (.slice (some ⟨V0.heap.size + 1, 0, none⟩) 0 0) 0 [] (by rfl) (by exact H03.out) B (.slice aL nL capL) nL (uCs V) (by rfl) (by exact H13.out) (by exact uCs_one _) (by omega) (by exact HX3.out.size) ?_; intro va Wa owna growa ata; have HBa := Hid3.mk (below_grown (B := B) HX3.out H03.out growa); have HOa := Hid3.mk owna; have hSa : Hid3 (SB wr.heap.size k y Wa) := ⟨(HC.out Wa HBa.out).2.2.2.1, (HC.out Wa HBa.out).2.2.2.2.1⟩; have hSa1 : Hid3 (SB wr.heap.size k y (Wa.alloc (.cells #[.int .u8 y] 5))) := ⟨(HC.out _ (HBa.out.trans ((below_new Wa (.cells #[.int .u8 y] 5)).mono HBa.out.size))).2.2.2.1, (HC.out _ (HBa.out.trans ((below_new Wa (.cells #[.int .u8 y] 5)).mono HBa.out.size))).2.2.2.2.1⟩; have HMa := Hid3.mk (HM3.out.stay (Apart.of_grown (X := fun i => some i = Value.ownBlock (.slice (some ⟨V0.heap.size + 1, 0, none⟩) 0 0)) growa (fun i _ e => e)) (fun g hg e => by { have e2 : V0.heap.size = g := Option.some.inj hg; have e3 : g = V0.heap.size + 1 := Option.some.inj e; omega })); clear owna growa ata
                refine hK.out _ _ hSa.out (fun hHeld2 => ?_)
                clear hK K hHeld
                have hHeld := hHeld2
                clear hHeld2
                simp only [Act.put, List.setIfInBounds_toArray, List.set_cons_zero, List.set_cons_succ]
                refine wpAnyH_ready (rs := [15]) (by kernel_rfl) (by simp) ?_
                refine AllReadyH.cons rfl (fun K hK => ?_) ?_
                · refine step_appD (some 56) rfl (by rfl) _ _ 43 5 1 app8 (by rfl) V0.heap.size va (0 + nL) ([] ++ uCs V) (by rfl) (by exact HOa.out) V0.heap.size _ 1 [.int .u8 y] (by rfl) (by exact HMa.out) (by simp [Value.oneCell']) (by omega) (by exact HBa.out.size) ?_; intro vb Wb ownb growb atb; have hbb := below_grown (B := B) HBa.out HOa.out growb; obtain ⟨p0, p1, p2, p3, p4, p5⟩ := HC.out Wb hbb; obtain ⟨a2, k2, e2⟩ := ownb.sl; subst e2; have hSb : Hid3 (SB wr.heap.size k y Wb) := ⟨p3, p4⟩; have hSc : Hid3 (SB wr.heap.size k y (Wb.setCell ⟨b, 1 + k, none⟩ (.slice a2 (nL + 1) k2))) := ⟨(World.cell?_of_block (Below.heap_setCell Wb ⟨b, 1 + k, none⟩ _ wr.heap.size hwrb)).trans p3, (World.cell?_of_block (Below.heap_setCell Wb ⟨b, 1 + k, none⟩ _ wr.heap.size hwrb)).trans p4⟩; clear p3 p4; have HF2 := Hid3.mk (HF.out _ Wb hbb ownb); clear ownb growb atb hbb
                  refine hK.out _ _ hSb.out (fun hHeld2 => ?_)
                  clear hK K hHeld
                  have hHeld := hHeld2
                  clear hHeld2
                  simp only [Act.put, List.setIfInBounds_toArray, List.set_cons_zero, List.set_cons_succ]
                  refine takeD (i := 18) (v := ?v18) (some 59) rfl rfl (by kernel_rfl) (by kernel_rfl) (by kernel_rfl) (fun _ _ _ h => h) (Or.inl ⟨by rfl, ?hy18⟩) (by assumption) ?_
                  case hy18 => (intro w' hSw; (try dsimp only at hSw); go_simp; try (with_reducible rfl))
                  simp only [Act.put, List.setIfInBounds_toArray, List.set_cons_zero, List.set_cons_succ]
                  refine wpAnyH_ready (rs := [19]) (by kernel_rfl) (by simp) ?_
                  refine AllReadyH.cons rfl (fun K hK => ?_) ?_
                  · go_simp
                    refine hK.out _ _ hSc.out (fun hHeld2 => ?_)
                    clear hK K hHeld
                    have hHeld := hHeld2
                    clear hHeld2
                    try simp only [Act.put, List.setIfInBounds_toArray, List.set_cons_zero, List.set_cons_succ]
                    refine wpAnyH_done (by kernel_rfl) ?_ _
                    go_wp2
                    go_roundw
                    case rel => exact ⟨kk + 1, by omega, by go_num, ⟨by rw [HT.out.1, HT.out.2]; have hfin := HF2.out; simp only [Nat.zero_add] at hfin; exact hfin⟩⟩
                    case measure => simp [intOf]; omega
                  exact AllReadyH.nil
                exact AllReadyH.nil
              exact AllReadyH.nil
            exact AllReadyH.nil
          exact AllReadyH.nil
        exact AllReadyH.nil
      · have hp : dueP t q.d[kk] = false := decide_eq_false hdue
        have hdz : t < q.d[kk].2.2 := by omega
        have HT : Hid3 ((q.d.take (kk + 1)).filter (dueP t) = ((q.d.take kk).filter (dueP t)) ∧ (q.d.take (kk + 1)).filter (fun d => !dueP t d) = ((q.d.take kk).filter (fun d => !dueP t d)) ++ [q.d[kk]]) := ⟨by rw [filter_take hlt, if_neg (by simp [hp]), List.append_nil], by rw [filter_take hlt, if_pos (by simp [hp])]⟩
        have HV : Hid3 (∀ V0 v6, ((wr.alloc (.cells #[.int .u8 (k : Int), .int .u8 q.d[kk].2.1, .int .i64 q.d[kk].2.2] 39)).alloc (.cells #[.int .u8 (k : Int), .int .u8 q.d[kk].2.1, .int .i64 q.d[kk].2.2] 39)).grownBy V0 (Value.ownBlock (.slice a6 ((q.d.take kk).filter (fun d => !dueP t d)).length c6)) → RowO V0 w.heap.size 39 3 v6 (((q.d.take kk).filter (fun d => !dueP t d)).length + 1) (aCs ((q.d.take kk).filter (fun d => !dueP t d)) ++ [.int .u8 (k : Int), .int .u8 q.d[kk].2.1, .int .i64 q.d[kk].2.2]) → (v6.ownBlock = Value.ownBlock (.slice a6 ((q.d.take kk).filter (fun d => !dueP t d)).length c6) ∨ v6.ownBlock = some ((wr.alloc (.cells #[.int .u8 (k : Int), .int .u8 q.d[kk].2.1, .int .i64 q.d[kk].2.2] 39)).alloc (.cells #[.int .u8 (k : Int), .int .u8 q.d[kk].2.1, .int .i64 q.d[kk].2.2] 39)).heap.size) → RDI B w V0 b (.slice (some ⟨g, off, none⟩) q.d.length cap0) ls q ((q.d.take kk).filter (dueP t)) (((q.d.take kk).filter (fun d => !dueP t d)) ++ [q.d[kk]]) ((q.d.take kk).filter (dueP t)) (.slice a5 ((q.d.take kk).filter (dueP t)).length c5) v6) := ⟨fun V0 v6 g1 g2 g3 => by
          rw [← hk] at g1 g2 g3 hI2
          exact hI2.addL q.d[kk] g1 g2 g3⟩
        clear hX1 hI1 hX2 hp hdue hbx hrg hk1 hk2 HI hbx2
        have HQ1 := Hid3.mk hI2.l
        have HQ2 := Hid3.mk hI2.ap.size
        have HM := Hid3.mk hlit
        clear hI2 hlit hk
        generalize ((q.d.take kk).filter (dueP t)) = TO at *
        generalize ((q.d.take kk).filter (fun d => !dueP t d)) = TL at *
        generalize q.d[kk] = dd at *
        generalize dd.2.1 = y at *
        generalize dd.2.2 = z at *
        go_wp2_with (at_builtin; refine wpList_appR rfl _ _ 35 39 3 appA rfl w.heap.size _ TL.length (aCs TL) rfl HQ1.out w.heap.size _ 1 [.int .u8 (k : Int), .int .u8 y, .int .i64 z] rfl HM.out (by simp [Value.oneCell']) (by omega) HQ2.out ?_; intro v6 V0 hown4 hgrow hat; have H4 := Hid3.mk (HV.out V0 v6 hgrow hown4 hat); clear hown4 hgrow hat)
        go_roundw
        case rel => exact ⟨kk + 1, by omega, by go_num, ⟨by rw [HT.out.1, HT.out.2]; exact H4.out⟩⟩
        case measure => simp [intOf]; omega
    · have hltz : ¬ (kk : Int) < (q.d.length : Int) := by omega
      obtain rfl : kk = q.d.length := by omega
      have hfin := HI.out.done
      rw [List.take_length] at hfin
      have HF := Hid3.mk hfin
      have f0 := hk1.c.f 0
      rw [List.take_length] at *
      clear hfin HI hk1 hk2
      go_wp2
      go_ret
      exact ⟨_, rfl, HF.out.2, HF.out.1⟩
end Go.Proofs.Ytpmndhbcohjboaa
