/- The document's book: rows that are read; New, at, Open, Lost, Asked. -/
import Derived.Test.YtpmndhbcohjboaaRvM
namespace Go.Proofs.Ytpmndhbcohjboaa
open Go.RowKit Go.Maps
set_option linter.unusedVariables false
set_option maxRecDepth 100000
theorem run_app_none (w : World) (B : Nat) (t ty e : TypeId) (size : Nat) (hT : AppT t e size) (v : Value) (n : Nat) (xs : List Value) (hown : RowO w B e size v n xs) : (Builtin.append_ #[t, t] ty #[v, .slice none 0 0]).run Try.prog w = .ok v w := by
  obtain ⟨i, z, bytes, g1, g2, g3, g4, g5, g6, g7, g8⟩ := hT.out
  rcases hown.2 with ⟨rfl, rfl⟩ | ⟨g, off, cap, cur, rfl, hbg, hg, hnc, hcm, hcs, htake⟩
  · simp [Builtin.append_, run_underlying g1, sizeOf, typeInfo, g2, Builtin.lenOf, Builtin.firstCells]
  · simp [Builtin.append_, run_underlying g1, sizeOf, typeInfo, g2, Builtin.lenOf, Builtin.firstCells, hnc]
    rfl
theorem run_appR (w : World) (B : Nat) (t ty e : TypeId) (size : Nat) (hT : AppT t e size) (v : Value) (n : Nat) (xs : List Value) (hown : RowO w B e size v n xs) (C : Nat) (u : Value) (m : Nat) (ys : List Value) (hu : RowO w C e size u m ys) (h1 : ∀ y ∈ ys, y.oneCell' = true) (hb : n + m ≤ 100000) (hB : B ≤ w.heap.size) :
    ∃ v' w', (Builtin.append_ #[t, t] ty #[v, u]).run Try.prog w = .ok v' w' ∧ RowO w' B e size v' (n + m) (xs ++ ys) ∧ w.grownBy w' v.ownBlock ∧ (v'.ownBlock = v.ownBlock ∨ v'.ownBlock = some w.heap.size) := by
  rcases hu.form with ⟨rfl, rfl, rfl⟩ | ⟨g, off, cap, rfl, _, _, _, hc⟩
  · exact ⟨v, w, run_app_none w B t ty e size hT v n xs hown, by rw [List.append_nil]; exact hown, ⟨rfl, rfl, rfl, Nat.le_refl _, fun _ _ _ => rfl⟩, .inl rfl⟩
  · obtain ⟨i, z, bytes, g1, g2, g3, g4, g5, g6, g7, g8⟩ := hT.out
    have hby : (n + m) * bytes ≤ 140737488355328 := Nat.le_trans (Nat.mul_le_mul hb g8) (by omega)
    exact run_appO w B t ty e i z size bytes g1 g2 g3 g4 g5 g6 g7 v n xs hown ⟨g, off, none⟩ m cap ys hu.1 (fun j u hj => by rw [Addr.add_lit]; exact hc j u hj) h1 (by unfold maxLen; omega) hby hB
theorem wp_appR (w : World) {o : Oper} {a : Act} {K : Act → World → Prop} {Q : Exit → Act → World → Prop} (s x : Operand) (t e : TypeId) (size : Nat) (hT : AppT t e size)
    (ho : o.op = .call { callee := .builtin .append, args := #[s, x], argTypes := #[t, t] })
    (B : Nat) (v : Value) (n : Nat) (xs : List Value) (hs : a.eval s = v) (hown : RowO w B e size v n xs) (C : Nat) (u : Value) (m : Nat) (ys : List Value) (hx : a.eval x = u) (hu : RowO w C e size u m ys) (h1 : ∀ y ∈ ys, y.oneCell' = true) (hb : n + m ≤ 100000) (hB : B ≤ w.heap.size)
    (h : ∀ v' w', RowO w' B e size v' (n + m) (xs ++ ys) → w.grownBy w' v.ownBlock → (v'.ownBlock = v.ownBlock ∨ v'.ownBlock = some w.heap.size) → K (a.put o.dst v') w') : o.wp Try.prog a w K Q := by
  obtain ⟨v', w', hr, h2, h3, h4⟩ := run_appR w B t o.type e size hT v n xs hown C u m ys hu h1 hb hB
  unfold Oper.wp execOp
  simp only [ho, resolve, invoke, builtin, Sem.run_bind, Sem.run_pure, Result.andThen_ok, List.map_toArray, List.map_cons, List.map_nil, hs, hx, hr]
  exact h v' w' h2 h3 h4
theorem wpList_appR {w : World} {ops : Array Oper} {rest : List Oper} {o : Oper} {a : Act} {Q : Exit → Act → World → Prop} (hgd : o.guard = none) (s x : Operand) (t e : TypeId) (size : Nat) (hT : AppT t e size)
    (ho : o.op = .call { callee := .builtin .append, args := #[s, x], argTypes := #[t, t] })
    (B : Nat) (v : Value) (n : Nat) (xs : List Value) (hs : a.eval s = v) (hown : RowO w B e size v n xs) (C : Nat) (u : Value) (m : Nat) (ys : List Value) (hx : a.eval x = u) (hu : RowO w C e size u m ys) (h1 : ∀ y ∈ ys, y.oneCell' = true) (hb : n + m ≤ 100000) (hB : B ≤ w.heap.size)
    (h : ∀ v' w', RowO w' B e size v' (n + m) (xs ++ ys) → w.grownBy w' v.ownBlock → (v'.ownBlock = v.ownBlock ∨ v'.ownBlock = some w.heap.size) → wpList Try.prog ops Q rest (a.put o.dst v') w') : wpList Try.prog ops Q (o :: rest) a w :=
  wpList_plain hgd fun _ hK => wp_appR w s x t e size hT ho B v n xs hs hown C u m ys hx hu h1 hb hB fun v' w' h2 h3 h4 => hK _ _ (h v' w' h2 h3 h4)
theorem step_appR {w : World} {ops : Array Oper} {o : Oper} {a : Act} {K : Act → World → Prop} {Q : Exit → Act → World → Prop} {E : Prop} (fl : Operand) (fv : Value) (hfl : a.eval fl = fv) (hgd : o.guard = none) (s x : Operand) (t e : TypeId) (size : Nat) (hT : AppT t e size)
    (ho : o.op = .call { callee := .builtin .append, args := #[s, x], argTypes := #[t, t] })
    (B : Nat) (v : Value) (n : Nat) (xs : List Value) (hs : a.eval s = v) (hown : RowO w B e size v n xs) (C : Nat) (u : Value) (m : Nat) (ys : List Value) (hx : a.eval x = u) (hu : RowO w C e size u m ys) (h1 : ∀ y ∈ ys, y.oneCell' = true) (hb : n + m ≤ 100000) (hB : B ≤ w.heap.size)
    (h : ∀ v' w', RowO w' B e size v' (n + m) (xs ++ ys) → w.grownBy w' v.ownBlock → (v'.ownBlock = v.ownBlock ∨ v'.ownBlock = some w.heap.size) → K (a.put o.dst v') w') :
    if Region.wanted o (yielded ops a.tmps) = true then Oper.wp Try.prog o a w K Q else E := by
  have hw : Region.wanted o (yielded ops a.tmps) = true := by simp [Region.wanted, hgd]
  rw [if_pos hw]
  exact wp_appR w s x t e size hT ho B v n xs hs hown C u m ys hx hu h1 hb hB h
theorem row_none (w : World) (e : TypeId) (size B : Nat) (hB : B ≤ w.heap.size) : RowO (w.alloc (.cells #[] e)) B e size (.slice (some ⟨w.heap.size, 0, none⟩) 0 0) 0 [] :=
  RowO.of_own (World.ownsRow_made w #[] 0 hB (by unfold maxLen; omega) (by simp))
theorem row_lit (w : World) (e : TypeId) (size B n : Nat) (cs : List Value) (hB : B ≤ w.heap.size) (hl : cs.length = n * size) (hn : n ≤ 100) : RowO (w.alloc (.cells cs.toArray e)) B e size (.slice (some ⟨w.heap.size, 0, none⟩) n n) n cs :=
  ⟨hl, .inr ⟨w.heap.size, 0, n, cs.toArray, rfl, hB, heap_alloc_new w _, Nat.le_refl _, by unfold maxLen; omega, by simp [hl], by simp [← hl]⟩⟩
/-- A world as it was below, and a row of its own behind. -/
theorem below_grown {w0 w w' : World} {B : Nat} {e : TypeId} {size n : Nat} {v : Value} {xs : List Value} (hb : Below w0.heap.size w0 w) (hr : RowO w w0.heap.size e size v n xs) (hg : w.grownBy w' v.ownBlock) : Below w0.heap.size w0 w' := hb.grown hg hb.size (fun k e => (hr.lt k e).1)
def rCs (lv : Value) (ls : Fin 6 → Value) : List Value := [lv, ls 0, ls 1, ls 2, ls 3, ls 4, ls 5]
theorem rCs_at (lv : Value) (ls : Fin 6 → Value) : ∀ e : Fin 6, (rCs lv ls)[1 + e.1]? = some (ls e) := all6 rfl rfl rfl rfl rfl rfl
theorem rCs_set (lv : Value) (ls : Fin 6 → Value) (u : Value) : ∀ e : Fin 6, (rCs lv ls).set (1 + e.1) u = rCs lv (upd ls e u) := all6 rfl rfl rfl rfl rfl rfl
/-- The document's book. -/
structure Rk (B : Nat) (w : World) (b : Nat) (lv : Value) (ls : Fin 6 → Value) (q : Rs) : Prop where
  g : B ≤ b
  k : Cl w b 77 (rCs lv ls)
  l : RowO w B 39 3 lv q.d.length (aCs q.d)
  v : ∀ e, RowO w B 5 1 (ls e) (q.v e).length (uCs (q.v e))
def YK (b : Nat) (lv : Value) (ls : Fin 6 → Value) : Nat → Prop := fun k => k = b ∨ lv.ownBlock = some k ∨ ∃ e, (ls e).ownBlock = some k
theorem Rk.below {B : Nat} {w w' : World} {b : Nat} {lv : Value} {ls : Fin 6 → Value} {q : Rs} (h : Rk B w b lv ls q) (k : Below w.heap.size w w') : Rk B w' b lv ls q := ⟨h.g, h.k.below k, h.l.below k, fun e => (h.v e).below k⟩
theorem Rk.stay {B : Nat} {w w' : World} {b : Nat} {lv : Value} {ls : Fin 6 → Value} {q : Rs} {X : Nat → Prop} (h : Rk B w b lv ls q) (k : Apart X w w') (hx : ∀ i, X i → ¬ YK b lv ls i) : Rk B w' b lv ls q :=
  ⟨h.g, h.k.stay k (fun e => hx _ e (.inl rfl)), h.l.stay k (fun g hg e => hx _ e (.inr (.inl hg))), fun e => (h.v e).stay k (fun g hg i => hx _ i (.inr (.inr ⟨e, hg⟩)))⟩
theorem Rk.lt {B : Nat} {w : World} {b : Nat} {lv : Value} {ls : Fin 6 → Value} {q : Rs} (h : Rk B w b lv ls q) (k : Nat) (hk : YK b lv ls k) : B ≤ k ∧ k < w.heap.size := by
  rcases hk with rfl | hk | ⟨e, hk⟩
  · exact ⟨h.g, h.k.lt⟩
  · exact h.l.lt k hk
  · exact (h.v e).lt k hk
structure RkC (w : World) (b : Nat) (lv : Value) (ls : Fin 6 → Value) : Prop where
  c0 : w.cell? ⟨b, 0, none⟩ = some lv
  cv : ∀ e : Fin 6, w.cell? ⟨b, 1 + e.1, none⟩ = some (ls e)
  f : ∀ j, w.frozen? ⟨b, j, none⟩ = false
  l : b < w.heap.size
theorem Rk.c {B : Nat} {w : World} {b : Nat} {lv : Value} {ls : Fin 6 → Value} {q : Rs} (h : Rk B w b lv ls q) : RkC w b lv ls :=
  ⟨h.k.cell 0, fun e => (h.k.cell _).trans (rCs_at lv ls e), h.k.thaw, h.k.lt⟩
structure RStp (B : Nat) (w w' : World) (b : Nat) (lv : Value) (ls : Fin 6 → Value) (q' : Rs) : Prop where
  out : ∃ lv' ls', Rk B w' b lv' ls' q' ∧ Apart (XB b) w w' ∧ ∀ k, YK b lv' ls' k → YK b lv ls k ∨ w.heap.size ≤ k
theorem RStp.same {B : Nat} {w w' : World} {b : Nat} {lv : Value} {ls : Fin 6 → Value} {q : Rs} (h : Rk B w b lv ls q) (k : Below w.heap.size w w') : RStp B w w' b lv ls q := ⟨lv, ls, h.below k, Apart.of_below k, fun _ e => .inl e⟩
theorem RStp.pre {B : Nat} {w1 w2 w3 : World} {b : Nat} {lv : Value} {ls : Fin 6 → Value} {q' : Rs} (h : Below w1.heap.size w1 w2) (k : RStp B w2 w3 b lv ls q') : RStp B w1 w3 b lv ls q' := by
  obtain ⟨lv', ls', h1, h2, h3⟩ := k.out
  exact ⟨lv', ls', h1, (Apart.of_below h).trans h2, fun i e => (h3 i e).imp id (fun e => Nat.le_trans h.size e)⟩
theorem RStp.post {B : Nat} {w1 w2 w3 : World} {b : Nat} {lv : Value} {ls : Fin 6 → Value} {q' : Rs} (k : RStp B w1 w2 b lv ls q') (h : Below w2.heap.size w2 w3) : RStp B w1 w3 b lv ls q' := by
  obtain ⟨lv', ls', h1, h2, h3⟩ := k.out
  exact ⟨lv', ls', h1.below h, h2.trans (Apart.of_below h), h3⟩
/-- What is asked back is laid anew. -/
theorem RStp.list {B : Nat} {w W : World} {b : Nat} {lv v : Value} {ls : Fin 6 → Value} {q : Rs} (D : List Dm) (h : Rk B w b lv ls q) (hb : Below w.heap.size w W) (hr : RowO W w.heap.size 39 3 v D.length (aCs D)) : RStp B w (W.setCell ⟨b, 0, none⟩ v) b lv ls ⟨D, q.v⟩ := by
  have hk := (h.below hb)
  have hs : Apart (XB b) W (W.setCell ⟨b, 0, none⟩ v) := Apart.at W b 0 v rfl
  have hB : B ≤ w.heap.size := Nat.le_trans h.g (Nat.le_of_lt h.k.lt)
  refine ⟨v, ls, ⟨h.g, hk.k.set 0 v, (hr.stay hs (fun g hg e => ?_)).base hB, fun e => (hk.v e).stay hs (fun g hg i => ?_)⟩, (Apart.of_below hb).trans hs, fun k i => ?_⟩
  · have e : g = b := e
    subst e
    exact hr.ne_cl hk.k (by decide) hg
  · have i : g = b := i
    subst i
    exact (hk.v e).ne_cl hk.k (by decide) hg
  · rcases i with i | i | i
    · exact .inl (.inl i)
    · exact .inr (hr.lt k i).1
    · exact .inl (.inr (.inr i))
/-- A vector is laid anew. -/
theorem RStp.vec {B : Nat} {w W : World} {b : Nat} {lv v : Value} {ls : Fin 6 → Value} {q : Rs} (e : Fin 6) (V : List Int) (h : Rk B w b lv ls q) (hb : Below w.heap.size w W) (hr : RowO W w.heap.size 5 1 v V.length (uCs V)) : RStp B w (W.setCell ⟨b, 1 + e.1, none⟩ v) b lv ls ⟨q.d, upd q.v e V⟩ := by
  have hk := (h.below hb)
  have hs : Apart (XB b) W (W.setCell ⟨b, 1 + e.1, none⟩ v) := Apart.at W b _ v rfl
  have hB : B ≤ w.heap.size := Nat.le_trans h.g (Nat.le_of_lt h.k.lt)
  have hkk := hk.k.set (1 + e.1) v
  rw [rCs_set] at hkk
  refine ⟨lv, upd ls e v, ⟨h.g, hkk, hk.l.stay hs (fun g hg i => ?_), fun f => ?_⟩, (Apart.of_below hb).trans hs, fun k i => ?_⟩
  · have i : g = b := i
    subst i
    exact hk.l.ne_cl hk.k (by decide) hg
  · by_cases hf : f = e
    · subst hf
      rw [upd_same]
      show RowO _ B _ 1 v (upd q.v f V f).length (uCs (upd q.v f V f))
      rw [upd_same]
      refine (hr.stay hs (fun g hg i => ?_)).base hB
      have i : g = b := i
      subst i
      exact hr.ne_cl hk.k (by decide) hg
    · rw [upd_other _ _ _ _ hf]
      show RowO _ B _ 1 (ls f) (upd q.v e V f).length (uCs (upd q.v e V f))
      rw [upd_other _ _ _ _ hf]
      refine (hk.v f).stay hs (fun g hg i => ?_)
      have i : g = b := i
      subst i
      exact (hk.v f).ne_cl hk.k (by decide) hg
  · rcases i with i | i | ⟨f, i⟩
    · exact .inl (.inl i)
    · exact .inl (.inr (.inl i))
    · by_cases hf : f = e
      · rw [hf, upd_same] at i
        exact .inr (hr.lt k i).1
      · rw [upd_other _ _ _ _ hf] at i
        exact .inl (.inr (.inr ⟨f, i⟩))
theorem RStp.trans {B : Nat} {w1 w2 w3 : World} {b : Nat} {lv lv1 : Value} {ls ls1 : Fin 6 → Value} {q' : Rs} (h2 : Apart (XB b) w1 w2) (h3 : ∀ k, YK b lv1 ls1 k → YK b lv ls k ∨ w1.heap.size ≤ k) (k : RStp B w2 w3 b lv1 ls1 q') : RStp B w1 w3 b lv ls q' := by
  obtain ⟨av', vs', g1, g2, g3⟩ := k.out
  refine ⟨av', vs', g1, h2.trans g2, fun i e => ?_⟩
  rcases g3 i e with e | e
  · exact h3 i e
  · exact .inr (Nat.le_trans h2.size e)
set_option maxHeartbeats 1000000 in
theorem rnew_any (w : World) : Calls Try.prog 24 #[] w fun r w' => r = .returned (.pointer (some ⟨w.heap.size, 0, none⟩)) ∧ Rk w.heap.size w' w.heap.size (.slice none 0 0) (fun _ => .slice none 0 0) q0 ∧ Below w.heap.size w w' := by
  have hr := Cl.new w 77 (rCs (.slice none 0 0) (fun _ => .slice none 0 0))
  have HB := below_new w (.cells (rCs (.slice none 0 0) (fun _ => .slice none 0 0)).toArray 77)
  have HC := Hid3.mk (And.intro hr HB)
  clear hr HB
  go_enter Try.func24, Try.ntmps24
  go_wp2
  go_ret
  exact ⟨rfl, ⟨Nat.le_refl _, HC.out.1, RowO.nil _ _ _ _, fun _ => RowO.nil _ _ _ _⟩, HC.out.2⟩
def atI (L : List Dm) (x y : Int) : Int := match L.findIdx? (hasK x y) with
  | some i => i
  | none => -1
theorem atI_hit {L : List Dm} {x y : Int} {k : Nat} (h : k < L.length) (h1 : hasK x y L[k] = true) (h2 : ∀ j (hj : j < L.length), j < k → hasK x y L[j] = false) : atI L x y = k := by
  have : L.findIdx? (hasK x y) = some k := List.findIdx?_eq_some_iff_getElem.2 ⟨h, h1, fun j hj => by simp [h2 j (by omega) hj]⟩
  unfold atI
  rw [this]
theorem atI_miss {L : List Dm} {x y : Int} (h2 : ∀ j (hj : j < L.length), hasK x y L[j] = false) : atI L x y = -1 := by
  have : L.findIdx? (hasK x y) = none := List.findIdx?_eq_none_iff.2 (fun d hd => by
    obtain ⟨j, hj, rfl⟩ := List.getElem_of_mem hd
    exact h2 j hj)
  unfold atI
  rw [this]
theorem Row3.at {w : World} {B : Nat} {a : Option Addr} {cap : Nat} {L : List Dm} (h : RowO w B 39 3 (.slice a L.length cap) L.length (aCs L)) (k : Nat) (hk : k < L.length) : ∃ g off, a = some ⟨g, off, none⟩ ∧ g < w.heap.size ∧ w.cell? ⟨g, off + k * 3, none⟩ = some (.int .u8 L[k].1) ∧ w.cell? ⟨g, off + k * 3 + 1, none⟩ = some (.int .u8 L[k].2.1) ∧ w.cell? ⟨g, off + k * 3 + 2, none⟩ = some (.int .i64 L[k].2.2) := by
  rcases h.form with ⟨_, h, _⟩ | ⟨g, off, cap, h, _, _, hg, hc⟩
  · omega
  · injection h with h _ _
    obtain ⟨d1, d2, d3⟩ := aCs_at _ k _ (List.getElem?_eq_getElem hk)
    exact ⟨g, off, h, hg, hc _ _ d1, hc _ _ d2, hc _ _ d3⟩
set_option maxHeartbeats 2000000 in
theorem rat_any (B b : Nat) (lv : Value) (ls : Fin 6 → Value) (q : Rs) (x y : Int) (w : World) (h : Rk B w b lv ls q) (hl : q.d.length ≤ 8) : Calls Try.prog 48 #[.pointer (some ⟨b, 0, none⟩), .int .u8 x, .int .u8 y] w fun e w' => e = .returned (.int .i64 (atI q.d x y)) ∧ w' = w := by
  obtain ⟨a0, cap0, rfl⟩ := h.l.sl
  have c0 := h.c.c0
  have HR := Hid3.mk h.l
  clear h
  go_enter Try.func48, Try.ntmps48
  go_wp2
  go_loopw [7] (fun s7 wr => ∃ kk : Nat, kk ≤ q.d.length ∧ s7 = .int .i64 kk ∧ wr = w ∧ Hid3 (∀ j (hj : j < q.d.length), j < kk → hasK x y q.d[j] = false)) (fun s7 _ => q.d.length - (intOf s7).toNat)
  case atStart => exact ⟨0, Nat.zero_le _, rfl, rfl, ⟨fun j hj h => absurd h (Nat.not_lt_zero _)⟩⟩
  case round =>
    obtain ⟨kk, hkk, rfl, rfl, HA⟩ := hrel
    by_cases hlt : kk < q.d.length
    · have hltz : (kk : Int) < (q.d.length : Int) := by omega
      obtain ⟨g, off, rfl, hg, k0, k1, k2⟩ := Row3.at HR.out kk hlt
      have HY : Hid3 (q.d[kk].1 = x → q.d[kk].2.1 = y → atI q.d x y = kk) := ⟨fun e1 e2 => atI_hit hlt (decide_eq_true ⟨e1, e2⟩) (fun j hj hjk => HA.out j hj hjk)⟩
      have HN : Hid3 (¬ (q.d[kk].1 = x ∧ q.d[kk].2.1 = y) → ∀ j (hj : j < q.d.length), j < kk + 1 → hasK x y q.d[j] = false) := ⟨fun e j hj hjk => by
        by_cases i : j = kk
        · subst i
          exact decide_eq_false e
        · exact HA.out j hj (by omega)⟩
      clear HA k2
      generalize q.d[kk].1 = e1 at *
      generalize q.d[kk].2.1 = e2 at *
      by_cases h1 : e1 = x
      · by_cases h2 : e2 = y
        · have HY2 := Hid3.mk (HY.out h1 h2)
          rw [h1] at k0
          rw [h2] at k1
          clear h1 h2 HY HN
          go_wp2
          go_ret
          exact ⟨by rw [HY2.out]; rfl, rfl⟩
        · have HN2 := Hid3.mk (HN.out (fun e => h2 e.2))
          clear HY HN
          subst h1
          go_wp2
          go_roundw
          case rel => exact ⟨kk + 1, by omega, by go_num, by trivial, HN2⟩
          case measure => simp [intOf]; omega
      · have HN2 := Hid3.mk (HN.out (fun e => h1 e.1))
        clear HY HN
        go_wp2
        go_roundw
        case rel => exact ⟨kk + 1, by omega, by go_num, by trivial, HN2⟩
        case measure => simp [intOf]; omega
    · have hltz : ¬ (kk : Int) < (q.d.length : Int) := by omega
      have HM := Hid3.mk (atI_miss (fun j hj => HA.out j hj (by omega)))
      clear HA
      go_wp2
      go_ret
      exact ⟨by rw [HM.out]; rfl, rfl⟩
end Go.Proofs.Ytpmndhbcohjboaa
