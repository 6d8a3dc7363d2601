/- The program's table: Exit. -/
import Derived.Test.YtnbmancadaeejaaPrE
namespace Go.Proofs.Ytnbmancadaeejaa
open Go.RowKit Go.Shelf Go.Maps
set_option linter.unusedVariables false
set_option maxRecDepth 100000
attribute [local go_sem] Oper.semAt_some
/-- Behind some children that were left to 0. -/
def outE (s : Pt) (pre : List (Fin 6)) : Pt := fun i => if i ∈ pre then lft (s i) else s i
theorem outE_nil (s : Pt) : outE s [] = s := by funext i; simp [outE]
theorem outE_snoc (s : Pt) (pre : List (Fin 6)) (x : Fin 6) : outE s (pre ++ [x]) = upd (outE s pre) x (lft (s x)) := by
  funext i
  by_cases e : i = x
  · subst e
    rw [upd_same]
    simp [outE]
  · rw [upd_other _ _ _ _ e]
    simp [outE, e]
theorem outE_exit (s : Pt) (p q : Fin 6) (n : Int) : upd (outE s (chs s p)) p (.zom q n) = exitS s p q n := by
  funext i
  by_cases e : i = p
  · subst e
    rw [upd_same]
    unfold exitS
    rw [if_pos rfl]
  · rw [upd_other _ _ _ _ e]
    unfold exitS outE chs
    rw [if_neg e]
    have := thL_mem (qCh s p) 6 (Nat.le_refl _) i
    by_cases h : qCh s p i = true
    · rw [if_pos h, if_pos (this.2 ⟨i.2, h⟩)]
    · rw [if_neg h, if_neg (fun m => h (this.1 m).2)]
theorem prV_cells (x : Pr) : (prV x).cells = #[prV x] := by cases x <;> rfl
theorem st_pr (y : Pr) (w : World) (b k : Nat) (ov : Value) (hc : w.cell? ⟨b, k, none⟩ = some ov) (hf : w.frozen? ⟨b, k, none⟩ = false) : (store ⟨b, k, none⟩ (prV y)).run Try.prog w = .ok () (w.setCell ⟨b, k, none⟩ (prV y)) := by
  cases y <;> simp [go_sem, prV, hc, hf]
set_option maxHeartbeats 1000000 in
theorem exit_err (B b : Nat) (s : Pt) (pid st : Int) (w : World) (h : Tp B w b s) (hp : runs (gt s pid) = false) : Calls Try.prog 6 #[.pointer (some ⟨b, 0, none⟩), .int .i64 pid, .int .i64 st] w fun r w' => r = .returned (.int .i64 5) ∧ Below w.heap.size w w' := by
  have hX := below_new w (.cells #[.pointer (some ⟨b, 0, none⟩)] 23)
  have cR := runs_any B b s pid _ (h.below hX)
  have he : ruE (gt s pid) = 5 := by cases hx : gt s pid <;> rw [hx] at hp <;> first | rfl | cases hp
  rw [he] at cR
  have HX := Hid3.mk hX
  generalize ruP (gt s pid) = qp at *
  clear h hp he hX
  go_enter Try.func6, Try.ntmps6
  go_wp2_with fail
  refine cR.mono ?_
  rintro r W ⟨rfl, hb⟩
  have HB := Hid3.mk ((HX.out.trans (hb.mono HX.out.size)).trans ((below_new W (.cells #[.int .i64 qp] 39)).mono (Nat.le_trans HX.out.size hb.size)))
  clear cR hb
  go_wp2
  go_ret
  exact ⟨rfl, HB.out⟩
set_option maxHeartbeats 1000000 in
theorem exit_0 (B b : Nat) (s : Pt) (st : Int) (w : World) (h : Tp B w b s) (hp : s 0 = .run 0) : Calls Try.prog 6 #[.pointer (some ⟨b, 0, none⟩), .int .i64 0, .int .i64 st] w fun r w' => r = .returned (.int .i64 7) ∧ Below w.heap.size w w' := by
  have hX := below_new w (.cells #[.pointer (some ⟨b, 0, none⟩)] 23)
  have cR := runs_any B b s 0 _ (h.below hX)
  have hg : gt s 0 = s 0 := gt_in s 0
  rw [hg, hp] at cR
  simp only [ruE, ruP] at cR
  have HX := Hid3.mk hX
  clear h hp hX hg
  go_enter Try.func6, Try.ntmps6
  go_wp2_with fail
  refine cR.mono ?_
  rintro r W ⟨rfl, hb⟩
  have HB := Hid3.mk ((HX.out.trans (hb.mono HX.out.size)).trans ((below_new W (.cells #[.int .i64 ((0 : Fin 6).1 : Nat)] 39)).mono (Nat.le_trans HX.out.size hb.size)))
  clear cR hb
  go_wp2
  go_ret
  exact ⟨rfl, HB.out⟩
set_option maxHeartbeats 2000000 in
theorem exit_in (B b : Nat) (s : Pt) (p q : Fin 6) (st : Int) (w : World) (h : Tp B w b s) (hp0 : p ≠ 0) (hp : s p = .run q) (n : Nat) (hn : 5 ≤ n) :
    CallsIn Fence.wide n Try.prog 6 #[.pointer (some ⟨b, 0, none⟩), .int .i64 p.1, .int .i64 st] w fun r w' => r = .returned (.int .i64 0) ∧ TS B w w' b (exitS s p q st) := by
  have hw1 : 1 ≤ n := by omega
  have hro : Fence.wide.round = none := rfl
  have hbl := h.c.lt
  have hgt := gt_in s p
  rw [hp] at hgt
  have cR : ∀ W, Below w.heap.size w W → CallsIn Fence.wide (n - 1) Try.prog 9 #[.pointer (some ⟨b, 0, none⟩), .int .i64 p.1] W fun r w' => r = .returned (.tuple #[.agg #[.int .i64 q.1], .int .i64 0]) ∧ Below W.heap.size W w' := fun W hW => by
    have := runs_any B b s p.1 W (h.below hW)
    rw [hgt] at this
    exact callsIn_wide.2 this
  have HT := Hid3.mk h
  have HE := Hid3.mk (outE_exit s p q st)
  have hpn : s p ≠ .no := fun e => by rw [hp] at e; cases e
  have hcs : chA s p.1 = chs s p := chA_in s p hpn
  have hp1 : ((p.1 : Int) == 0) = false := by rw [beq_eq_false_iff_ne]; exact fun e => hp0 (Fin.ext (by show p.1 = 0; omega))
  have hp6 : (p.1 : Int) < 6 := by have := p.2; omega
  obtain ⟨qp, hqp⟩ : ∃ qp : Int, (q.1 : Int) = qp := ⟨_, rfl⟩
  rw [hqp] at cR
  clear h hp hgt hpn
  refine callsIn_of_wp_marks Try.func6 rfl trivial ?_ rfl
  simp only [Try.ntmps6, List.size_toArray, List.length_cons, List.length_nil, Nat.reduceAdd, Nat.reduceSub, Array.replicate_succ, Array.replicate_zero, List.push_toArray, List.append_toArray, List.nil_append, List.cons_append]
  have hB0 := below_new w (.cells #[.pointer (some ⟨b, 0, none⟩)] 23)
  have cR0 := cR _ hB0
  clear cR
  gi_wp2_with fail
  refine ⟨trivial, ?_⟩
  gi_at_call 9
  refine cR0.mono ?_
  rintro e W1 ⟨rfl, hB1⟩
  have hB2 := hB0.trans (hB1.mono hB0.size)
  have b0 := bxLow (Boxed.new w 23 (.pointer (some ⟨b, 0, none⟩))) hB1
  clear cR0 hB0 hB1
  have hlw : w.heap.size < W1.heap.size := b0.lt
  have d0 := (b0.alloc (.cells #[.int .i64 qp] 39)).cell
  gi_wp2_with (refine ⟨trivial, ?_⟩; gi_at_call 10; refine (ch_in (n - 1) _ _ _).mono ?_; rintro e w' ⟨rfl, rfl⟩)
  have b1 := ((Boxed.new W1 39 (.int .i64 qp)).alloc (.cells #[.pointer (some ⟨b, 0, none⟩)] 23)).alloc (.cells #[.int .i64 p.1] 3)
  have bV := (Boxed.new (W1.alloc (.cells #[.int .i64 qp] 39)) 23 (.pointer (some ⟨b, 0, none⟩))).alloc (.cells #[.int .i64 p.1] 3)
  have bF := Boxed.new ((W1.alloc (.cells #[.int .i64 qp] 39)).alloc (.cells #[.pointer (some ⟨b, 0, none⟩)] 23)) 3 (.int .i64 p.1)
  simp only [World.size_alloc] at bV bF
  have hB3 : Below W1.heap.size W1 (((W1.alloc (.cells #[.int .i64 qp] 39)).alloc (.cells #[.pointer (some ⟨b, 0, none⟩)] 23)).alloc (.cells #[.int .i64 p.1] 3)) := (((Below.refl _ W1).alloc (Nat.le_refl _) _).alloc (by simp) _).alloc (by simp; omega) _
  have e0 := bxLow b0 hB3
  have hB4 := hB2.trans (hB3.mono hB2.size)
  generalize (((W1.alloc (.cells #[.int .i64 qp] 39)).alloc (.cells #[.pointer (some ⟨b, 0, none⟩)] 23)).alloc (.cells #[.int .i64 p.1] 3)) = W0 at *
  clear b0 d0 hB2 hB3
  generalize W1.heap.size = z at *
  clear W1
  have hT0 := HT.out.below hB4
  have hA0 : Apart (fun k => k = b) w W0 := Apart.of_below hB4
  have hcv : ChC B W0 (z + 1) (z + 1 + 1) b s p.1 := ⟨bV.cell, bF.cell, hT0⟩
  have hs0 : w.heap.size ≤ W0.heap.size := hB4.size
  clear hB4 bV
  refine wpIn_rangeFunc_ownG hro hw1 (gf := 14) (lb := #[.pointer (some ⟨z + 1, 0, none⟩), .pointer (some ⟨z + 1 + 1, 0, none⟩)]) rfl trivial (enters_of Try.func14 (by kernel_rfl) rfl)
    (ch_stops (n - 1) (by omega) B (z + 1) (z + 1 + 1) b s p.1 _ hcv) kpC_t kpC_b (Below.refl _ _) (fun _ => rfl)
    (fun pre W => (Boxed W w.heap.size 23 (.pointer (some ⟨b, 0, none⟩)) ∧ Boxed W z 39 (.int .i64 qp) ∧ Boxed W (z + 1 + 1) 3 (.int .i64 p.1) ∧ Tp B W b (outE s pre) ∧ True) ∧ Apart (fun k => k = b) w W)
    (fun _ _ _ => False)
    (OwnFrom.and (Own.from (fun s A B row hs hg hr => by
      obtain ⟨h1, h2, h3, h4, h5⟩ := hs
      exact ⟨box_kept h1 hg hr, box_kept h2 hg hr, box_kept h3 hg hr, h4.kept hg hr, h5⟩) _) (ownFrom_apart hs0))
    (fun c => Own.from (fun _ _ _ _ h _ _ => h) _)
    ⟨⟨e0, b1, bF, by rw [outE_nil]; exact hT0, trivial⟩, hA0⟩
    (fun x => { tmps := #[.pointer (some ⟨b, 0, none⟩), .int .i64 p.1, .int .i64 st, .pointer (some ⟨w.heap.size, 0, none⟩), undef, undef, .int .i64 0, .pointer (some ⟨z, 0, none⟩), .int .i64 0, .int .i64 x.1, prV (s x), .tuple #[.agg #[.int .i64 qp], .int .i64 0], .pointer (some ⟨b, 0, none⟩), .int .i64 p.1, .tuple #[.agg #[.int .i64 qp], .int .i64 0], .agg #[.int .i64 qp], .int .i64 0, .int .i64 0, .bool false, undef, .int .i64 p.1, .bool false, .pointer (some ⟨b, 0, none⟩), .int .i64 p.1, .func (.func 14) #[] #[.pointer (some ⟨z + 1, 0, none⟩), .pointer (some ⟨z + 1 + 1, 0, none⟩)], .int .i64 x.1, prV (s x), undef, undef, undef, undef, undef, undef, undef, undef, undef, undef, undef, undef, undef, undef, undef, undef, undef], defers := [] }) ?assign ?body ?done ?stop
  case assign =>
    intro l x W K hK
    simp only [chV]
    gi_wp2
    exact hK
  case body =>
    rintro l pre x W ⟨⟨f0, f1, f2, hT, hpx⟩, hA⟩ hlt
    have k0 := f0.cell
    have hx6 : (x.1 : Int) < 6 := by have := x.2; omega
    have cL := fun W => left_any (s x) W
    clear e0 b1 bF hT0 hA0 hcv
    gi_wp2
    refine round_held2 (S := fun w' => w'.cell? ⟨w.heap.size, 0, none⟩ = some (.pointer (some ⟨b, 0, none⟩))) (by kernel_rfl) (by kernel_rfl) k0 (fun hHeld => ?_)
    refine takeD (i := 0) (v := ?v1) (some 27) rfl rfl (by kernel_rfl) (by kernel_rfl) (by kernel_rfl) (fun _ _ _ h => by cases h.1) (Or.inl ⟨by rfl, ?hy1⟩) (by assumption) ?_
    case hy1 => (intro w' hSw; (try dsimp only at hSw); go_simp; try (with_reducible rfl))
    simp only [Act.put, List.setIfInBounds_toArray, List.set_cons_zero, List.set_cons_succ]
    refine takeD (i := 1) (v := ?v2) (some 28) rfl rfl (by kernel_rfl) (by kernel_rfl) (by kernel_rfl) (fun _ _ _ h => by cases h.1) (Or.inl ⟨by rfl, ?hy2⟩) (by assumption) ?_
    case hy2 => (intro w' hSw; (try dsimp only at hSw); go_simp; try (with_reducible rfl))
    simp only [Act.put, List.setIfInBounds_toArray, List.set_cons_zero, List.set_cons_succ]
    refine takeD (i := 2) (v := ?v3) (some 29) rfl rfl (by kernel_rfl) (by kernel_rfl) (by kernel_rfl) (fun _ _ _ h => by cases h.1) (Or.inl ⟨by rfl, ?hy3⟩) (by assumption) ?_
    case hy3 => (intro w' hSw; (try dsimp only at hSw); go_simp; try (with_reducible rfl))
    simp only [Act.put, List.setIfInBounds_toArray, List.set_cons_zero, List.set_cons_succ]
    refine takeD (i := 4) (v := ?v4) (some 31) rfl rfl (by kernel_rfl) (by kernel_rfl) (by kernel_rfl) (fun _ _ _ h => by cases h.1) (Or.inl ⟨by rfl, ?hy4⟩) (by assumption) ?_
    case hy4 => (intro w' hSw; (try dsimp only at hSw); go_simp; try (with_reducible rfl))
    simp only [Act.put, List.setIfInBounds_toArray, List.set_cons_zero, List.set_cons_succ]
    refine takeD (i := 5) (v := ?v5) (some 32) rfl rfl (by kernel_rfl) (by kernel_rfl) (by kernel_rfl) (fun _ _ _ h => by cases h.1) (Or.inl ⟨by rfl, ?hy5⟩) (by assumption) ?_
    case hy5 => (intro w' hSw; (try dsimp only at hSw); go_simp; try (with_reducible rfl))
    simp only [Act.put, List.setIfInBounds_toArray, List.set_cons_zero, List.set_cons_succ]
    refine wpAnyH_ready (rs := [3]) (by kernel_rfl) (by simp) (AllReadyH.cons rfl (fun K hK => ?_) AllReadyH.nil)
    go_simp
    with_reducible refine (cL W.drew).mono ?_
    rintro e W1 ⟨rfl, hB1⟩
    have hB1' : Below W.heap.size W W1 := ((Below.refl _ W).drew).trans hB1
    have HB1 := Hid3.mk hB1'
    have q0 := bxLow f0 hB1'
    have HT1 := Hid3.mk (hT.below hB1')
    have c0 := HT1.out.at x
    have fx := HT1.out.c.thaw x.1
    have hbl1 := HT1.out.c.lt
    have hTc1 := q0.cell
    clear hB1 hB1' k0
    refine hK.out _ _ hTc1 (fun hHeld2 => ?_)
    clear hK K hHeld
    have hHeld := hHeld2
    clear hHeld2
    try simp only [Act.put, List.setIfInBounds_toArray, List.set_cons_zero, List.set_cons_succ]
    refine takeD (i := 6) (v := ?v6) (some 33) rfl rfl (by kernel_rfl) (by kernel_rfl) (by kernel_rfl) (fun _ _ _ h => by cases h.1) (Or.inl ⟨by rfl, ?hy6⟩) (by assumption) ?_
    case hy6 => (intro w' hSw; (try dsimp only at hSw); go_simp; try (with_reducible rfl))
    simp only [Act.put, List.setIfInBounds_toArray, List.set_cons_zero, List.set_cons_succ]
    refine wpAnyH_ready (rs := [7]) (by kernel_rfl) (by simp) (AllReadyH.cons rfl (fun K hK => ?_) AllReadyH.nil)
    have q05 := bxFar q0 b x.1 (by omega) (prV (lft (s x)))
    have hTc5 := q05.cell
    have HT5 : Hid3 (Tp B (W1.setCell ⟨b, x.1, none⟩ (prV (lft (s x)))) b (outE s (pre ++ [x]))) := ⟨by rw [outE_snoc s pre x]; exact (TS.slot HT1.out x (lft (s x))).t⟩
    have HA5 : Hid3 (Apart (fun k => k = b) w (W1.setCell ⟨b, x.1, none⟩ (prV (lft (s x))))) := ⟨(hA.trans (Apart.of_below HB1.out)).more _ _ _ (.inl rfl)⟩
    have HK5 : Hid3 (KeepsOthers W (W1.setCell ⟨b, x.1, none⟩ (prV (lft (s x))))) := ⟨(keeps_low HB1.out).trans (KeepsOthers.setCell _ _ _)⟩
    have q1 := bxFar (bxLow f1 HB1.out) b x.1 (by omega) (prV (lft (s x)))
    have q2 := bxFar (bxLow f2 HB1.out) b x.1 (by omega) (prV (lft (s x)))
    have hnc : (prV (lft (s x))).cells = #[prV (lft (s x))] := prV_cells _
    unfold Value.cells at hnc
    have hst := st_pr (lft (s x)) W1 b x.1 _ c0 fx
    generalize prV (outE s pre x) = ov at *
    generalize prV (lft (s x)) = nv at *
    go_simp
    refine hK.out _ _ hTc5 (fun hHeld2 => ?_)
    clear hK K hHeld
    have hHeld := hHeld2
    clear hHeld2
    try simp only [Act.put, List.setIfInBounds_toArray, List.set_cons_zero, List.set_cons_succ]
    refine wpAnyH_done (by kernel_rfl) ⟨rfl, ?_⟩ _
    gi_wp2
    exact ⟨HK5.out.from _, kpX_of HK5.out.walks f2 q2, ⟨q05, q1, q2, HT5.out, hpx⟩, HA5.out⟩
  case done =>
    rintro D ys W hD hys ⟨⟨f0, f1, f2, hT, _⟩, hA⟩ hK
    rw [hcs] at hys
    subst hys
    have k0 := f0.cell
    have k1 := f1.cell
    have c0 := hT.at p
    have fx := hT.c.thaw p.1
    have hbW := hT.c.lt
    have hTS : TS B W (W.setCell ⟨b, p.1, none⟩ (.iface 47 (.agg #[.int .i64 q.1, .int .i64 st]))) b (upd (outE s (chs s p)) p (.zom q st)) := TS.slot hT p (.zom q st)
    rw [HE.out, hqp] at hTS
    have hT5 := hTS.t.c.drew
    have hA5 := (hA.trans hTS.ap).drew
    have hg5 := hTS.t.g
    have hKO : KeepsOthers W (W.setCell ⟨b, p.1, none⟩ (.iface 47 (.agg #[.int .i64 qp, .int .i64 st]))).drew := (KeepsOthers.setCell _ _ _).trans (keeps_low ((Below.refl _ _).drew))
    have HH := Hid3.mk (And.intro hT5 (And.intro hA5 (And.intro hg5 hKO)))
    generalize prV (outE s (chs s p) p) = ov at *
    clear e0 b1 bF hT0 hA0 hcv hT hA hTS hT5 hA5 hg5 hKO
    gi_wp2
    gi_region
    gi_wp2
    obtain ⟨hT5, hA5, hg5, hKO⟩ := HH.out
    have hK' := hKO.same D _ hK rfl
    have kept : ∀ r, some D = some r → ∃ o : Obj, (W.setCell ⟨b, p.1, none⟩ (.iface 47 (.agg #[.int .i64 qp, .int .i64 st]))).drew.heap[r]? = some o ∧ o.isCells = false := fun r e => by cases e; exact ⟨_, hK', rfl⟩
    have hT3 := hT5.kept (grownBy_putObj' _ D (.deferred none)) kept
    have hA3 := apartK_b hA5 D (.deferred none) (by omega)
    refine ⟨by simp, .inl ⟨_, _, rfl, run_takeDeferred hK', ?_⟩⟩
    refine ⟨.int .i64 0, by simp [results, Try.f6, go_sem], rfl, ⟨hg5, hT3⟩, hA3⟩
  case stop =>
    rintro D c pre W hD hpre hf hK
    exact hf.elim
theorem exit_ok (B b : Nat) (s : Pt) (p q : Fin 6) (st : Int) (w : World) (h : Tp B w b s) (hp0 : p ≠ 0) (hp : s p = .run q) : Calls Try.prog 6 #[.pointer (some ⟨b, 0, none⟩), .int .i64 p.1, .int .i64 st] w fun r w' => r = .returned (.int .i64 0) ∧ TS B w w' b (exitS s p q st) :=
  (callsIn_wide (n := 5)).1 (exit_in B b s p q st w h hp0 hp 5 (by omega))
end Go.Proofs.Ytnbmancadaeejaa
