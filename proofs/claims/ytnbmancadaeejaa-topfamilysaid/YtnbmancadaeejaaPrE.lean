/- The program's table: Wait. -/
import Derived.Test.YtnbmancadaeejaaPrD
import Derived.Test.YtnbmancadaeejaaPrT
import Derived.Test.YtnbmancadaeejaaRounds2
namespace Go.Proofs.Ytnbmancadaeejaa
open Go.RowKit Go.Shelf Go.Maps
set_option linter.unusedVariables false
set_option maxRecDepth 100000
attribute [local go_sem] Oper.semAt_some
def eW (pre : List (Fin 6)) : Int := if pre = [] then 3 else 12
theorem takeD {ops : Array Oper} {Q : Exit → Act → World → Prop} {S : World → Prop} {i : Nat} {oi : Oper} {v : Value} {fuel : Nat} {listed : Array Bool} {a : Act} {w : World} (d : Option Nat) (hi : ops[i]? = some oi) (hd : oi.dst = d)
    (hs : Region.noSelect ops = true) (hf : Region.free .any ops listed i = true) (hr : (Region.ready .any ops listed).contains i = true)
    (hQ : ∀ c a w, Q (.panic c) (a.put d v) w → Q (.panic c) a w) (hy : YieldsIf Try.prog ops S oi v a) (hS : S w)
    (h : wpAnyH Try.prog .any ops Q S fuel (listed.setIfInBounds i true) (a.put d v) w) : wpAnyH Try.prog .any ops Q S (fuel + 1) listed a w := by
  subst hd
  exact wpAnyH_take hi hs hf hr hQ hy hS h
theorem round_held2 {ops : Array Oper} {L m id : Nat} {Q : Exit → Act → World → Prop} {S : World → Prop} {a : Act} {w : World} (hm : Try.prog.follows .mixedOrders = true) (hd : noDefer ops = true) (hS : S w.drew)
    (h : S w.drew → wpAnyH Try.prog .any ops (fun e a w => e = .normal ∧ Q .normal a w) S ops.size (Array.replicate ops.size false) a w.drew) : (Code.region id ops true).wpIn (Fence.wide.inRound L) m Try.prog Q a w :=
  round_held (Kn := Q .normal) hm hd hS (fun _ _ h => h) h
theorem bxFar {W : World} {d : Nat} {t : TypeId} {v : Value} (h : Boxed W d t v) (b j : Nat) (hne : d ≠ b) (u : Value) : Boxed (W.setCell ⟨b, j, none⟩ u) d t v := (Below.heap_setCell W ⟨b, j, none⟩ u d hne).trans h
theorem bxLow {W W' : World} {d : Nat} {t : TypeId} {v : Value} (h : Boxed W d t v) (k : Below W.heap.size W W') : Boxed W' d t v := (k.block d h.lt).trans h
theorem keeps_low {W W' : World} (h : Below W.heap.size W W') : KeepsOthers W W' := ⟨h.size, fun k o hk _ => (h.block k (Array.getElem?_eq_some_iff.1 hk).1).trans hk⟩
theorem Tp.kept {B : Nat} {W W' : World} {row : Option Nat} {b : Nat} {s : Pt} (h : Tp B W b s) (hg : W.grownBy W' row) (hr : ∀ r, row = some r → ∃ o : Obj, W.heap[r]? = some o ∧ o.isCells = false) : Tp B W' b s := ⟨h.g, h.c.kept hg hr⟩
theorem ownFrom_apart {β : Type} {B : Nat} {w : World} {X : Nat → Prop} (hB : w.heap.size ≤ B) : OwnFrom B (fun (_ : β) W => Apart X w W) :=
  fun _ W W' row hs hg hr => ⟨hg.os.trans hs.os, hg.tape.trans hs.tape, hg.output.trans hs.output, Nat.le_trans hs.size hg.size, fun k hk hx => by
    refine (hg.block k (Nat.lt_of_lt_of_le hk hs.size) (fun e => ?_)).trans (hs.block k hk hx)
    have := (hr k e.symm).1
    omega⟩
theorem Apart.more {X : Nat → Prop} {w W : World} (h : Apart X w W) (d j : Nat) (u : Value) (hd : X d ∨ w.heap.size ≤ d) : Apart X w (W.setCell ⟨d, j, none⟩ u) :=
  h.then (Y := fun k => k = d) (Apart.at W d j u rfl) (fun i hi e => by
    subst e
    rcases hd with hd | hd
    · exact hd
    · omega)
set_option maxHeartbeats 2000000 in
theorem wait_in (B b : Nat) (s : Pt) (p : Fin 6) (w : World) (h : Tp B w b s) (hp : runs (s p) = true) (n : Nat) (hn : 5 ≤ n) :
    CallsIn Fence.wide n Try.prog 7 #[.pointer (some ⟨b, 0, none⟩), .int .i64 p.1] w fun r w' => r = .returned (.tuple #[.int .i64 (wtX s p).1, .int .i64 (wtX s p).2.1, .int .i64 (wtX s p).2.2.1]) ∧ TS B w w' b (wtX s p).2.2.2 := by
  have hw1 : 1 ≤ n := by omega
  have hro : Fence.wide.round = none := rfl
  have hbl := h.c.lt
  have he : ruE (gt s p.1) = 0 := by
    rw [gt_in]
    cases hx : s p <;> rw [hx] at hp <;> first | rfl | cases hp
  have cR : ∀ W, Below w.heap.size w W → CallsIn Fence.wide (n - 1) Try.prog 9 #[.pointer (some ⟨b, 0, none⟩), .int .i64 p.1] W fun r w' => r = .returned (.tuple #[.agg #[.int .i64 (ruP (gt s p.1))], .int .i64 0]) ∧ Below W.heap.size W w' := fun W hW => by
    have := runs_any B b s p.1 W (h.below hW)
    rw [he] at this
    exact callsIn_wide.2 this
  have HT := Hid3.mk h
  have HP := Hid3.mk hp
  have HW1 := Hid3.mk (wtX_no s p)
  have HW2 := Hid3.mk (fun x q n pre => wtX_yes s p x q n pre)
  have HW : Hid3 (∃ Z, Z = wtX s p) := ⟨_, rfl⟩
  obtain ⟨⟨x0, n0, ee0, s0⟩, hZ⟩ := HW.out
  rw [← hZ] at HW1 HW2 ⊢
  simp only
  generalize ruP (gt s p.1) = qp at *
  clear h hp he HW hZ
  refine callsIn_of_wp_marks Try.func7 rfl trivial ?_ rfl
  simp only [Try.ntmps7, List.size_toArray, List.length_cons, List.length_nil, Nat.reduceAdd, Nat.reduceSub, Array.replicate_succ, Array.replicate_zero, List.push_toArray, List.append_toArray, List.nil_append, List.cons_append]
  have hB0 : Below w.heap.size w ((((w.alloc (.cells #[.pointer (some ⟨b, 0, none⟩)] 23)).alloc (.cells #[.int .i64 0] 3)).alloc (.cells #[.int .i64 0] 3)).alloc (.cells #[.int .i64 0] 25)) := ((((Below.refl _ w).alloc (Nat.le_refl _) _).alloc (by simp) _).alloc (by simp; omega) _).alloc (by simp; omega) _
  have cR0 := cR _ hB0
  clear cR
  gi_wp2_with fail
  refine ⟨trivial, ?_⟩
  gi_at_call 9
  refine cR0.mono ?_
  rintro e W1 ⟨rfl, hB1⟩
  have hB2 := hB0.trans (hB1.mono hB0.size)
  have b0 := bxLow ((((Boxed.new w 23 (.pointer (some ⟨b, 0, none⟩))).alloc (.cells #[.int .i64 0] 3)).alloc (.cells #[.int .i64 0] 3)).alloc (.cells #[.int .i64 0] 25)) hB1
  have b1 := bxLow (((Boxed.new (w.alloc (.cells #[.pointer (some ⟨b, 0, none⟩)] 23)) 3 (.int .i64 0)).alloc (.cells #[.int .i64 0] 3)).alloc (.cells #[.int .i64 0] 25)) hB1
  have b2 := bxLow ((Boxed.new ((w.alloc (.cells #[.pointer (some ⟨b, 0, none⟩)] 23)).alloc (.cells #[.int .i64 0] 3)) 3 (.int .i64 0)).alloc (.cells #[.int .i64 0] 25)) hB1
  have b3 := bxLow (Boxed.new (((w.alloc (.cells #[.pointer (some ⟨b, 0, none⟩)] 23)).alloc (.cells #[.int .i64 0] 3)).alloc (.cells #[.int .i64 0] 3)) 25 (.int .i64 0)) hB1
  simp only [World.size_alloc] at b1 b2 b3
  clear cR0 hB0 hB1
  have hlw : w.heap.size < W1.heap.size := b0.lt
  have l3 : w.heap.size + 1 + 1 + 1 < W1.heap.size := b3.lt
  have d0 := ((b0.alloc (.cells #[.int .i64 qp] 39)).alloc (.cells #[.int .i64 3] 25)).cell
  gi_wp2_with (refine ⟨trivial, ?_⟩; gi_at_call 10; refine (ch_in (n - 1) _ _ _).mono ?_; rintro e w' ⟨rfl, rfl⟩)
  have b9 := ((Boxed.new (W1.alloc (.cells #[.int .i64 qp] 39)) 25 (.int .i64 3)).alloc (.cells #[.pointer (some ⟨b, 0, none⟩)] 23)).alloc (.cells #[.int .i64 p.1] 3)
  have bV := (Boxed.new ((W1.alloc (.cells #[.int .i64 qp] 39)).alloc (.cells #[.int .i64 3] 25)) 23 (.pointer (some ⟨b, 0, none⟩))).alloc (.cells #[.int .i64 p.1] 3)
  have bF := Boxed.new (((W1.alloc (.cells #[.int .i64 qp] 39)).alloc (.cells #[.int .i64 3] 25)).alloc (.cells #[.pointer (some ⟨b, 0, none⟩)] 23)) 3 (.int .i64 p.1)
  simp only [World.size_alloc] at b9 bV bF
  have hB3 : Below W1.heap.size W1 ((((W1.alloc (.cells #[.int .i64 qp] 39)).alloc (.cells #[.int .i64 3] 25)).alloc (.cells #[.pointer (some ⟨b, 0, none⟩)] 23)).alloc (.cells #[.int .i64 p.1] 3)) := ((((Below.refl _ W1).alloc (Nat.le_refl _) _).alloc (by simp) _).alloc (by simp; omega) _).alloc (by simp; omega) _
  have e0 := bxLow b0 hB3
  have e1 := bxLow b1 hB3
  have e2 := bxLow b2 hB3
  have e3 := bxLow b3 hB3
  have hB4 := hB2.trans (hB3.mono hB2.size)
  generalize ((((W1.alloc (.cells #[.int .i64 qp] 39)).alloc (.cells #[.int .i64 3] 25)).alloc (.cells #[.pointer (some ⟨b, 0, none⟩)] 23)).alloc (.cells #[.int .i64 p.1] 3)) = W0 at *
  have hz : w.heap.size + 1 + 1 + 1 < W1.heap.size := l3
  clear b0 b1 b2 b3 d0 hB2 hB3 hlw l3
  generalize W1.heap.size = z at *
  clear W1
  have hT0 := HT.out.below hB4
  have hA0 : Apart (fun k => k = b) w W0 := Apart.of_below hB4
  have hcv : ChC B W0 (z + 1 + 1) (z + 1 + 1 + 1) b s p.1 := ⟨bV.cell, bF.cell, hT0⟩
  have hpn : s p ≠ .no := fun e => by have := HP.out; rw [e] at this; cases this
  have hcs : chA s p.1 = chs s p := chA_in s p hpn
  have hs0 : w.heap.size ≤ W0.heap.size := hB4.size
  clear hB4 hpn bV
  refine wpIn_rangeFunc_ownG hro hw1 (gf := 14) (lb := #[.pointer (some ⟨z + 1 + 1, 0, none⟩), .pointer (some ⟨z + 1 + 1 + 1, 0, none⟩)]) rfl trivial (enters_of Try.func14 (by kernel_rfl) rfl)
    (ch_stops (n - 1) (by omega) B (z + 1 + 1) (z + 1 + 1 + 1) b s p.1 _ hcv) kpC_t kpC_b (Below.refl _ _) (fun _ => rfl)
    (fun pre W => (Boxed W w.heap.size 23 (.pointer (some ⟨b, 0, none⟩)) ∧ Boxed W (w.heap.size + 1) 3 (.int .i64 0) ∧ Boxed W (w.heap.size + 1 + 1) 3 (.int .i64 0) ∧ Boxed W (w.heap.size + 1 + 1 + 1) 25 (.int .i64 0) ∧ Boxed W (z + 1) 25 (.int .i64 (eW pre)) ∧ Boxed W (z + 1 + 1 + 1) 3 (.int .i64 p.1) ∧ noZ s pre ∧ Tp B W b s) ∧ Apart (fun k => k = b) w W)
    (fun c pre W => (c = .ret ∧ ∃ pre0 x q m, pre = pre0 ++ [x] ∧ noZ s pre0 ∧ s x = .zom q m ∧ Boxed W (w.heap.size + 1) 3 (.int .i64 x.1) ∧ Boxed W (w.heap.size + 1 + 1) 3 (.int .i64 m) ∧ Boxed W (w.heap.size + 1 + 1 + 1) 25 (.int .i64 0) ∧ Tp B W b (upd s x .no)) ∧ Apart (fun k => k = b) w W)
    (OwnFrom.and (Own.from (fun s A B row hs hg hr => by
      obtain ⟨h1, h2, h3, h4, h5, h6, h7, h8⟩ := hs
      exact ⟨box_kept h1 hg hr, box_kept h2 hg hr, box_kept h3 hg hr, box_kept h4 hg hr, box_kept h5 hg hr, box_kept h6 hg hr, h7, h8.kept hg hr⟩) _) (ownFrom_apart hs0))
    (fun c => OwnFrom.and (Own.from (fun s A B row hs hg hr => by
      obtain ⟨h0, pre0, x, q, m, h1, h2, h3, h4, h5, h6, h7⟩ := hs
      exact ⟨h0, pre0, x, q, m, h1, h2, h3, box_kept h4 hg hr, box_kept h5 hg hr, box_kept h6 hg hr, h7.kept hg hr⟩) _) (ownFrom_apart hs0))
    ⟨⟨e0, e1, e2, e3, b9, bF, (fun x hx => by cases hx), hT0⟩, hA0⟩
    (fun x => { tmps := #[.pointer (some ⟨b, 0, none⟩), .int .i64 p.1, .pointer (some ⟨w.heap.size, 0, none⟩), undef, .pointer (some ⟨w.heap.size + 1, 0, none⟩), .pointer (some ⟨w.heap.size + 1 + 1, 0, none⟩), .pointer (some ⟨w.heap.size + 1 + 1 + 1, 0, none⟩), .pointer (some ⟨z, 0, none⟩), .int .i64 0, .pointer (some ⟨z + 1, 0, none⟩), .int .i64 x.1, prV (s x), undef, undef, .tuple #[.agg #[.int .i64 qp], .int .i64 0], .pointer (some ⟨b, 0, none⟩), .int .i64 p.1, .tuple #[.agg #[.int .i64 qp], .int .i64 0], .agg #[.int .i64 qp], .int .i64 0, .int .i64 0, .bool false, undef, .pointer (some ⟨b, 0, none⟩), .int .i64 p.1, .func (.func 14) #[] #[.pointer (some ⟨z + 1 + 1, 0, none⟩), .pointer (some ⟨z + 1 + 1 + 1, 0, none⟩)], .int .i64 x.1, prV (s x), undef, undef, undef, undef, undef, undef, undef, undef, undef, undef, undef, undef, undef, undef, undef], defers := [] }) ?assign ?body ?done ?stop
  case assign =>
    intro l x W K hK
    simp only [chV]
    gi_wp2
    exact hK
  case body =>
    rintro l pre x W ⟨⟨f0, f1, f2, f3, f4, f5, hno, hT⟩, hA⟩ hlt
    have k0 := f0.cell
    have k4 := f4.cell
    have g4 := f4.frozen
    have hl0 := f0.lt
    have hl4 := f4.lt
    clear e0 e1 e2 e3 b9 bF hT0 hA0 hcv
    by_cases hzx : zomb (s x) = true
    · obtain ⟨q, m, hx⟩ := zomb_of _ hzx
      have t1 := fun w => taZ_zom q.1 m w
      have c0 := hT.at x
      have fx := hT.c.thaw x.1
      have hbW := hT.c.lt
      have hx6 : (x.1 : Int) < 6 := by have := x.2; omega
      have hTS := TS.slot hT x .no
      have HX := Hid3.mk hx
      rw [hx] at c0
      unfold prV at c0
      have hne0 : W.heap.size ≠ b := by omega
      have hal : ((W.setCell ⟨b, x.1, none⟩ .nilIface).alloc (.cells #[.int .i64 q.1, .int .i64 m] 47)).heap[W.heap.size]? = some (.cells #[.int .i64 q.1, .int .i64 m] 47 (0, 0)) := by
        have := heap_alloc_new (W.setCell ⟨b, x.1, none⟩ .nilIface) (.cells #[.int .i64 q.1, .int .i64 m] 47)
        rw [size_setCell] at this
        exact this
      have hm : ((W.setCell ⟨b, x.1, none⟩ .nilIface).alloc (.cells #[.int .i64 q.1, .int .i64 m] 47)).cell? ⟨W.heap.size, 1, none⟩ = some (.int .i64 m) := by
        rw [Lib.cell_of_heap hal]
        rfl
      have p1 := (bxFar f1 b x.1 (by omega) .nilIface).alloc (.cells #[.int .i64 q.1, .int .i64 m] 47)
      have p2 := (bxFar f2 b x.1 (by omega) .nilIface).alloc (.cells #[.int .i64 q.1, .int .i64 m] 47)
      have p3 := (bxFar f3 b x.1 (by omega) .nilIface).alloc (.cells #[.int .i64 q.1, .int .i64 m] 47)
      have hKO : KeepsOthers W ((W.setCell ⟨b, x.1, none⟩ .nilIface).alloc (.cells #[.int .i64 q.1, .int .i64 m] 47)) := (KeepsOthers.setCell _ _ _).trans (keeps_low (below_new _ _))
      have hA2 : Apart (fun k => k = b) w ((W.setCell ⟨b, x.1, none⟩ .nilIface).alloc (.cells #[.int .i64 q.1, .int .i64 m] 47)) := (hA.trans hTS.ap).trans (Apart.of_below (below_new _ _))
      have hT2 : Tp B ((W.setCell ⟨b, x.1, none⟩ .nilIface).alloc (.cells #[.int .i64 q.1, .int .i64 m] 47)) b (upd s x .no) := hTS.t.below (below_new _ _)
      rw [hx]
      unfold prV
      clear hzx hTS hx k4 g4 hal
      gi_wp2
      generalize (W.setCell ⟨b, x.1, none⟩ .nilIface).alloc (.cells #[.int .i64 q.1, .int .i64 m] 47) = Wm at *
      have hc1 := p1.cell
      have hf1 := p1.frozen
      have hc2 := p2.cell
      have hf2 := p2.frozen
      have hc3 := p3.cell
      have hf3 := p3.frozen
      have hL1 := p1.lt
      have hL2 := p2.lt
      have hL3 := p3.lt
      have hwz : w.heap.size + 1 + 1 + 1 < W.heap.size := f3.lt
      clear k0 c0 fx t1
      refine round_held2 (S := fun w' => w'.cell? ⟨W.heap.size, 1, none⟩ = some (.int .i64 m)) (by kernel_rfl) (by kernel_rfl) hm (fun hHeld => ?_)
      have hz1 : (Wm.drew.setCell ⟨w.heap.size + 1, 0, none⟩ (.int .i64 x.1)).cell? ⟨W.heap.size, 1, none⟩ = some (.int .i64 m) := (World.cell?_of_block (w := Wm) (Below.heap_setCell Wm.drew ⟨w.heap.size + 1, 0, none⟩ _ W.heap.size (by show W.heap.size ≠ w.heap.size + 1; omega))).trans hm
      have hz2 : ((Wm.drew.setCell ⟨w.heap.size + 1, 0, none⟩ (.int .i64 x.1)).setCell ⟨w.heap.size + 1 + 1, 0, none⟩ (.int .i64 m)).cell? ⟨W.heap.size, 1, none⟩ = some (.int .i64 m) := (World.cell?_of_block (w := Wm.drew.setCell ⟨w.heap.size + 1, 0, none⟩ (.int .i64 x.1)) (Below.heap_setCell _ ⟨w.heap.size + 1 + 1, 0, none⟩ _ W.heap.size (by show W.heap.size ≠ w.heap.size + 1 + 1; omega))).trans hz1
      have hz3 : (((Wm.drew.setCell ⟨w.heap.size + 1, 0, none⟩ (.int .i64 x.1)).setCell ⟨w.heap.size + 1 + 1, 0, none⟩ (.int .i64 m)).setCell ⟨w.heap.size + 1 + 1 + 1, 0, none⟩ (.int .i64 0)).cell? ⟨W.heap.size, 1, none⟩ = some (.int .i64 m) := (World.cell?_of_block (w := (Wm.drew.setCell ⟨w.heap.size + 1, 0, none⟩ (.int .i64 x.1)).setCell ⟨w.heap.size + 1 + 1, 0, none⟩ (.int .i64 m)) (Below.heap_setCell _ ⟨w.heap.size + 1 + 1 + 1, 0, none⟩ _ W.heap.size (by show W.heap.size ≠ w.heap.size + 1 + 1 + 1; omega))).trans hz2
      refine takeD (i := 0) (v := ?v1) (some 39) rfl rfl (by kernel_rfl) (by kernel_rfl) (by kernel_rfl) (fun _ _ _ h => by cases h.1) (Or.inl ⟨by rfl, ?hy1⟩) (by assumption) ?_
      case hy1 => (intro w' hSw; (try dsimp only at hSw); go_simp; try (with_reducible rfl))
      simp only [Act.put, List.setIfInBounds_toArray, List.set_cons_zero, List.set_cons_succ]
      refine takeD (i := 1) (v := ?v2) (some 40) rfl rfl (by kernel_rfl) (by kernel_rfl) (by kernel_rfl) (fun _ _ _ h => by cases h.1) (Or.inl ⟨by rfl, ?hy2⟩) (by assumption) ?_
      case hy2 => (intro w' hSw; (try dsimp only at hSw); go_simp; try (with_reducible rfl))
      simp only [Act.put, List.setIfInBounds_toArray, List.set_cons_zero, List.set_cons_succ]
      refine takeD (i := 2) (v := ?v3) (some 41) rfl rfl (by kernel_rfl) (by kernel_rfl) (by kernel_rfl) (fun _ _ _ h => by cases h.1) (Or.inl ⟨by rfl, ?hy3⟩) (by assumption) ?_
      case hy3 => (intro w' hSw; (try dsimp only at hSw); go_simp; try (with_reducible rfl))
      simp only [Act.put, List.setIfInBounds_toArray, List.set_cons_zero, List.set_cons_succ]
      refine wpAnyH_ready (rs := [3]) (by kernel_rfl) (by simp) (AllReadyH.cons rfl (fun K hK => ?_) AllReadyH.nil)
      go_simp
      refine hK.out _ _ hz1 (fun hHeld2 => ?_)
      clear hK K hHeld
      have hHeld := hHeld2
      clear hHeld2
      try simp only [Act.put, List.setIfInBounds_toArray, List.set_cons_zero, List.set_cons_succ]
      refine wpAnyH_ready (rs := [4]) (by kernel_rfl) (by simp) (AllReadyH.cons rfl (fun K hK => ?_) AllReadyH.nil)
      go_simp
      refine hK.out _ _ hz2 (fun hHeld2 => ?_)
      clear hK K hHeld
      have hHeld := hHeld2
      clear hHeld2
      try simp only [Act.put, List.setIfInBounds_toArray, List.set_cons_zero, List.set_cons_succ]
      refine wpAnyH_ready (rs := [5]) (by kernel_rfl) (by simp) (AllReadyH.cons rfl (fun K hK => ?_) AllReadyH.nil)
      go_simp
      refine hK.out _ _ hz3 (fun hHeld2 => ?_)
      clear hK K hHeld
      have hHeld := hHeld2
      clear hHeld2
      try simp only [Act.put, List.setIfInBounds_toArray, List.set_cons_zero, List.set_cons_succ]
      refine wpAnyH_done (by kernel_rfl) ⟨rfl, ?_⟩ _
      have hbw : b < w.heap.size := hbl
      have hw0 : Boxed Wm.drew (w.heap.size + 1) 3 (.int .i64 0) := p1
      have hw2 : Boxed Wm.drew (w.heap.size + 1 + 1) 3 (.int .i64 0) := p2
      have hw3 : Boxed Wm.drew (w.heap.size + 1 + 1 + 1) 25 (.int .i64 0) := p3
      have hKO2 : KeepsOthers Wm (((Wm.drew.setCell ⟨w.heap.size + 1, 0, none⟩ (.int .i64 x.1)).setCell ⟨w.heap.size + 1 + 1, 0, none⟩ (.int .i64 m)).setCell ⟨w.heap.size + 1 + 1 + 1, 0, none⟩ (.int .i64 0)) := ((keeps_low ((Below.refl _ Wm).drew)).trans (KeepsOthers.setCell _ _ _)).trans ((KeepsOthers.setCell _ _ _).trans (KeepsOthers.setCell _ _ _))
      have HE1 : Hid3 (Boxed (((Wm.drew.setCell ⟨w.heap.size + 1, 0, none⟩ (.int .i64 x.1)).setCell ⟨w.heap.size + 1 + 1, 0, none⟩ (.int .i64 m)).setCell ⟨w.heap.size + 1 + 1 + 1, 0, none⟩ (.int .i64 0)) (w.heap.size + 1) 3 (.int .i64 x.1)) := ⟨bxFar (bxFar (hw0.set _) _ _ (by omega) _) _ _ (by omega) _⟩
      have HE2 : Hid3 (Boxed (((Wm.drew.setCell ⟨w.heap.size + 1, 0, none⟩ (.int .i64 x.1)).setCell ⟨w.heap.size + 1 + 1, 0, none⟩ (.int .i64 m)).setCell ⟨w.heap.size + 1 + 1 + 1, 0, none⟩ (.int .i64 0)) (w.heap.size + 1 + 1) 3 (.int .i64 m)) := ⟨bxFar ((bxFar hw2 _ _ (by omega) _).set _) _ _ (by omega) _⟩
      have HE3 : Hid3 (Boxed (((Wm.drew.setCell ⟨w.heap.size + 1, 0, none⟩ (.int .i64 x.1)).setCell ⟨w.heap.size + 1 + 1, 0, none⟩ (.int .i64 m)).setCell ⟨w.heap.size + 1 + 1 + 1, 0, none⟩ (.int .i64 0)) (w.heap.size + 1 + 1 + 1) 25 (.int .i64 0)) := ⟨(bxFar (bxFar hw3 _ _ (by omega) _) _ _ (by omega) _).set _⟩
      have HT5 : Hid3 (Tp B (((Wm.drew.setCell ⟨w.heap.size + 1, 0, none⟩ (.int .i64 x.1)).setCell ⟨w.heap.size + 1 + 1, 0, none⟩ (.int .i64 m)).setCell ⟨w.heap.size + 1 + 1 + 1, 0, none⟩ (.int .i64 0)) b (upd s x .no)) := ⟨⟨hT2.g, ((Cl.other (w := Wm.drew) hT2.c (by omega) _ _).other (by omega) _ _).other (by omega) _ _⟩⟩
      have HA5 : Hid3 (Apart (fun k => k = b) w (((Wm.drew.setCell ⟨w.heap.size + 1, 0, none⟩ (.int .i64 x.1)).setCell ⟨w.heap.size + 1 + 1, 0, none⟩ (.int .i64 m)).setCell ⟨w.heap.size + 1 + 1 + 1, 0, none⟩ (.int .i64 0))) := ⟨((hA2.drew.more _ 0 _ (.inr (by omega))).more _ 0 _ (.inr (by omega))).more _ 0 _ (.inr (by omega))⟩
      have HK5 := Hid3.mk (hKO.trans hKO2)
      gi_wp2
      exact ⟨HK5.out.from _, ⟨rfl, pre, x, q, m, rfl, hno, HX.out, HE1.out, HE2.out, HE3.out, HT5.out⟩, HA5.out⟩
    · have hzf : zomb (s x) = false := by simpa using hzx
      have t1 : ∀ w, (Instr.typeAssert (prV (s x)) 34 47 true).run Try.prog w = .ok (.tuple #[.agg #[.int .i64 0, .int .i64 0], .bool false]) w := fun w => by
        cases hx : s x with
        | no => exact taZ_no w
        | run q => exact taZ_run q.1 w
        | zom q m => rw [hx] at hzf; cases hzf
      have hno2 := noZ_snoc hno hzf
      have he2 : eW (pre ++ [x]) = 12 := by unfold eW; rw [if_neg (by simp)]
      have HN2 := Hid3.mk hno2
      have HE2 := Hid3.mk he2
      generalize prV (s x) = pv at *
      clear hzx hzf hno2 he2
      generalize eW pre = ew at *
      gi_wp2
      have al : ∀ d t v, d ≠ z + 1 → Boxed W d t v → Boxed ((W.setCell ⟨z + 1, 0, none⟩ (.int .i64 12)).alloc (.cells #[.int .i64 0, .int .i64 0] 47)) d t v := fun d t v hd h => (bxFar h _ _ hd _).alloc _
      have q5 := al _ _ _ (by omega) f5
      have hKO : KeepsOthers W ((W.setCell ⟨z + 1, 0, none⟩ (.int .i64 12)).alloc (.cells #[.int .i64 0, .int .i64 0] 47)) := (KeepsOthers.setCell _ _ _).trans (keeps_low (below_new _ _))
      refine ⟨hKO.from _, kpX_of hKO.walks f5 q5, ⟨al _ _ _ (by omega) f0, al _ _ _ (by omega) f1, al _ _ _ (by omega) f2, al _ _ _ (by omega) f3, by rw [HE2.out]; exact (f4.set _).alloc _, q5, HN2.out, ⟨hT.g, (hT.c.other (by have := hbl; omega) _ _).alloc _⟩⟩, (hA.more _ 0 _ (.inr (by omega))).trans (Apart.of_below (below_new _ _))⟩
  case done =>
    rintro D ys W hD hys ⟨⟨f0, f1, f2, f3, f4, f5, hno, hT⟩, hA⟩ hK
    rw [hcs] at hys
    subst hys
    have hw := HW1.out hno
    have hew : eW (chs s p) = if chs s p = [] then 3 else 12 := rfl
    rw [← hew] at hw
    simp only [Prod.mk.injEq] at hw
    obtain ⟨rfl, rfl, hw, rfl⟩ := hw
    have k1 := f1.cell
    have k2 := f2.cell
    have k3 := f3.cell
    have k4 := f4.cell
    have g1 := f1.frozen
    have g2 := f2.frozen
    have g3 := f3.frozen
    have l1 := f1.lt
    have l2 := f2.lt
    have l3 := f3.lt
    have l4 := f4.lt
    clear e0 e1 e2 e3 b9 bF hT0 hA0 hcv hew
    rw [← hw] at k4
    clear hw f4
    have hbw : b < w.heap.size := hbl
    have hKO : KeepsOthers W (((W.setCell ⟨w.heap.size + 1, 0, none⟩ (.int .i64 0)).setCell ⟨w.heap.size + 1 + 1, 0, none⟩ (.int .i64 0)).setCell ⟨w.heap.size + 1 + 1 + 1, 0, none⟩ (.int .i64 ee0)).drew := (((KeepsOthers.setCell _ _ _).trans (KeepsOthers.setCell _ _ _)).trans (KeepsOthers.setCell _ _ _)).trans (keeps_low ((Below.refl _ _).drew))
    have E1 : Boxed (((W.setCell ⟨w.heap.size + 1, 0, none⟩ (.int .i64 0)).setCell ⟨w.heap.size + 1 + 1, 0, none⟩ (.int .i64 0)).setCell ⟨w.heap.size + 1 + 1 + 1, 0, none⟩ (.int .i64 ee0)).drew (w.heap.size + 1) 3 (.int .i64 0) := bxFar (bxFar (f1.set _) _ _ (by omega) _) _ _ (by omega) _
    have E2 : Boxed (((W.setCell ⟨w.heap.size + 1, 0, none⟩ (.int .i64 0)).setCell ⟨w.heap.size + 1 + 1, 0, none⟩ (.int .i64 0)).setCell ⟨w.heap.size + 1 + 1 + 1, 0, none⟩ (.int .i64 ee0)).drew (w.heap.size + 1 + 1) 3 (.int .i64 0) := bxFar ((bxFar f2 _ _ (by omega) _).set _) _ _ (by omega) _
    have E3 : Boxed (((W.setCell ⟨w.heap.size + 1, 0, none⟩ (.int .i64 0)).setCell ⟨w.heap.size + 1 + 1, 0, none⟩ (.int .i64 0)).setCell ⟨w.heap.size + 1 + 1 + 1, 0, none⟩ (.int .i64 ee0)).drew (w.heap.size + 1 + 1 + 1) 25 (.int .i64 ee0) := (bxFar (bxFar f3 _ _ (by omega) _) _ _ (by omega) _).set _
    have hT5 : Tp B (((W.setCell ⟨w.heap.size + 1, 0, none⟩ (.int .i64 0)).setCell ⟨w.heap.size + 1 + 1, 0, none⟩ (.int .i64 0)).setCell ⟨w.heap.size + 1 + 1 + 1, 0, none⟩ (.int .i64 ee0)).drew b s0 := ⟨hT.g, ((hT.c.other (by omega) _ _).other (by omega) _ _).other (by omega) _ _⟩
    have hA5 : Apart (fun k => k = b) w (((W.setCell ⟨w.heap.size + 1, 0, none⟩ (.int .i64 0)).setCell ⟨w.heap.size + 1 + 1, 0, none⟩ (.int .i64 0)).setCell ⟨w.heap.size + 1 + 1 + 1, 0, none⟩ (.int .i64 ee0)).drew := (((hA.more _ 0 _ (.inr (by omega))).more _ 0 _ (.inr (by omega))).more _ 0 _ (.inr (by omega))).drew
    have HE := Hid3.mk (And.intro E1 (And.intro E2 (And.intro E3 (And.intro hT5 (And.intro hA5 hKO)))))
    clear E1 E2 E3 hT5 hA5 hKO
    gi_wp2
    gi_region
    gi_wp2
    obtain ⟨E1, E2, E3, hT5, hA5, hKO⟩ := HE.out
    have hK' := hKO.same D _ hK rfl
    have kept : ∀ r, some D = some r → ∃ o : Obj, (((W.setCell ⟨w.heap.size + 1, 0, none⟩ (.int .i64 0)).setCell ⟨w.heap.size + 1 + 1, 0, none⟩ (.int .i64 0)).setCell ⟨w.heap.size + 1 + 1 + 1, 0, none⟩ (.int .i64 ee0)).drew.heap[r]? = some o ∧ o.isCells = false := fun r e => by cases e; exact ⟨_, hK', rfl⟩
    have j1 := (box_kept E1 (grownBy_putObj' _ D (.deferred none)) kept).cell
    have j2 := (box_kept E2 (grownBy_putObj' _ D (.deferred none)) kept).cell
    have j3 := (box_kept E3 (grownBy_putObj' _ D (.deferred none)) kept).cell
    have hT3 := hT5.kept (grownBy_putObj' _ D (.deferred none)) kept
    have hA3 := apartK_b hA5 D (.deferred none) (by omega)
    refine ⟨by simp, .inl ⟨_, _, rfl, run_takeDeferred hK', ?_⟩⟩
    refine ⟨.tuple #[.int .i64 0, .int .i64 0, .int .i64 ee0], by simp [results, Try.f7, go_sem, j1, j2, j3], rfl, hT3, hA3⟩
  case stop =>
    rintro D c pre W hD hpre ⟨⟨rfl, pre0, x, q, m, rfl, hno, hx, f1, f2, f3, hT⟩, hA⟩ hK
    rw [hcs] at hpre
    have hw := HW2.out x q m pre0 hno hx hpre
    simp only [Prod.mk.injEq] at hw
    obtain ⟨rfl, rfl, rfl, rfl⟩ := hw
    gi_wp2
    have kept : ∀ r, some D = some r → ∃ o : Obj, W.heap[r]? = some o ∧ o.isCells = false := fun r e => by cases e; exact ⟨_, hK, rfl⟩
    have j1 := (box_kept f1 (grownBy_putObj' _ D (.deferred none)) kept).cell
    have j2 := (box_kept f2 (grownBy_putObj' _ D (.deferred none)) kept).cell
    have j3 := (box_kept f3 (grownBy_putObj' _ D (.deferred none)) kept).cell
    have hT3 := hT.kept (grownBy_putObj' _ D (.deferred none)) kept
    have hA3 := apartK_b hA D (.deferred none) (by omega)
    refine ⟨by simp, .inl ⟨_, _, rfl, run_takeDeferred hK, ?_⟩⟩
    refine ⟨.tuple #[.int .i64 x.1, .int .i64 n0, .int .i64 0], by simp [results, Try.f7, go_sem, j1, j2, j3], rfl, hT3, hA3⟩
theorem wait_any (B b : Nat) (s : Pt) (p : Fin 6) (w : World) (h : Tp B w b s) (hp : runs (s p) = true) : Calls Try.prog 7 #[.pointer (some ⟨b, 0, none⟩), .int .i64 p.1] w fun r w' => r = .returned (.tuple #[.int .i64 (wtX s p).1, .int .i64 (wtX s p).2.1, .int .i64 (wtX s p).2.2.1]) ∧ TS B w w' b (wtX s p).2.2.2 :=
  (callsIn_wide (n := 5)).1 (wait_in B b s p w h hp 5 (by omega))
set_option maxHeartbeats 1000000 in
theorem wait_err (B b : Nat) (s : Pt) (pid : Int) (w : World) (h : Tp B w b s) (hp : runs (gt s pid) = false) : Calls Try.prog 7 #[.pointer (some ⟨b, 0, none⟩), .int .i64 pid] w fun r w' => r = .returned (.tuple #[.int .i64 0, .int .i64 0, .int .i64 5]) ∧ Below w.heap.size w w' := by
  have hX : Below w.heap.size w ((((w.alloc (.cells #[.pointer (some ⟨b, 0, none⟩)] 23)).alloc (.cells #[.int .i64 0] 3)).alloc (.cells #[.int .i64 0] 3)).alloc (.cells #[.int .i64 0] 25)) := ((((Below.refl _ w).alloc (Nat.le_refl _) _).alloc (by simp) _).alloc (by simp; omega) _).alloc (by simp; omega) _
  have cR := runs_any B b s pid _ (h.below hX)
  have he : ruE (gt s pid) = 5 := by cases hx : gt s pid <;> rw [hx] at hp <;> first | rfl | cases hp
  rw [he] at cR
  have HX := Hid3.mk hX
  generalize ruP (gt s pid) = qp at *
  clear h hp he hX
  go_enter Try.func7, Try.ntmps7
  go_wp2_with fail
  refine cR.mono ?_
  rintro r W1 ⟨rfl, hB1⟩
  have b1 := bxLow (((Boxed.new (w.alloc (.cells #[.pointer (some ⟨b, 0, none⟩)] 23)) 3 (.int .i64 0)).alloc (.cells #[.int .i64 0] 3)).alloc (.cells #[.int .i64 0] 25)) hB1
  have b2 := bxLow ((Boxed.new ((w.alloc (.cells #[.pointer (some ⟨b, 0, none⟩)] 23)).alloc (.cells #[.int .i64 0] 3)) 3 (.int .i64 0)).alloc (.cells #[.int .i64 0] 25)) hB1
  have b3 := bxLow (Boxed.new (((w.alloc (.cells #[.pointer (some ⟨b, 0, none⟩)] 23)).alloc (.cells #[.int .i64 0] 3)).alloc (.cells #[.int .i64 0] 3)) 25 (.int .i64 0)) hB1
  simp only [World.size_alloc] at b1 b2 b3
  have c1 := b1.cell
  have c2 := b2.cell
  have c3 := b3.cell
  have g1 := b1.frozen
  have g2 := b2.frozen
  have g3 := b3.frozen
  have l1 := b1.lt
  have l2 := b2.lt
  have l3 := b3.lt
  have HB1 := Hid3.mk (HX.out.trans (hB1.mono HX.out.size))
  have HB : Hid3 (Below w.heap.size w ((((W1.setCell ⟨w.heap.size + 1, 0, none⟩ (.int .i64 0)).setCell ⟨w.heap.size + 1 + 1, 0, none⟩ (.int .i64 0)).setCell ⟨w.heap.size + 1 + 1 + 1, 0, none⟩ (.int .i64 5)).alloc (.cells #[.int .i64 qp] 39))) := ⟨(((HB1.out.setCell (p := ⟨w.heap.size + 1, 0, none⟩) (by show w.heap.size ≤ w.heap.size + 1; omega) _).setCell (p := ⟨w.heap.size + 1 + 1, 0, none⟩) (by show w.heap.size ≤ w.heap.size + 1 + 1; omega) _).setCell (p := ⟨w.heap.size + 1 + 1 + 1, 0, none⟩) (by show w.heap.size ≤ w.heap.size + 1 + 1 + 1; omega) _).alloc (by simp; omega) _⟩
  have E1 := ((bxFar (bxFar (b1.set (.int .i64 0)) (w.heap.size + 1 + 1) 0 (by omega) (.int .i64 0)) (w.heap.size + 1 + 1 + 1) 0 (by omega) (.int .i64 5)).alloc (.cells #[.int .i64 qp] 39)).cell
  have E2 := ((bxFar ((bxFar b2 (w.heap.size + 1) 0 (by omega) (.int .i64 0)).set (.int .i64 0)) (w.heap.size + 1 + 1 + 1) 0 (by omega) (.int .i64 5)).alloc (.cells #[.int .i64 qp] 39)).cell
  have E3 := (((bxFar (bxFar b3 (w.heap.size + 1) 0 (by omega) (.int .i64 0)) (w.heap.size + 1 + 1) 0 (by omega) (.int .i64 0)).set (.int .i64 5)).alloc (.cells #[.int .i64 qp] 39)).cell
  have HE := Hid3.mk (And.intro E1 (And.intro E2 E3))
  clear cR hB1 b1 b2 b3 E1 E2 E3
  go_wp2
  obtain ⟨E1, E2, E3⟩ := HE.out
  refine bodyPost_ret (v := .tuple #[.int .i64 0, .int .i64 0, .int .i64 5]) (by simp [results, Try.results7, go_sem, E1, E2, E3]) rfl ⟨rfl, ?_⟩
  exact HB.out
end Go.Proofs.Ytnbmancadaeejaa
