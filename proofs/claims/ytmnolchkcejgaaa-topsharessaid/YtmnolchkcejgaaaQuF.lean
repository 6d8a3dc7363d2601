/- Whose turn it is next. -/
import Derived.Test.YtmnolchkcejgaaaQuE
import Derived.Test.YtmnolchkcejgaaaRounds
namespace Go.Proofs.Ytmnolchkcejgaaa
open Go.RowKit Go.Shelf Go.Maps
set_option linter.unusedVariables false
set_option maxRecDepth 100000
attribute [local go_sem] Oper.semAt_some

/-- The penalties behind some that were passed; none: one was not. -/
def passP : List Pe → (Fin 6 → Nat) → Option (Fin 6 → Nat)
  | [], pen => some pen
  | x :: xs, pen => if pen x.2 = 0 then none else passP xs (upd pen x.2 (pen x.2 - 1))
def goS : List Pe → (Fin 6 → Nat) → (Fin 6 → Nat) × Option Pe
  | [], pen => (pen, none)
  | x :: xs, pen => if pen x.2 = 0 then (pen, some x) else goS xs (upd pen x.2 (pen x.2 - 1))
theorem passP_snoc : ∀ (l : List Pe) (x : Pe) (pen p : Fin 6 → Nat), passP l pen = some p → p x.2 ≠ 0 → passP (l ++ [x]) pen = some (upd p x.2 (p x.2 - 1))
  | [], x, pen, p, h, h0 => by
    simp only [passP, Option.some.injEq] at h
    subst h
    simp [passP, h0]
  | y :: l, x, pen, p, h, h0 => by
    simp only [passP, List.cons_append] at h ⊢
    split at h
    · cases h
    · rename_i hy
      rw [if_neg hy]
      exact passP_snoc l x _ p h h0
theorem goS_pass : ∀ (l r : List Pe) (pen p : Fin 6 → Nat), passP l pen = some p → goS (l ++ r) pen = goS r p
  | [], r, pen, p, h => by
    simp only [passP, Option.some.injEq] at h
    subst h
    rfl
  | y :: l, r, pen, p, h => by
    simp only [passP, List.cons_append, goS] at h ⊢
    split at h
    · cases h
    · rename_i hy
      rw [if_neg hy]
      exact goS_pass l r _ p h
theorem passP_le : ∀ (l : List Pe) (pen p : Fin 6 → Nat), passP l pen = some p → ∀ e, p e ≤ pen e
  | [], pen, p, h, e => by
    simp only [passP, Option.some.injEq] at h
    subst h
    exact Nat.le_refl _
  | y :: l, pen, p, h, e => by
    simp only [passP] at h
    split at h
    · cases h
    · refine Nat.le_trans (passP_le l _ p h e) ?_
      unfold upd
      split
      · rename_i e2; subst e2; omega
      · exact Nat.le_refl _
def turnS (q : Qs) : (Fin 6 → Nat) × Option Pe := goS (tkL q.pl (q.now.1 + 1) 8) q.pen
def turnQ (q : Qs) : Qs := { q with pen := (turnS q).1, now := match (turnS q).2 with
  | none => q.now
  | some x => x.1 }
def turnV (o : Option Pe) : Value := match o with
  | none => .tuple #[.int .i64 0, .int .u8 0, .bool false]
  | some x => .tuple #[.int .i64 x.1.1, .int .u8 x.2.1, .bool true]
theorem Cl.kept {W W' : World} {row : Option Nat} {b : Nat} {t : TypeId} {c : List Value} (h : Cl W b t c) (hg : W.grownBy W' row) (hr : ∀ r, row = some r → ∃ o : Obj, W.heap[r]? = some o ∧ o.isCells = false) : Cl W' b t c :=
  (grownBy_keeps_cells hg hr h rfl).trans h
theorem Vec.kept {B : Nat} {W W' : World} {row : Option Nat} {vb pb : Nat} {q : Qs} (h : Vec B W vb pb q) (hg : W.grownBy W' row) (hr : ∀ r, row = some r → ∃ o : Obj, W.heap[r]? = some o ∧ o.isCells = false) : Vec B W' vb pb q := ⟨h.gv, h.gp, h.v.kept hg hr, h.p.kept hg hr⟩
theorem ownFrom_apart {β : Type} {B : Nat} {w : World} {X : Nat → Prop} (hB : w.heap.size ≤ B) : OwnFrom B (fun (_ : β) W => Apart X w W) :=
  fun _ W W' row hs hg hr => ⟨hg.os.trans hs.os, hg.tape.trans hs.tape, hg.output.trans hs.output, Nat.le_trans hs.size hg.size, fun k hk hx => by
    refine (hg.block k (Nat.lt_of_lt_of_le hk hs.size) (fun e => ?_)).trans (hs.block k hk hx)
    have := (hr k e.symm).1
    omega⟩
theorem apartK_b {w W : World} {X : Nat → Prop} (h : Apart X w W) (D : Nat) (o : Obj) (hD : w.heap.size ≤ D) : Apart X w (W.putObj D o) :=
  ⟨h.os, h.tape, h.output, by rw [show (W.putObj D o).heap.size = W.heap.size by simp]; exact h.size, fun k hk hx => (World.putObj_heap_other (by omega)).trans (h.block k hk hx)⟩
theorem kpC_v {B bv bf vb pb : Nat} {W W' : World} {tv tf : TypeId} {xv xf : Value} {q q' : Qs} (hk : KeepsWalks W W') (h : Vec B W vb pb q) (h' : Vec B W' vb pb q') (hq : q'.pl = q.pl) (b1 : Boxed W bv tv xv) (b2 : Boxed W' bv tv xv) (b3 : Boxed W bf tf xf) (b4 : Boxed W' bf tf xf) : KpC (XA bv bf vb pb) W W' := by
  refine ⟨hk, fun a v hx e => ?_⟩
  rcases hx with (rfl | rfl) | (rfl | ⟨j, rfl⟩)
  · rw [b1.cell] at e; cases e; exact b2.cell
  · rw [b3.cell] at e; cases e; exact b4.cell
  · rw [h.c.c0] at e; cases e; exact h'.c.c0
  · rw [h.p.cell] at e; rw [h'.p.cell, hq]; exact e

theorem Vec.other {B : Nat} {W : World} {vb pb : Nat} {q : Qs} (h : Vec B W vb pb q) (d j : Nat) (u : Value) (h1 : vb ≠ d) (h2 : pb ≠ d) : Vec B (W.setCell ⟨d, j, none⟩ u) vb pb q := ⟨h.gv, h.gp, h.v.other h1 _ _, h.p.other h2 _ _⟩
theorem Apart.more {X : Nat → Prop} {w W : World} (h : Apart X w W) (d j : Nat) (u : Value) (hd : X d ∨ w.heap.size ≤ d) : Apart X w (W.setCell ⟨d, j, none⟩ u) :=
  h.then (Y := fun k => k = d) (Apart.at W d j u rfl) (fun i hi e => by
    subst e
    rcases hd with hd | hd
    · exact hd
    · omega)
theorem boxOff {W : World} {b d j : Nat} {t : TypeId} {v : Value} (h : Boxed W b t v) (hne : b ≠ d) (u : Value) : Boxed (W.setCell ⟨d, j, none⟩ u) b t v := (Below.heap_setCell W ⟨d, j, none⟩ u b hne).trans h
set_option maxHeartbeats 1000000 in
theorem turn_in (B vb pb : Nat) (q : Qs) (w : World) (h : Vec B w vb pb q) (hq : q.Ok) (n : Nat) (hn : 5 ≤ n) :
    CallsIn Fence.wide n Try.prog 6 #[.pointer (some ⟨vb, 0, none⟩)] w fun e W' => e = .returned (turnV (turnS q).2) ∧ VStp B w W' vb pb (turnQ q) := by
  have hw1 : 1 ≤ n := by omega
  have hro : Fence.wide.round = none := rfl
  have hlv := h.c.lv
  have hlp := h.c.lp
  have cn := h.c.cn
  have hn8 : ((q.now.1 : Int)) < 8 := by have := q.now.2; omega
  have HV : Hid (Vec B w vb pb q) := h
  have HQ : Hid (∀ e, q.pen e ≤ 1000) := hq
  clear h hq
  refine callsIn_of_wp_marks Try.func6 rfl trivial ?_ rfl
  simp only [Try.ntmps6, List.size_toArray, List.length_cons, List.length_nil, Nat.reduceAdd, Nat.reduceSub, Array.replicate_succ, Array.replicate_zero, List.push_toArray, List.append_toArray, List.nil_append, List.cons_append]
  gi_wp2
  have b1 := Boxed.new w 23 (.pointer (some ⟨vb, 0, none⟩))
  have b2 := Boxed.new (w.alloc (.cells #[.pointer (some ⟨vb, 0, none⟩)] 23)) 3 (.int .i64 0)
  have b3 := Boxed.new ((w.alloc (.cells #[.pointer (some ⟨vb, 0, none⟩)] 23)).alloc (.cells #[.int .i64 0] 3)) 5 (.int .u8 0)
  have b4 := Boxed.new (((w.alloc (.cells #[.pointer (some ⟨vb, 0, none⟩)] 23)).alloc (.cells #[.int .i64 0] 3)).alloc (.cells #[.int .u8 0] 5)) 4 (.bool false)
  simp only [World.size_alloc] at b2 b3 b4
  have hB0 : Below w.heap.size w ((((w.alloc (.cells #[.pointer (some ⟨vb, 0, none⟩)] 23)).alloc (.cells #[.int .i64 0] 3)).alloc (.cells #[.int .u8 0] 5)).alloc (.cells #[.bool false] 4)) := ((((Below.refl _ w).alloc (Nat.le_refl _) _).alloc (by simp) _).alloc (by simp; omega) _).alloc (by simp; omega) _
  have c1 := ((b1.alloc (.cells #[.int .i64 0] 3)).alloc (.cells #[.int .u8 0] 5)).alloc (.cells #[.bool false] 4)
  have c2 := (b2.alloc (.cells #[.int .u8 0] 5)).alloc (.cells #[.bool false] 4)
  have c3 := b3.alloc (.cells #[.bool false] 4)
  have hsz : ((((w.alloc (.cells #[.pointer (some ⟨vb, 0, none⟩)] 23)).alloc (.cells #[.int .i64 0] 3)).alloc (.cells #[.int .u8 0] 5)).alloc (.cells #[.bool false] 4)).heap.size = w.heap.size + 1 + 1 + 1 + 1 := by simp
  clear b1 b2 b3
  generalize ((((w.alloc (.cells #[.pointer (some ⟨vb, 0, none⟩)] 23)).alloc (.cells #[.int .i64 0] 3)).alloc (.cells #[.int .u8 0] 5)).alloc (.cells #[.bool false] 4)) = W0 at *
  have HV0 : Hid (Vec B W0.drew vb pb q) := HV.out.below ⟨hB0.os, hB0.tape, hB0.output, hB0.size, hB0.block⟩
  have cb := c1.cell
  have HS0 : Hid (W0.heap.size = w.heap.size + 1 + 1 + 1 + 1) := hsz
  clear hsz
  have hlt0 : w.heap.size < W0.heap.size := c1.lt
  have cN := fun W (hW : Vec B W vb pb q) => vnow_any vb pb q W hW.c
  have cT := fun W => (callsIn_wide (n := 0)).1 (tk_in 0 vb ((q.now.1 : Int) + 1) W)
  have hw8 : IntKind.i64.wrap ((q.now.1 : Int) + 1) = (q.now.1 : Int) + 1 := by rw [IntKind.wrap_i64]; omega
  refine wpIn_wide.2 ?_
  go_region_held3 (fun w' => w'.cell? ⟨w.heap.size, 0, none⟩ = some (.pointer (some ⟨vb, 0, none⟩))) (simp [go_sem, cb, hlt0]) ((first | (go_at_call 9; refine (cN _ HV0.out).mono ?_; rintro e w' ⟨rfl, rfl⟩) | (go_at_call 8; refine (cT _).mono ?_; rintro e w' ⟨rfl, rfl⟩)))
  gi_wp2
  have d5 := Boxed.new W0 23 (.pointer (some ⟨vb, 0, none⟩))
  have d6 := Boxed.new (W0.alloc (.cells #[.pointer (some ⟨vb, 0, none⟩)] 23)) 3 (.int .i64 ((q.now.1 : Int) + 1))
  simp only [World.size_alloc] at d6
  have hB1 : Below w.heap.size w ((W0.alloc (.cells #[.pointer (some ⟨vb, 0, none⟩)] 23)).alloc (.cells #[.int .i64 ((q.now.1 : Int) + 1)] 3)).drew := by
    have := (hB0.alloc hB0.size (.cells #[.pointer (some ⟨vb, 0, none⟩)] 23)).alloc (Nat.le_trans hB0.size (by simp)) (.cells #[.int .i64 ((q.now.1 : Int) + 1)] 3)
    exact ⟨this.os, this.tape, this.output, this.size, this.block⟩
  have e1 : Boxed ((W0.alloc (.cells #[.pointer (some ⟨vb, 0, none⟩)] 23)).alloc (.cells #[.int .i64 ((q.now.1 : Int) + 1)] 3)).drew w.heap.size 23 (.pointer (some ⟨vb, 0, none⟩)) := (c1.alloc _).alloc _
  have e2 : Boxed ((W0.alloc (.cells #[.pointer (some ⟨vb, 0, none⟩)] 23)).alloc (.cells #[.int .i64 ((q.now.1 : Int) + 1)] 3)).drew (w.heap.size + 1) 3 (.int .i64 0) := (c2.alloc _).alloc _
  have e3 : Boxed ((W0.alloc (.cells #[.pointer (some ⟨vb, 0, none⟩)] 23)).alloc (.cells #[.int .i64 ((q.now.1 : Int) + 1)] 3)).drew (w.heap.size + 1 + 1) 5 (.int .u8 0) := (c3.alloc _).alloc _
  have e4 : Boxed ((W0.alloc (.cells #[.pointer (some ⟨vb, 0, none⟩)] 23)).alloc (.cells #[.int .i64 ((q.now.1 : Int) + 1)] 3)).drew (w.heap.size + 1 + 1 + 1) 4 (.bool false) := (b4.alloc _).alloc _
  have e5 : Boxed ((W0.alloc (.cells #[.pointer (some ⟨vb, 0, none⟩)] 23)).alloc (.cells #[.int .i64 ((q.now.1 : Int) + 1)] 3)).drew W0.heap.size 23 (.pointer (some ⟨vb, 0, none⟩)) := d5.alloc _
  have e6 : Boxed ((W0.alloc (.cells #[.pointer (some ⟨vb, 0, none⟩)] 23)).alloc (.cells #[.int .i64 ((q.now.1 : Int) + 1)] 3)).drew (W0.heap.size + 1) 3 (.int .i64 ((q.now.1 : Int) + 1)) := d6
  have hs1 : ((W0.alloc (.cells #[.pointer (some ⟨vb, 0, none⟩)] 23)).alloc (.cells #[.int .i64 ((q.now.1 : Int) + 1)] 3)).drew.heap.size = w.heap.size + 6 := by
    have := HS0.out
    show ((W0.alloc _).alloc _).heap.size = _
    simp; omega
  clear c1 c2 c3 b4 d5 d6 cb hlt0 cN cT hw8 HV0 hB0 cn
  generalize ((W0.alloc (.cells #[.pointer (some ⟨vb, 0, none⟩)] 23)).alloc (.cells #[.int .i64 ((q.now.1 : Int) + 1)] 3)).drew = W1 at *
  generalize W0.heap.size = z at *
  have hz1 : w.heap.size + 3 < z := by have := HS0.out; omega
  have HS1 : Hid (W1.heap.size = w.heap.size + 6) := hs1
  have hs1' : w.heap.size ≤ W1.heap.size := by omega
  clear hs1 HS0
  have hV1 := HV.out.below hB1
  have hA1 : Apart (XV vb pb) w W1 := Apart.of_below hB1
  have hcv : TkC W1 z (z + 1) vb pb (q.now.1 + 1) q.pl := TkC.of hV1.c e5.cell e6.cell
  refine wpIn_rangeFunc_ownG hro hw1 (gf := 10) (lb := #[.pointer (some ⟨z, 0, none⟩), .pointer (some ⟨z + 1, 0, none⟩)]) rfl trivial (enters_of Try.func10 (by kernel_rfl) rfl)
    (tk_stops (n - 1) (by omega) z (z + 1) vb pb (q.now.1 + 1) (by omega) q.pl _ hcv) kpC_t kpC_b (Below.refl _ _) (fun _ => rfl)
    (fun pre W => (Boxed W w.heap.size 23 (.pointer (some ⟨vb, 0, none⟩)) ∧ Boxed W (w.heap.size + 1) 3 (.int .i64 0) ∧ Boxed W (w.heap.size + 1 + 1) 5 (.int .u8 0) ∧ Boxed W (w.heap.size + 1 + 1 + 1) 4 (.bool false) ∧ Boxed W z 23 (.pointer (some ⟨vb, 0, none⟩)) ∧ Boxed W (z + 1) 3 (.int .i64 ((q.now.1 : Int) + 1)) ∧ ∃ p, passP pre q.pen = some p ∧ Vec B W vb pb { q with pen := p }) ∧ Apart (XV vb pb) w W)
    (fun c pre W => (c = .ret ∧ ∃ pre0 x p, pre = pre0 ++ [x] ∧ passP pre0 q.pen = some p ∧ p x.2 = 0 ∧ Boxed W (w.heap.size + 1) 3 (.int .i64 x.1.1) ∧ Boxed W (w.heap.size + 1 + 1) 5 (.int .u8 x.2.1) ∧ Boxed W (w.heap.size + 1 + 1 + 1) 4 (.bool true) ∧ Vec B W vb pb { q with pen := p, now := x.1 }) ∧ Apart (XV vb pb) w W)
    (OwnFrom.and (Own.from (fun s A B row hs hg hr => by
      obtain ⟨h1, h2, h3, h4, h5, h6, p, h7, h8⟩ := hs
      exact ⟨box_kept h1 hg hr, box_kept h2 hg hr, box_kept h3 hg hr, box_kept h4 hg hr, box_kept h5 hg hr, box_kept h6 hg hr, p, h7, h8.kept hg hr⟩) _) (ownFrom_apart hs1'))
    (fun c => OwnFrom.and (Own.from (fun s A B row hs hg hr => by
      obtain ⟨h0, pre0, x, p, h1, h2, h3, h4, h5, h6, h7⟩ := hs
      exact ⟨h0, pre0, x, p, h1, h2, h3, box_kept h4 hg hr, box_kept h5 hg hr, box_kept h6 hg hr, h7.kept hg hr⟩) _) (ownFrom_apart hs1'))
    ⟨⟨e1, e2, e3, e4, e5, e6, q.pen, rfl, hV1⟩, hA1⟩
    (fun x => { tmps := #[.pointer (some ⟨vb, 0, none⟩), .pointer (some ⟨w.heap.size, 0, none⟩), .pointer (some ⟨w.heap.size + 1, 0, none⟩), .pointer (some ⟨w.heap.size + 1 + 1, 0, none⟩), .pointer (some ⟨w.heap.size + 1 + 1 + 1, 0, none⟩), .int .i64 x.1.1, .int .u8 x.2.1, .pointer (some ⟨vb, 0, none⟩), .pointer (some ⟨vb, 0, none⟩), .int .i64 q.now.1, .int .i64 ((q.now.1 : Int) + 1), .func (.func 10) #[] #[.pointer (some ⟨z, 0, none⟩), .pointer (some ⟨z + 1, 0, none⟩)], .int .i64 x.1.1, .int .u8 x.2.1, undef, undef, undef, undef, undef, undef, undef, undef, undef, undef, undef, undef, undef, undef, undef, undef, undef, undef, undef, undef, undef, undef, undef], defers := [] }) ?assign ?body ?done ?stop
  case assign =>
    intro l x W K hK
    simp only [peV]
    gi_wp2
    exact hK
  case body =>
    rintro l pre x W ⟨⟨f1, f2, f3, f4, f5, f6, p, hp, hV⟩, hA⟩ hlt
    have k1 := f1.cell
    have k2 := f2.cell
    have k3 := f3.cell
    have k4 := f4.cell
    have g2 := f2.frozen
    have g3 := f3.frozen
    have g4 := f4.frozen
    have kp : W.cell? ⟨vb, 1 + x.2.1, none⟩ = some (.int .i64 (p x.2)) := hV.c.cp x.2
    have kn : W.cell? ⟨vb, 7, none⟩ = some (.int .i64 q.now.1) := hV.c.cn
    have g0 := hV.c.fv
    have hx6 : (x.2.1 : Int) < 6 := by have := x.2.2; omega
    have hvl : vb < w.heap.size := hlv
    by_cases h0 : p x.2 = 0
    · have h0b : (((p x.2 : Nat) : Int) == 0) = true := by rw [h0]; rfl
      have hvb : ∀ d, w.heap.size ≤ d → vb ≠ d := fun d hd => by omega
      have hpb : ∀ d, w.heap.size ≤ d → pb ≠ d := fun d hd => by omega
      have HV2 : Hid (Vec B ((((W.setCell ⟨vb, 7, none⟩ (.int .i64 x.1.1)).setCell ⟨w.heap.size + 1, 0, none⟩ (.int .i64 x.1.1)).setCell ⟨w.heap.size + 1 + 1, 0, none⟩ (.int .u8 x.2.1)).setCell ⟨w.heap.size + 1 + 1 + 1, 0, none⟩ (.bool true)) vb pb { q with pen := p, now := x.1 }) :=
        (((VStp.now hV x.1).vec.other _ _ _ (hvb _ (by omega)) (hpb _ (by omega))).other _ _ _ (hvb _ (by omega)) (hpb _ (by omega))).other _ _ _ (hvb _ (by omega)) (hpb _ (by omega))
      have HA2 : Hid (Apart (XV vb pb) w ((((W.setCell ⟨vb, 7, none⟩ (.int .i64 x.1.1)).setCell ⟨w.heap.size + 1, 0, none⟩ (.int .i64 x.1.1)).setCell ⟨w.heap.size + 1 + 1, 0, none⟩ (.int .u8 x.2.1)).setCell ⟨w.heap.size + 1 + 1 + 1, 0, none⟩ (.bool true))) :=
        (((hA.more vb 7 _ (.inl (.inl rfl))).more _ 0 _ (.inr (by omega))).more _ 0 _ (.inr (by omega))).more _ 0 _ (.inr (by omega))
      have HB2 : Hid (Boxed ((((W.setCell ⟨vb, 7, none⟩ (.int .i64 x.1.1)).setCell ⟨w.heap.size + 1, 0, none⟩ (.int .i64 x.1.1)).setCell ⟨w.heap.size + 1 + 1, 0, none⟩ (.int .u8 x.2.1)).setCell ⟨w.heap.size + 1 + 1 + 1, 0, none⟩ (.bool true)) (w.heap.size + 1) 3 (.int .i64 x.1.1)) :=
        (boxOff ((boxOff (((boxOff f2 (hvb _ (by omega)).symm _)).set _) (by omega) _)) (by omega) _)
      have HB3 : Hid (Boxed ((((W.setCell ⟨vb, 7, none⟩ (.int .i64 x.1.1)).setCell ⟨w.heap.size + 1, 0, none⟩ (.int .i64 x.1.1)).setCell ⟨w.heap.size + 1 + 1, 0, none⟩ (.int .u8 x.2.1)).setCell ⟨w.heap.size + 1 + 1 + 1, 0, none⟩ (.bool true)) (w.heap.size + 1 + 1) 5 (.int .u8 x.2.1)) :=
        (boxOff (((boxOff ((boxOff f3 (hvb _ (by omega)).symm _)) (by omega) _)).set _) (by omega) _)
      have HB4 : Hid (Boxed ((((W.setCell ⟨vb, 7, none⟩ (.int .i64 x.1.1)).setCell ⟨w.heap.size + 1, 0, none⟩ (.int .i64 x.1.1)).setCell ⟨w.heap.size + 1 + 1, 0, none⟩ (.int .u8 x.2.1)).setCell ⟨w.heap.size + 1 + 1 + 1, 0, none⟩ (.bool true)) (w.heap.size + 1 + 1 + 1) 4 (.bool true)) :=
        ((boxOff ((boxOff ((boxOff f4 (hvb _ (by omega)).symm _)) (by omega) _)) (by omega) _)).set _
      gi_wp2
      exact ⟨((((KeepsOthers.setCell _ _ _).trans (KeepsOthers.setCell _ _ _)).trans (KeepsOthers.setCell _ _ _)).trans (KeepsOthers.setCell _ _ _)).from _, ⟨rfl, pre, x, p, rfl, hp, h0, HB2.out, HB3.out, HB4.out, HV2.out⟩, HA2.out⟩
    · have h0b : (((p x.2 : Nat) : Int) == 0) = false := by rw [beq_eq_false_iff_ne]; omega
      have g1 := g0 (1 + x.2.1)
      have hpb : 0 < ((p x.2 : Nat) : Int) := by omega
      have hpm : ((p x.2 : Nat) : Int) ≤ 1000 := by have h1 := passP_le pre q.pen p hp x.2; have h2 := HQ.out x.2; omega
      clear k2 k3 k4 g2 g3 g4 kn g0
      gi_wp2
      refine round_still_tail 10 (by kernel_rfl) (by kernel_rfl) (by kernel_rfl) ?_
      simp only [List.take_succ_cons, List.take_zero, List.drop_succ_cons, List.drop_zero]
      still_step
      still_step
      still_step
      still_step
      still_step
      still_step
      still_step
      still_step
      still_step
      still_step
      refine wpStill_nil ?_
      gi_wp2
      have hS := (VStp.pen hV x.2 (p x.2 - 1)).drew
      rw [show ((p x.2 - 1 : Nat) : Int) = (p x.2 : Int) - 1 by omega] at hS
      have b5 := ((boxOff f5 (d := vb) (j := 1 + x.2.1) (by omega) (.int .i64 ((p x.2 : Int) - 1))))
      have b6 := ((boxOff f6 (d := vb) (j := 1 + x.2.1) (by omega) (.int .i64 ((p x.2 : Int) - 1))))
      have hk := KeepsOthers.setCell W ⟨vb, 1 + x.2.1, none⟩ (.int .i64 ((p x.2 : Int) - 1))
      refine ⟨⟨hk.size, fun k o _ h1 h2 => hk.same k o h1 h2⟩, kpC_v ⟨hk.size, fun k o h1 h2 => hk.same k o h1 (Obj.not_cells_of_walk h2)⟩ hV hS.vec rfl f5 b5 f6 b6, ⟨(boxOff f1 (by omega) _), (boxOff f2 (by omega) _), (boxOff f3 (by omega) _), (boxOff f4 (by omega) _), b5, b6, _, passP_snoc pre x q.pen p hp h0, hS.vec⟩, (hA.trans hS.ap)⟩
  case done =>
    rintro D ys W hD rfl ⟨⟨f1, f2, f3, f4, f5, f6, p, hp, hV⟩, hA⟩ hK
    have k2 := f2.cell
    have k3 := f3.cell
    have k4 := f4.cell
    have g2 := f2.frozen
    have g3 := f3.frozen
    have g4 := f4.frozen
    gi_wp2
    have hK' := (((KeepsOthers.setCell W ⟨w.heap.size + 1, 0, none⟩ (.int .i64 0)).trans (KeepsOthers.setCell _ ⟨w.heap.size + 1 + 1, 0, none⟩ (.int .u8 0))).trans (KeepsOthers.setCell _ ⟨w.heap.size + 1 + 1 + 1, 0, none⟩ (.bool false))).same D _ hK rfl
    have hA2 := ((hA.more (w.heap.size + 1) 0 (.int .i64 0) (.inr (by omega))).more (w.heap.size + 1 + 1) 0 (.int .u8 0) (.inr (by omega))).more (w.heap.size + 1 + 1 + 1) 0 (.bool false) (.inr (by omega))
    have hV2 := ((hV.other (w.heap.size + 1) 0 (.int .i64 0) (by omega) (by omega)).other (w.heap.size + 1 + 1) 0 (.int .u8 0) (by omega) (by omega)).other (w.heap.size + 1 + 1 + 1) 0 (.bool false) (by omega) (by omega)
    have b2 := (boxOff ((boxOff (f2.set (.int .i64 0)) (d := w.heap.size + 1 + 1) (j := 0) (by omega) (.int .u8 0))) (d := w.heap.size + 1 + 1 + 1) (j := 0) (by omega) (.bool false))
    have b3 := (boxOff (((boxOff f3 (d := w.heap.size + 1) (j := 0) (by omega) (.int .i64 0))).set (.int .u8 0)) (d := w.heap.size + 1 + 1 + 1) (j := 0) (by omega) (.bool false))
    have b4 := ((boxOff ((boxOff f4 (d := w.heap.size + 1) (j := 0) (by omega) (.int .i64 0))) (d := w.heap.size + 1 + 1) (j := 0) (by omega) (.int .u8 0))).set (.bool false)
    have kept : ∀ r, some D = some r → ∃ o : Obj, (((W.setCell ⟨w.heap.size + 1, 0, none⟩ (.int .i64 0)).setCell ⟨w.heap.size + 1 + 1, 0, none⟩ (.int .u8 0)).setCell ⟨w.heap.size + 1 + 1 + 1, 0, none⟩ (.bool false)).heap[r]? = some o ∧ o.isCells = false := fun r e => by cases e; exact ⟨_, hK', rfl⟩
    have j2 := (box_kept b2 (grownBy_putObj' _ D (.deferred none)) kept).cell
    have j3 := (box_kept b3 (grownBy_putObj' _ D (.deferred none)) kept).cell
    have j4 := (box_kept b4 (grownBy_putObj' _ D (.deferred none)) kept).cell
    have hV3 := hV2.kept (grownBy_putObj' _ D (.deferred none)) kept
    have hA3 := apartK_b hA2 D (.deferred none) (by omega)
    have hgo : turnS q = (p, none) := by
      have := goS_pass _ [] q.pen p hp
      rw [List.append_nil] at this
      exact this
    refine ⟨by simp, .inl ⟨_, _, rfl, run_takeDeferred hK', ?_⟩⟩
    refine ⟨.tuple #[.int .i64 0, .int .u8 0, .bool false], by simp [results, Try.f6, go_sem, j2, j3, j4], ?_, ?_⟩
    · rw [hgo]; rfl
    · unfold turnQ; rw [hgo]; exact ⟨hV3, hA3⟩
  case stop =>
    rintro D c pre W hD hpre ⟨⟨rfl, pre0, x, p, rfl, hp, h0, f2, f3, f4, hV⟩, hA⟩ hK
    gi_wp2
    have kept : ∀ r, some D = some r → ∃ o : Obj, W.heap[r]? = some o ∧ o.isCells = false := fun r e => by cases e; exact ⟨_, hK, rfl⟩
    have j2 := (box_kept f2 (grownBy_putObj' _ D (.deferred none)) kept).cell
    have j3 := (box_kept f3 (grownBy_putObj' _ D (.deferred none)) kept).cell
    have j4 := (box_kept f4 (grownBy_putObj' _ D (.deferred none)) kept).cell
    have hV3 := hV.kept (grownBy_putObj' _ D (.deferred none)) kept
    have hA3 := apartK_b hA D (.deferred none) (by omega)
    have hgo : turnS q = (p, some x) := by
      obtain ⟨r, hr⟩ := hpre
      unfold turnS
      rw [← hr, List.append_assoc, goS_pass _ _ q.pen p hp]
      simp [goS, h0]
    refine ⟨by simp, .inl ⟨_, _, rfl, run_takeDeferred hK, ?_⟩⟩
    refine ⟨.tuple #[.int .i64 x.1.1, .int .u8 x.2.1, .bool true], by simp [results, Try.f6, go_sem, j2, j3, j4], ?_, ?_⟩
    · rw [hgo]; rfl
    · unfold turnQ; rw [hgo]; exact ⟨hV3, hA3⟩
theorem turn_any (B vb pb : Nat) (q : Qs) (w : World) (h : Vec B w vb pb q) (hq : q.Ok) : Calls Try.prog 6 #[.pointer (some ⟨vb, 0, none⟩)] w fun e W' => e = .returned (turnV (turnS q).2) ∧ VStp B w W' vb pb (turnQ q) :=
  (callsIn_wide (n := 5)).1 (turn_in B vb pb q w h hq 5 (by omega))
end Go.Proofs.Ytmnolchkcejgaaa
