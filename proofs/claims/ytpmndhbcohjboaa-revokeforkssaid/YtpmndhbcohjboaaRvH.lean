/- The program's Done, Out, Due: whom they take out. -/
import Derived.Test.YtpmndhbcohjboaaRvG
namespace Go.Proofs.Ytpmndhbcohjboaa
open Go.RowKit Go.Maps
set_option linter.unusedVariables false
set_option maxRecDepth 100000
theorem enters_fn {f : FuncId} {g : Func} {c : Code} (hg : Try.prog.funcs[f]? = some g) (hn : (g.name == "runtime.NumGoroutine") = false) (hc : g.body = some c) : ∀ args w, (callFunc f args).run Try.prog w = .ok (.enter f args) w := by
  intro args w
  have := ne_of_beq_false hn
  simp [callFunc, hg, this, hc]
theorem eOut : ∀ args w, (callFunc 30 args).run Try.prog w = .ok (.enter 30 args) w := enters_fn Try.func30 (by kernel_rfl) rfl
theorem eDone : ∀ args w, (callFunc 36 args).run Try.prog w = .ok (.enter 36 args) w := enters_fn Try.func36 (by kernel_rfl) rfl
theorem eDue : ∀ args w, (callFunc 34 args).run Try.prog w = .ok (.enter 34 args) w := enters_fn Try.func34 (by kernel_rfl) rfl
def ofP (x : Int) (d : Dm) : Bool := decide (d.1 = x)
def dueP (t : Int) (d : Dm) : Bool := decide (d.2.2 ≤ t)
set_option maxHeartbeats 1000000 in
theorem outP (x : Int) (cb : Nat) (L : List Dm) (w : World) (hc : w.cell? ⟨cb, 0, none⟩ = some (.int .u8 x)) : PredD 30 #[.pointer (some ⟨cb, 0, none⟩)] (ofP x) L w := by
  intro W d _ hb
  have hlt := World.block_lt_of_cell? w _ hc
  have k0 : W.cell? ⟨cb, 0, none⟩ = some (.int .u8 x) := (hb.cell hlt).trans hc
  have hl2 := Nat.lt_of_lt_of_le hlt hb.size
  obtain ⟨d0, d1, d2⟩ := d
  show Calls Try.prog 30 #[.agg #[.int .u8 d0, .int .u8 d1], .pointer (some ⟨cb, 0, none⟩)] W _
  clear hc hlt hb
  go_enter Try.func30, Try.ntmps30
  go_wp2
  go_ret
  exact ⟨by simp [ofP, Bool.beq_eq_decide_eq], below_new _ _⟩
theorem eqGuardD : Try.prog.eqGuardType Try.prog.depth 63 = false := by kernel_rfl
set_option maxHeartbeats 1000000 in
theorem doneP (x y : Int) (cb : Nat) (t : TypeId) (L : List Dm) (w : World) (hc : Cl w cb t [.int .u8 x, .int .u8 y]) : PredD 36 #[.pointer (some ⟨cb, 0, none⟩)] (hasK x y) L w := by
  intro W d _ hb
  have hcW := hc.below hb
  have k0 : W.cell? ⟨cb, 0, none⟩ = some (.int .u8 x) := hcW.cell 0
  have k1 : W.cell? ⟨cb, 1, none⟩ = some (.int .u8 y) := hcW.cell 1
  have hl2 := hcW.lt
  obtain ⟨d0, d1, d2⟩ := d
  show Calls Try.prog 36 #[.agg #[.int .u8 d0, .int .u8 d1], .pointer (some ⟨cb, 0, none⟩)] W _
  have eG := eqGuardD
  have eM : ∀ w, (Op.equalIn 10000 63 (.agg #[.int .u8 d0, .int .u8 d1]) (.agg #[.int .u8 x, .int .u8 y])).run Try.prog w = .ok (decide (d0 = x ∧ d1 = y)) w := fun w => eqD w d0 d1 x y
  have hfin : Hid3 (decide (d0 = x ∧ d1 = y) = hasK x y (d0, d1, d2)) := ⟨rfl⟩
  generalize decide (d0 = x ∧ d1 = y) = r at *
  clear hc hcW hb
  go_enter Try.func36, Try.ntmps36
  go_wp2
  go_ret
  exact ⟨by rw [← hfin.out]; rfl, below_new _ _⟩
set_option maxHeartbeats 1000000 in
theorem dueP_any (t : Int) (c1 c2 b m : Nat) (L : List Dm) (hK : KeysD L) (w : World) (hc : w.cell? ⟨c1, 0, none⟩ = some (.pointer (some ⟨b, 0, none⟩))) (hd : w.cell? ⟨c2, 0, none⟩ = some (.int .i64 t)) (hk : w.cell? ⟨b, 1, none⟩ = some (.map (some m))) (hm : Mq w m L) : PredD 34 #[.pointer (some ⟨c1, 0, none⟩), .pointer (some ⟨c2, 0, none⟩)] (dueP t) L w := by
  intro W d hdL hb
  have l1 := World.block_lt_of_cell? w _ hc
  have l2 := World.block_lt_of_cell? w _ hd
  have l3 := World.block_lt_of_cell? w _ hk
  have k1 : W.cell? ⟨c1, 0, none⟩ = some (.pointer (some ⟨b, 0, none⟩)) := (hb.cell l1).trans hc
  have k2 : W.cell? ⟨c2, 0, none⟩ = some (.int .i64 t) := (hb.cell l2).trans hd
  have k3 : W.cell? ⟨b, 1, none⟩ = some (.map (some m)) := (hb.cell l3).trans hk
  have m1 := Nat.lt_of_lt_of_le l1 hb.size
  have m2 := Nat.lt_of_lt_of_le l2 hb.size
  have m3 := Nat.lt_of_lt_of_le l3 hb.size
  have hg := dget_mem hK d hdL
  obtain ⟨d0, d1, d2⟩ := d
  show Calls Try.prog 34 #[.agg #[.int .u8 d0, .int .u8 d1], .pointer (some ⟨c1, 0, none⟩), .pointer (some ⟨c2, 0, none⟩)] W _
  have hX := below_newd W (.cells #[.int .u8 d0, .int .u8 d1] 63)
  have hL := dlook_run ((hm.below hb).below hX) d0 d1 false
  rw [hg] at hL
  have HL := Hid3.mk hL
  unfold dkV at HL
  clear hc hd hk hm hb l1 l2 l3 hg hL hdL
  go_enter Try.func34, Try.ntmps34
  go_wp2_with fail
  refine still_tail 8 (by kernel_rfl) (by kernel_rfl) ?_
  simp only [List.take_succ_cons, List.take_zero, List.drop_succ_cons, List.drop_zero]
  repeat (first | (refine wpStill_look (by rfl) 57 _ _ false rfl _ _ _ rfl rfl HL.out ?_) | still_step)
  refine wpStill_nil ?_
  go_wp2
  go_ret
  exact ⟨by simp [dueP], hX⟩
/-- What a call that changes it comes to. -/
structure BStp (B : Nat) (w w' : World) (b m : Nat) (av : Value) (vs : Fin 6 → Value) (q' : Rs) : Prop where
  out : ∃ av' vs', Bk B w' b m av' vs' q' ∧ Apart (XK b m av vs) w w' ∧ ∀ k, XK b m av' vs' k → XK b m av vs k ∨ w.heap.size ≤ k
theorem BStp.same {B : Nat} {w w' : World} {b m : Nat} {av : Value} {vs : Fin 6 → Value} {q : Rs} (h : Bk B w b m av vs q) (k : Below w.heap.size w w') : BStp B w w' b m av vs q := ⟨av, vs, h.below k, Apart.of_below k, fun _ e => .inl e⟩
theorem BStp.pre {B : Nat} {w1 w2 w3 : World} {b m : Nat} {av : Value} {vs : Fin 6 → Value} {q' : Rs} (h : Below w1.heap.size w1 w2) (k : BStp B w2 w3 b m av vs q') : BStp B w1 w3 b m av vs q' := by
  obtain ⟨av', vs', h1, h2, h3⟩ := k.out
  exact ⟨av', vs', h1, (Apart.of_below h).trans h2, fun i e => (h3 i e).imp id (fun e => Nat.le_trans h.size e)⟩
theorem BStp.post {B : Nat} {w1 w2 w3 : World} {b m : Nat} {av : Value} {vs : Fin 6 → Value} {q' : Rs} (k : BStp B w1 w2 b m av vs q') (h : Below w2.heap.size w2 w3) : BStp B w1 w3 b m av vs q' := by
  obtain ⟨av', vs', h1, h2, h3⟩ := k.out
  exact ⟨av', vs', h1.below h, h2.trans (Apart.of_below h), h3⟩
theorem BStp.of_out {B : Nat} {w w' : World} {b m : Nat} {av r : Value} {vs : Fin 6 → Value} {q : Rs} {p : Dm → Bool} (h : OutR B w w' b m vs q p r) : BStp B w w' b m av vs ⟨q.d.filter (fun d => !p d), q.v⟩ := by
  obtain ⟨v', h1, h2⟩ := h.bk
  refine ⟨v', vs, h1, h.ap.wide (fun k _ e => ?_), fun k e => ?_⟩
  · rcases e with e | e
    · exact .inl e
    · exact .inr (.inl e)
  · rcases e with e | e | e | e
    · exact .inl (.inl e)
    · exact .inl (.inr (.inl e))
    · exact .inr (h2 k e)
    · exact .inl (.inr (.inr (.inr e)))
def doneE (x y : Int) (q : Rs) : Int := if (q.d.filter (hasK x y)).length = 0 then 5 else 0
def doneQ (x y : Int) (q : Rs) : Rs := ⟨q.d.filter (fun d => !hasK x y d), q.v⟩
set_option maxHeartbeats 1000000 in
theorem done_any (B b m : Nat) (av : Value) (vs : Fin 6 → Value) (q : Rs) (N : Nat) (x y : Int) (w : World) (h : Bk B w b m av vs q) (hO : q.Ok N) : Calls Try.prog 16 #[.pointer (some ⟨b, 0, none⟩), .int .u8 x, .int .u8 y] w fun e w' => e = .returned (.int .i64 (doneE x y q)) ∧ BStp B w w' b m av vs (doneQ x y q) := by
  have hX := below_new w (.cells #[.int .u8 x, .int .u8 y] 63)
  have cO := out_any 36 #[.pointer (some ⟨w.heap.size, 0, none⟩)] (hasK x y) eDone B b m av vs q N _ (h.below hX) hO (doneP x y w.heap.size _ q.d _ (Cl.new w 63 [.int .u8 x, .int .u8 y]))
  have hlen : (q.d.filter (hasK x y)).length ≤ 8 := Nat.le_trans (List.length_filter_le _ _) hO.few
  unfold doneE
  have HX := Hid3.mk hX
  have hbl := h.c.l
  clear h hO hX
  by_cases h0 : (q.d.filter (hasK x y)).length = 0
  · rw [if_pos h0]
    go_enter Try.func16, Try.ntmps16
    go_wp2_with fail
    refine cO.mono ?_
    rintro e W ⟨r, rfl, hR⟩
    obtain ⟨a1, k1, rfl⟩ := hR.row.sl
    have HS := Hid3.mk (BStp.pre HX.out (BStp.of_out (av := av) hR))
    clear hR cO
    go_wp2
    go_ret
    exact ⟨rfl, HS.out⟩
  · rw [if_neg h0]
    have hz : ¬ ((q.d.filter (hasK x y)).length : Int) = 0 := by omega
    go_enter Try.func16, Try.ntmps16
    go_wp2_with fail
    refine cO.mono ?_
    rintro e W ⟨r, rfl, hR⟩
    obtain ⟨a1, k1, rfl⟩ := hR.row.sl
    have HS := Hid3.mk (BStp.pre HX.out (BStp.of_out (av := av) hR))
    clear hR cO
    go_wp2
    go_ret
    exact ⟨rfl, HS.out⟩
end Go.Proofs.Ytpmndhbcohjboaa
