/- The program's lists of what is asked back, and of vectors. -/
import Derived.Test.YtpmndhbcohjboaaRvD
import Derived.Laws.MakeOwn
namespace Go.Proofs.Ytpmndhbcohjboaa
open Go.RowKit Go.Maps
set_option linter.unusedVariables false
set_option maxRecDepth 100000
theorem wpStill_look {ops : Array Oper} {w : World} {Q : Act → Prop} {rest : List Oper} {o : Oper} {a : Act} (hw : Region.wanted o (yielded ops a.tmps) = true) (t : TypeId) (x i : Operand) (c : Bool) (ho : o.op = .lookup t x i c) (xv iv u : Value) (hx : a.eval x = xv) (hi : a.eval i = iv) (hL : (Instr.lookup t xv iv c).run Try.prog w = .ok u w) (h : wpStill Try.prog ops w Q rest (a.put o.dst u)) : wpStill Try.prog ops w Q (o :: rest) a := by
  unfold wpStill
  rw [if_pos hw]
  unfold Oper.still execOp
  simp only [ho, hx, hi, Sem.run_bind, hL, Result.andThen_ok, Sem.run_pure]
  exact ⟨rfl, h⟩
theorem wpList_make {ops : Array Oper} {rest : List Oper} {o : Oper} {a : Act} {w : World} {Q : Exit → Act → World → Prop} (hgd : o.guard = none) (t e : TypeId) (size : Nat) (hT : AppT t e size) (x y : Operand) (ho : o.op = .makeSlice t x y) (c B : Nat) (hx : a.eval x = .int .i64 0) (hy : a.eval y = .int .i64 (c : Int)) (hc : c ≤ 100000) (hB : B ≤ w.heap.size)
    (h : ∀ w', RowO w' B e size (.slice (some ⟨w.heap.size, 0, none⟩) 0 c) 0 [] → Below w.heap.size w w' → wpList Try.prog ops Q rest (a.put o.dst (.slice (some ⟨w.heap.size, 0, none⟩) 0 c)) w') : wpList Try.prog ops Q (o :: rest) a w :=
  wpList_plain hgd fun K hK => by
    obtain ⟨i, z, bytes, g1, g2, g3, g4, g5, g6, g7, g8⟩ := hT.out
    obtain ⟨w', hr, h2, h3⟩ := run_make_own (P := Try.prog) w B t e i z size g1 g2 g3 g4 .i64 .i64 c (by rw [g5]; exact Nat.le_trans (Nat.mul_le_mul g8 hc) (by omega)) (by unfold maxLen; omega) hB
    unfold Oper.wp execOp
    simp only [ho, hx, hy, Sem.run_bind, hr, Result.andThen_ok, Sem.run_pure]
    exact hK _ _ (h w' (RowO.of_own h2) ⟨h3.os, h3.tape, h3.output, h3.size, fun k hk => h3.block k hk (by simp)⟩)
def aC (d : Dm) : List Value := [.int .u8 d.1, .int .u8 d.2.1, .int .i64 d.2.2]
def aCs (L : List Dm) : List Value := L.flatMap aC
theorem aCs_append (L M : List Dm) : aCs (L ++ M) = aCs L ++ aCs M := List.flatMap_append
theorem aCs_len (L : List Dm) : (aCs L).length = L.length * 3 := by
  induction L with
  | nil => rfl
  | cons d L ih =>
    show (aC d ++ aCs L).length = _
    rw [List.length_append, ih, List.length_cons]
    simp only [aC, List.length_cons, List.length_nil]
    omega
theorem aCs_at : ∀ (L : List Dm) (k : Nat) (d : Dm), L[k]? = some d → (aCs L)[k * 3]? = some (.int .u8 d.1) ∧ (aCs L)[k * 3 + 1]? = some (.int .u8 d.2.1) ∧ (aCs L)[k * 3 + 2]? = some (.int .i64 d.2.2)
  | [], k, d, h => by cases h
  | e :: L, 0, d, h => by
    simp only [List.getElem?_cons_zero, Option.some.injEq] at h
    subst h
    exact ⟨rfl, rfl, rfl⟩
  | e :: L, k + 1, d, h => by
    have := aCs_at L k d (by simpa using h)
    have e1 : (k + 1) * 3 = k * 3 + 1 + 1 + 1 := by omega
    rw [e1]
    exact this
theorem aCs_one (L : List Dm) : ∀ u ∈ aCs L, u.oneCell' = true := fun u hu => by
  obtain ⟨d, _, hd⟩ := List.mem_flatMap.1 hu
  simp only [aC, List.mem_cons, List.not_mem_nil, or_false] at hd
  rcases hd with rfl | rfl | rfl <;> rfl
theorem aCs_take {L : List Dm} {k : Nat} (h : k < L.length) : aCs (L.take (k + 1)) = aCs (L.take k) ++ [.int .u8 L[k].1, .int .u8 L[k].2.1, .int .i64 L[k].2.2] := by
  rw [List.take_succ_eq_append_getElem h, aCs_append]
  rfl
set_option maxHeartbeats 1000000 in
theorem told_any (b m : Nat) (L : List Dm) (x y : Int) (w : World) (hc : w.cell? ⟨b, 1, none⟩ = some (.map (some m))) (hm : Mq w m L) :
    Calls Try.prog 33 #[.pointer (some ⟨b, 0, none⟩), .agg #[.int .u8 x, .int .u8 y]] w fun e w' => e = .returned (.agg #[.int .u8 x, .int .u8 y, .int .i64 ((dget L x y).getD 0)]) ∧ Below w.heap.size w w' := by
  have hX := below_new w (.cells #[.int .u8 x, .int .u8 y] 63)
  have hX2 := hX.trans ((below_new (w.alloc (.cells #[.int .u8 x, .int .u8 y] 63)) (.cells #[.int .u8 0, .int .u8 0, .int .i64 0] 39)).mono hX.size)
  have hm2 := hm.below hX2
  have hb := World.block_lt_of_cell? w _ hc
  have hc2 : Cl ((w.alloc (.cells #[.int .u8 x, .int .u8 y] 63)).alloc (.cells #[.int .u8 0, .int .u8 0, .int .i64 0] 39)) w.heap.size 63 [.int .u8 x, .int .u8 y] := (Cl.new w _ _).alloc _
  have hc3 : Cl ((w.alloc (.cells #[.int .u8 x, .int .u8 y] 63)).alloc (.cells #[.int .u8 0, .int .u8 0, .int .i64 0] 39)) (w.heap.size + 1) 39 [.int .u8 0, .int .u8 0, .int .i64 0] := by
    have := Cl.new (w.alloc (.cells #[.int .u8 x, .int .u8 y] 63)) 39 [.int .u8 0, .int .u8 0, .int .i64 0]
    rw [World.size_alloc] at this
    exact this
  have hcb : ((w.alloc (.cells #[.int .u8 x, .int .u8 y] 63)).alloc (.cells #[.int .u8 0, .int .u8 0, .int .i64 0] 39)).cell? ⟨b, 1, none⟩ = some (.map (some m)) := (hX2.cell hb).trans hc
  have hL : ∀ W : World, W = ((w.alloc (.cells #[.int .u8 x, .int .u8 y] 63)).alloc (.cells #[.int .u8 0, .int .u8 0, .int .i64 0] 39)) → Hid3 ((Instr.lookup 57 (.map (some m)) (.agg #[.int .u8 x, .int .u8 y]) false).run Try.prog W.drew = .ok (.int .i64 ((dget L x y).getD 0)) W.drew) := fun W e => ⟨by
    subst e
    exact dlook_run (hm2.below (below_drew _)) x y false⟩
  generalize (dget L x y).getD 0 = z at *
  clear hm hX hm2 hc
  go_enter Try.func33, Try.ntmps33
  go_wp2_with fail
  have hL2 := hL _ rfl
  clear hL
  have HX2 := Hid3.mk hX2
  clear hX2
  generalize ((w.alloc (.cells #[.int .u8 x, .int .u8 y] 63)).alloc (.cells #[.int .u8 0, .int .u8 0, .int .i64 0] 39)) = W at *
  have HF : Hid3 (Below w.heap.size w (((W.setCell ⟨w.heap.size + 1, 0, none⟩ (.int .u8 x)).setCell ⟨w.heap.size + 1, 1, none⟩ (.int .u8 y)).setCell ⟨w.heap.size + 1, 2, none⟩ (.int .i64 z)).drew) := ⟨(((HX2.out.setCell (by simp) _).setCell (by simp) _).setCell (by simp) _).drew⟩
  have u0 : W.cell? ⟨w.heap.size, 0, none⟩ = some (.int .u8 x) := hc2.cell 0
  have u1 : W.cell? ⟨w.heap.size, 1, none⟩ = some (.int .u8 y) := hc2.cell 1
  have v0 : W.cell? ⟨w.heap.size + 1, 0, none⟩ = some (.int .u8 0) := hc3.cell 0
  have v1 : W.cell? ⟨w.heap.size + 1, 1, none⟩ = some (.int .u8 0) := hc3.cell 1
  have v2 : W.cell? ⟨w.heap.size + 1, 2, none⟩ = some (.int .i64 0) := hc3.cell 2
  have f0 := hc3.thaw 0
  have f1 := hc3.thaw 1
  have f2 := hc3.thaw 2
  have E0 : (W.setCell ⟨w.heap.size + 1, 0, none⟩ (.int .u8 x)).cell? ⟨w.heap.size + 1, 0, none⟩ = some (.int .u8 x) := (hc3.set 0 _).cell 0
  have E1 : ((W.setCell ⟨w.heap.size + 1, 0, none⟩ (.int .u8 x)).setCell ⟨w.heap.size + 1, 1, none⟩ (.int .u8 y)).cell? ⟨w.heap.size + 1, 1, none⟩ = some (.int .u8 y) := ((hc3.set 0 _).set 1 _).cell 1
  have E2 : (((W.setCell ⟨w.heap.size + 1, 0, none⟩ (.int .u8 x)).setCell ⟨w.heap.size + 1, 1, none⟩ (.int .u8 y)).setCell ⟨w.heap.size + 1, 2, none⟩ (.int .i64 z)).cell? ⟨w.heap.size + 1, 2, none⟩ = some (.int .i64 z) := (((hc3.set 0 _).set 1 _).set 2 _).cell 2
  clear hc2 hc3 HX2
  refine still_tail 11 (by kernel_rfl) (by kernel_rfl) ?_
  simp only [List.take_succ_cons, List.take_zero, List.drop_succ_cons, List.drop_zero]
  repeat (first | (refine wpStill_look (by rfl) 57 _ _ false rfl _ _ _ rfl rfl hL2.out ?_) | still_step)
  refine wpStill_nil ?_
  go_wp2
  refine bodyPost_ret (v := .agg #[.int .u8 x, .int .u8 y, .int .i64 z]) (by simp [results, Try.results33, go_sem, E0, E1, E2]) rfl ⟨rfl, HF.out⟩
set_option maxHeartbeats 4000000 in
theorem list_d (b B : Nat) (v : Value) (L : List Dm) (w : World) (hR : RowO w B 63 2 v L.length (dCs L)) (hT : ∀ W d, d ∈ L → Below w.heap.size w W → Calls Try.prog 33 #[.pointer (some ⟨b, 0, none⟩), .agg #[.int .u8 d.1, .int .u8 d.2.1]] W fun e w' => e = .returned (.agg #[.int .u8 d.1, .int .u8 d.2.1, .int .i64 d.2.2]) ∧ Below W.heap.size W w') (hl : L.length ≤ 100) :
    Calls Try.prog 32 #[v, .func (.func 33) #[.pointer (some ⟨b, 0, none⟩)] #[]] w fun e w' => ∃ v', e = .returned v' ∧ RowO w' w.heap.size 39 3 v' L.length (aCs L) ∧ Below w.heap.size w w' := by
  obtain ⟨a0, cap0, rfl⟩ := hR.sl
  have HR := Hid3.mk hR
  have HT := Hid3.mk hT
  clear hR hT
  go_enter Try.func32, Try.ntmps32
  go_wp2_with (refine wpList_make rfl 35 39 3 appA _ _ rfl L.length w.heap.size rfl rfl (by omega) (Nat.le_refl _) ?_; intro w1 hrow1 hb1; have HS := Hid3.mk (And.intro hrow1 hb1); clear hrow1 hb1)
  go_loopw [5, 7, 13] (fun s5 _ s13 wr => ∃ kk : Nat, kk ≤ L.length ∧ s13 = .int .i64 kk ∧ Hid3 (RowO wr w.heap.size 39 3 s5 kk (aCs (L.take kk)) ∧ Below w.heap.size w wr)) (fun _ _ s13 _ => L.length - (intOf s13).toNat)
  case atStart => exact ⟨0, Nat.zero_le _, rfl, HS⟩
  case round =>
    obtain ⟨kk, hkk, rfl, HI⟩ := hrel
    clear HS
    by_cases hlt : kk < L.length
    · have hltz : (kk : Int) < (L.length : Int) := by omega
      obtain ⟨g, off, rfl, c0, c1⟩ : ∃ g off, a0 = some ⟨g, off, none⟩ ∧ wr.cell? ⟨g, off + kk * 2, none⟩ = some (.int .u8 L[kk].1) ∧ wr.cell? ⟨g, off + kk * 2 + 1, none⟩ = some (.int .u8 L[kk].2.1) := by
        rcases HR.out.form with ⟨_, h, _⟩ | ⟨g, off, cap, h, _, _, hg, hc⟩
        · omega
        · injection h with h _ _
          obtain ⟨d1, d2⟩ := dCs_at L kk L[kk] (List.getElem?_eq_getElem hlt)
          exact ⟨g, off, h, (HI.out.2.cell hg).trans (hc _ _ d1), (HI.out.2.cell hg).trans (hc _ _ d2)⟩
      have hgl : g < wr.heap.size := World.block_lt_of_cell? wr _ c0
      have hX := below_new wr (.cells #[.int .u8 L[kk].1, .int .u8 L[kk].2.1] 63)
      have hX2 := HI.out.2.trans (hX.mono HI.out.2.size)
      have hcall := HT.out (wr.alloc (.cells #[.int .u8 L[kk].1, .int .u8 L[kk].2.1] 63)) L[kk] (List.getElem_mem hlt) hX2
      obtain ⟨a5, c5, rfl⟩ := HI.out.1.sl
      have HG : Hid3 (∀ W2 : World, Below (wr.alloc (.cells #[.int .u8 L[kk].1, .int .u8 L[kk].2.1] 63)).heap.size (wr.alloc (.cells #[.int .u8 L[kk].1, .int .u8 L[kk].2.1] 63)) W2 → RowO (W2.alloc (.cells #[.int .u8 L[kk].1, .int .u8 L[kk].2.1, .int .i64 L[kk].2.2] 39)) w.heap.size 39 3 (.slice a5 kk c5) kk (aCs (L.take kk)) ∧ Below w.heap.size w (W2.alloc (.cells #[.int .u8 L[kk].1, .int .u8 L[kk].2.1, .int .i64 L[kk].2.2] 39))) := ⟨fun W2 hb => by
        have h1 := below_new W2 (.cells #[.int .u8 L[kk].1, .int .u8 L[kk].2.1, .int .i64 L[kk].2.2] 39)
        exact ⟨((HI.out.1.below hX).below hb).below h1, (hX2.trans (hb.mono hX2.size)).trans (h1.mono (Nat.le_trans hX2.size hb.size))⟩⟩
      have HA := Hid3.mk (aCs_take hlt)
      have hlt2 : wr.heap.size < (wr.alloc (.cells #[.int .u8 L[kk].1, .int .u8 L[kk].2.1] 63)).heap.size := by simp
      clear hX hX2
      generalize L[kk].1 = x at *
      generalize L[kk].2.1 = y at *
      generalize L[kk].2.2 = z at *
      go_wp2_with fail
      refine hcall.mono ?_
      rintro e W2 ⟨rfl, hb2⟩
      obtain ⟨hq1, hq2⟩ := HG.out W2 hb2
      have HQ1 := Hid3.mk hq1
      have HQ2 := Hid3.mk hq2
      have HM := Hid3.mk (news_new W2 39 [.int .u8 x, .int .u8 y, .int .i64 z])
      clear hcall HG hq1 hq2 hb2 HI
      go_wp2_with (at_builtin; refine wpList_appO rfl _ _ 35 39 3 appA rfl w.heap.size _ kk (aCs (L.take kk)) rfl HQ1.out ⟨W2.heap.size, 0, none⟩ 1 1 [.int .u8 x, .int .u8 y, .int .i64 z] rfl rfl HM.out (by simp [Value.oneCell']) (by omega) HQ2.out.size ?_; intro v' W4 hown4 hgrow hat; have H4 := Hid3.mk (And.intro hown4 (HQ2.out.grown hgrow HQ2.out.size (fun k e => (HQ1.out.lt k e).1))); clear hown4 hgrow hat)
      go_roundw
      case rel => exact ⟨kk + 1, by omega, by go_num, ⟨by rw [HA.out]; exact H4.out.1, H4.out.2⟩⟩
      case measure => simp [intOf]; omega
    · have hltz : ¬ (kk : Int) < (L.length : Int) := by omega
      obtain rfl : kk = L.length := by omega
      obtain ⟨h1, h2⟩ := HI.out
      rw [List.take_length] at h1
      have H1 := Hid3.mk h1
      have H2 := Hid3.mk h2
      clear h1 h2 HI
      go_wp2
      go_ret
      exact ⟨_, rfl, H1.out, H2.out⟩
end Go.Proofs.Ytpmndhbcohjboaa
