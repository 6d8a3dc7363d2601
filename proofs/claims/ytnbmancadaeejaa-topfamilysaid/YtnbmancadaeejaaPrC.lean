/- The program's table: a process' children, yielded one by one. -/
import Derived.Test.YtnbmancadaeejaaPrB
import Derived.RangeFuncNested
import Derived.RangeFuncBound
import Derived.RangeFuncCalls
import Derived.RangeFuncLeaves
import Derived.RangeFuncBox
import Derived.RangeFuncWrites
import Derived.RangeFuncFrom
import Derived.Shelf.Abstract
import Derived.Shelf.RegionOpen
import Derived.OwnWalkIn
import Derived.TacticsInMore
import Derived.LoopNIn
import Derived.LoopIn
import Derived.BigRegionIn
import Derived.Sort.QuietIn
import Derived.Lib.OthersKept
namespace Go.Proofs.Ytnbmancadaeejaa
open Go.RowKit Go.Shelf Go.Maps
set_option linter.unusedVariables false
set_option maxRecDepth 100000
attribute [local go_sem] Oper.semAt_some
/-- What a round that goes on keeps: walks, and some cells. -/
def KpC (X : Addr → Prop) (W W' : World) : Prop := KeepsWalks W W' ∧ ∀ a v, X a → W.cell? a = some v → W'.cell? a = some v
theorem kpC_t {X : Addr → Prop} {A B C : World} (h : KpC X A B) (k : KpC X B C) : KpC X A C := ⟨h.1.trans k.1, fun a v hx hv => k.2 a v hx (h.2 a v hx hv)⟩
theorem kpC_b {X : Addr → Prop} {w : World} (W : World) (l : Nat) (o o' : Obj) (hl : w.heap.size ≤ l) (h : W.heap[l]? = some o) (h1 : o.isCells = false) (h2 : o.isWalk = false) : KpC X W (W.putObj l o') :=
  ⟨walksK_b (w := w) W l o o' hl h h1 h2, fun a v hx hv => cell_kept hv (grownBy_putObj' W l o') (fun r e => by cases e; exact ⟨_, h, h1⟩)⟩
theorem kpC_r {X : Addr → Prop} (W : World) : KpC X W W := ⟨KeepsWalks.refl W, fun _ _ _ h => h⟩
/-- The cell that is read between two rounds: whose children they are. -/
def XP (bp : Nat) (a : Addr) : Prop := a = ⟨bp, 0, none⟩
theorem grown_of {W W' : World} (h : Below W.heap.size W W') : W.grownBy W' none := ⟨h.os, h.tape, h.output, h.size, fun k hk _ => h.block k hk⟩
theorem wpListIn_loads {n : Nat} {ops : Array Oper} {rest : List Oper} {o : Oper} {a : Act} {w : World} {Q : Exit → Act → World → Prop} (hgd : o.guard = none) (ty : TypeId) (x : Operand) (ho : o.op = .load ty x) (v u : Value) (hx : a.eval x = v) (hL : (Instr.loadAt ty v).run Try.prog w = .ok u w)
    (h : wpListIn Fence.wide n Try.prog ops Q rest (a.put o.dst u) w) : wpListIn Fence.wide n Try.prog ops Q (o :: rest) a w :=
  wpListIn_plain hgd fun K hK => by
    refine ⟨fun _ _ => trivial, ?_⟩
    rw [Oper.semAt_plain _ _ _ (by intro c; rw [ho]; exact fun e => by cases e)]
    unfold execOp
    simp only [ho, hx, Sem.run_bind, hL, Result.andThen_ok, Sem.run_pure]
    exact hK _ _ h
theorem load_all {w : World} {b : Nat} {s : Pt} (h : Cl w b 37 (tCs s)) : (Instr.loadAt 35 (.pointer (some ⟨b, 0, none⟩))).run Try.prog w = .ok (.agg (tCs s).toArray) w := by
  simp only [Instr.loadAt, Instr.sureAddr, Sem.run_bind, Sem.run_pure, Result.andThen_ok, run_loadVar_row w b 37 35 (tCs s).toArray (0, 0) _ h Try.underlying35 rfl (by kernel_rfl)]
theorem idx_any (s : Pt) (k : Fin 6) (w : World) : (Instr.index 35 (.agg (tCs s).toArray) (.int .i64 k.1)).run Try.prog w = .ok (prV (s k)) w := by
  revert k
  refine all6 ?_ ?_ ?_ ?_ ?_ ?_ <;> simp [go_sem, Instr.index, tCs] <;> rfl
def chV (s : Pt) (x : Fin 6) : Array Value := #[.int .i64 x.1, prV (s x)]
set_option maxHeartbeats 1500000 in
theorem ch1_in (n : Nat) (hn : 1 ≤ n) (l B bt bp b : Nat) (s : Pt) (p : Fin 6) (hp : s p ≠ .no) (J Jx : List (Fin 6) → World → Prop) (W : World)
    (hJ : AbidesFrom W.heap.size J) (hJx : AbidesFrom W.heap.size Jx)
    (hY : ∀ pre x W1, J pre W1 → pre.length < 6 → YieldAt Fence.wide (n - 1) Try.prog l (chV s x) W1 fun e W' =>
      (e = .returned (.bool true) ∧ J (pre ++ [x]) W' ∧ KpC (XP bp) W1 W') ∨ (e = .returned (.bool false) ∧ Jx (pre ++ [x]) W'))
    (hv : W.cell? ⟨bt, 0, none⟩ = some (.pointer (some ⟨b, 0, none⟩))) (hf : W.cell? ⟨bp, 0, none⟩ = some (.int .i64 p.1)) (ht : Tp B W b s) (h0 : J [] W) :
    CallsIn Fence.wide n Try.prog 14 #[.func (.yield l) #[] #[], .pointer (some ⟨bt, 0, none⟩), .pointer (some ⟨bp, 0, none⟩)] W fun e W' => (∃ v, e = .returned v) ∧
      ((∃ ys, ys = chs s p ∧ J ys W') ∨ (∃ pre, pre <+: chs s p ∧ Jx pre W')) := by
  have hL := load_all ht.c
  have hI := fun (k : Fin 6) w => idx_any s k w
  have cA := callsIn_wide (n := n - 1) |>.2 (at_in B b s p W ht)
  have hx : ∃ t v, prV (s p) = .iface t v := by
    cases h : s p with
    | no => exact absurd h hp
    | run p => exact ⟨_, _, rfl⟩
    | zom p n => exact ⟨_, _, rfl⟩
  obtain ⟨xt, xv, hx⟩ := hx
  rw [hx] at cA
  have hlt := World.block_lt_of_cell? W _ hf
  unfold chV at hY
  clear hx hp
  generalize (tCs s).toArray = C at *
  refine callsIn_of_wp Try.func14 rfl trivial ?_ rfl
  simp only [Try.ntmps14, List.size_toArray, List.length_cons, List.length_nil, Nat.reduceAdd, Nat.reduceSub, Array.replicate_succ, Array.replicate_zero, List.push_toArray, List.append_toArray, List.nil_append, List.cons_append]
  gi_wp2_with (first | (refine ⟨trivial, ?_⟩; gi_at_call 13; refine cA.mono ?_; rintro e W2 ⟨rfl, hW2⟩; rw [hW2]; clear hW2) | (refine wpListIn_loads rfl 35 _ rfl _ (.agg C) rfl hL ?_))
  have HV := Hid3.mk hf
  clear cA hL hv ht
  gi_loopw [14] (fun st wr => ∃ (k : Nat), st = .int .i64 k ∧ k ≤ 6 ∧ Hid (W.heap.size ≤ wr.heap.size) ∧ Hid (wr.cell? ⟨bp, 0, none⟩ = some (.int .i64 p.1)) ∧ J (thL (qCh s p) k) wr) (fun s14 _ => 6 - (intOf s14).toNat)
  case atStart => exact ⟨0, rfl, Nat.zero_le _, Nat.le_refl _, HV.out, h0⟩
  case round =>
    obtain ⟨k, rfl, hk, HZ, HC, hJk⟩ := hrel
    by_cases hk6 : k < 6
    · have hkz : (k : Int) < 6 := by omega
      have hi := hI ⟨k, hk6⟩
      have hsn := thL_snoc (qCh s p) k hk6
      have hlen : Hid ((thL (qCh s p) k).length < 6) := Nat.lt_of_le_of_lt (thL_len _ k) hk6
      have hpre : Hid (thL (qCh s p) (k + 1) <+: thL (qCh s p) 6) := thL_pre _ (k + 1) 6 (by omega)
      have cP := fun W => (callsIn_wide (n := n - 1)).2 (parent_any (s ⟨k, hk6⟩) W)
      have hcb : wr.cell? ⟨bp, 0, none⟩ = some (.int .i64 p.1) := HC
      have hbl := World.block_lt_of_cell? wr _ hcb
      have hxv : Hid (prV (s ⟨k, hk6⟩) = prV (s ⟨k, hk6⟩)) := rfl
      by_cases hk0 : k = 0
      · have hq : qCh s p ⟨k, hk6⟩ = false := by subst hk0; rfl
        rw [hq] at hsn
        have hnx : Hid (thL (qCh s p) (k + 1) = thL (qCh s p) k) := by show _ = _; rw [hsn]; simp
        subst hk0
        have hi0 : ∀ w, (Instr.index 35 (.agg C) (.int .i64 0)).run Try.prog w = .ok (prV (s ⟨0, hk6⟩)) w := fun w => hI ⟨0, hk6⟩ w
        generalize prV (s ⟨0, hk6⟩) = v at *
        clear hsn cP hcb hI hi
        gi_wp2
        have hJ2 : Hid (J (thL (qCh s p) 0) wr.drew) := hJ _ wr _ none hJk ⟨rfl, rfl, rfl, Nat.le_refl _, fun _ _ _ => rfl⟩ (fun r e => by cases e)
        clear hJk
        refine wpIn_region_any (by kernel_rfl) ?_
        (try (change wpAnyIn _ _ _ _ _ _ _ _ _ (World.drew _)))
        refine wpAnyIn_take (i := 0) (v := ?v1) rfl rfl (by kernel_rfl) (by kernel_rfl) (by kernel_rfl) (fun _ _ _ h => h) ⟨Or.inl ⟨by rfl, ?hy1⟩, fun _ => rfl⟩ ?_
        case hy1 => (intro w'; go_simp; try (with_reducible rfl))
        simp only [Act.put, List.setIfInBounds_toArray]
        refine wpAnyIn_take (i := 1) (v := ?v2) rfl rfl (by kernel_rfl) (by kernel_rfl) (by kernel_rfl) (fun _ _ _ h => h) ⟨Or.inl ⟨by rfl, ?hy2⟩, fun _ => rfl⟩ ?_
        case hy2 => (intro w'; go_simp; try (with_reducible rfl))
        simp only [Act.put]
        refine wpAnyIn_take (i := 2) (v := ?v3) rfl rfl (by kernel_rfl) (by kernel_rfl) (by kernel_rfl) (fun _ _ _ h => h) ⟨Or.inl ⟨by rfl, ?hy3⟩, fun _ => rfl⟩ ?_
        case hy3 => (intro w'; go_simp; try (with_reducible rfl))
        simp only [Act.put]
        refine wpAnyIn_take (i := 3) (v := undef) rfl rfl (by kernel_rfl) (by kernel_rfl) (by kernel_rfl) (fun _ _ _ h => h) ⟨Or.inr ⟨by rfl, rfl⟩, fun _ => rfl⟩ ?_
        simp only [Act.put]
        refine wpAnyIn_take (i := 5) (v := undef) rfl rfl (by kernel_rfl) (by kernel_rfl) (by kernel_rfl) (fun _ _ _ h => h) ⟨Or.inr ⟨by rfl, rfl⟩, fun _ => rfl⟩ ?_
        simp only [Act.put]
        refine wpAnyIn_ready (rs := [4]) (by kernel_rfl) (by simp) ?_
        refine AllReadyIn.cons rfl (fun K hK => ?_) ?_
        · go_simp
          refine ⟨trivial, ?_⟩
          refine hK _ _ ?_
          clear hK K
          try simp only [Act.put, List.setIfInBounds_toArray, List.set_cons_zero, List.set_cons_succ]
          refine wpAnyIn_take (i := 6) (v := undef) rfl rfl (by kernel_rfl) (by kernel_rfl) (by kernel_rfl) (fun _ _ _ h => h) ⟨Or.inr ⟨by rfl, rfl⟩, fun _ => rfl⟩ ?_
          simp only [Act.put, List.setIfInBounds_toArray]
          refine wpAnyIn_take (i := 7) (v := ?v7) rfl rfl (by kernel_rfl) (by kernel_rfl) (by kernel_rfl) (fun _ _ _ h => h) ⟨Or.inl ⟨by rfl, ?hy7⟩, fun _ => rfl⟩ ?_
          case hy7 => (intro w'; go_simp; try (with_reducible rfl))
          simp only [Act.put]
          refine wpAnyIn_take (i := 8) (v := ?v8) rfl rfl (by kernel_rfl) (by kernel_rfl) (by kernel_rfl) (fun _ _ _ h => h) ⟨Or.inl ⟨by rfl, ?hy8⟩, fun _ => rfl⟩ ?_
          case hy8 => (intro w'; go_simp; try (with_reducible rfl))
          simp only [Act.put]
          refine wpAnyIn_take (i := 9) (v := undef) rfl rfl (by kernel_rfl) (by kernel_rfl) (by kernel_rfl) (fun _ _ _ h => h) ⟨Or.inr ⟨by rfl, rfl⟩, fun _ => rfl⟩ ?_
          simp only [Act.put]
          refine wpAnyIn_take (i := 10) (v := undef) rfl rfl (by kernel_rfl) (by kernel_rfl) (by kernel_rfl) (fun _ _ _ h => h) ⟨Or.inr ⟨by rfl, rfl⟩, fun _ => rfl⟩ ?_
          simp only [Act.put]
          refine wpAnyIn_take (i := 11) (v := undef) rfl rfl (by kernel_rfl) (by kernel_rfl) (by kernel_rfl) (fun _ _ _ h => h) ⟨Or.inr ⟨by rfl, rfl⟩, fun _ => rfl⟩ ?_
          simp only [Act.put]
          refine wpAnyIn_ready (rs := [12]) (by kernel_rfl) (by simp) ?_
          refine AllReadyIn.cons rfl (fun K hK => ?_) ?_
          · go_simp
            first | (refine hK _ _ ?_) | (refine ⟨trivial, hK _ _ ?_⟩) | (refine ⟨(fun _ h => by cases h), hK _ _ ?_⟩)
            clear hK K
            try simp only [Act.put, List.setIfInBounds_toArray, List.set_cons_zero, List.set_cons_succ]
            refine wpAnyIn_take (i := 13) (v := undef) rfl rfl (by kernel_rfl) (by kernel_rfl) (by kernel_rfl) (fun _ _ _ h => h) ⟨Or.inr ⟨by rfl, rfl⟩, fun _ => rfl⟩ ?_
            simp only [Act.put, List.setIfInBounds_toArray]
            refine wpAnyIn_take (i := 14) (v := ?v13) rfl rfl (by kernel_rfl) (by kernel_rfl) (by kernel_rfl) (fun _ _ _ h => h) ⟨Or.inl ⟨by rfl, ?hy13⟩, fun _ => rfl⟩ ?_
            case hy13 => (intro w'; go_simp; try (with_reducible rfl))
            simp only [Act.put]
            refine wpAnyIn_done (by kernel_rfl) ?_ _
            gi_wp2
            go_roundw
            case rel => exact ⟨1, by go_num, by omega, HZ, HC, by rw [hnx]; exact hJ2⟩
            case measure => simp [intOf]
          exact AllReadyIn.nil
        exact AllReadyIn.nil
      · have hk0z : ((k : Int) != 0) = true := by simpa using hk0
        have hqq : qCh s p ⟨k, hk6⟩ = decide (paI (s ⟨k, hk6⟩) = p.1) := by
          have hne : (⟨k, hk6⟩ : Fin 6) ≠ 0 := fun e => hk0 (congrArg Fin.val e)
          simp [qCh, hne]
        rw [hqq] at hsn
        clear hqq hI
        generalize hpv : prV (s ⟨k, hk6⟩) = v at *
        generalize paI (s ⟨k, hk6⟩) = pa at *
        by_cases hq : pa = p.1
        · rw [decide_eq_true hq] at hsn
          have hnx : Hid (thL (qCh s p) (k + 1) = thL (qCh s p) k ++ [⟨k, hk6⟩]) := by show _ = _; rw [hsn]; simp
          have hqb : (pa == (p.1 : Int)) = true := by simpa using hq
          clear hq hsn
          gi_wp2
          refine wpIn_region_any (by kernel_rfl) ?_
          (try (change wpAnyIn _ _ _ _ _ _ _ _ _ (World.drew _)))
          refine wpAnyIn_take (i := 0) (v := ?v14) rfl rfl (by kernel_rfl) (by kernel_rfl) (by kernel_rfl) (fun _ _ _ h => h) ⟨Or.inl ⟨by rfl, ?hy14⟩, fun _ => rfl⟩ ?_
          case hy14 => (intro w'; go_simp; try (with_reducible rfl))
          simp only [Act.put, List.setIfInBounds_toArray]
          refine wpAnyIn_take (i := 1) (v := ?v15) rfl rfl (by kernel_rfl) (by kernel_rfl) (by kernel_rfl) (fun _ _ _ h => h) ⟨Or.inl ⟨by rfl, ?hy15⟩, fun _ => rfl⟩ ?_
          case hy15 => (intro w'; go_simp; try (with_reducible rfl))
          simp only [Act.put]
          refine wpAnyIn_take (i := 2) (v := ?v16) rfl rfl (by kernel_rfl) (by kernel_rfl) (by kernel_rfl) (fun _ _ _ h => h) ⟨Or.inl ⟨by rfl, ?hy16⟩, fun _ => rfl⟩ ?_
          case hy16 => (intro w'; go_simp; try (with_reducible rfl))
          simp only [Act.put]
          refine wpAnyIn_take (i := 3) (v := ?v17) rfl rfl (by kernel_rfl) (by kernel_rfl) (by kernel_rfl) (fun _ _ _ h => h) ⟨Or.inl ⟨by rfl, ?hy17⟩, fun _ => rfl⟩ ?_
          case hy17 => (intro w'; go_simp; try (with_reducible rfl))
          simp only [Act.put]
          refine wpAnyIn_ready (rs := [4, 5]) (by kernel_rfl) (by simp) ?_
          refine AllReadyIn.cons rfl (fun K hK => ?_) ?_
          · go_simp
            refine ⟨trivial, ?_⟩
            gi_at_call 15
            refine (cP _).mono ?_
            rintro e W1 ⟨rfl, hB1⟩
            have HB1 : Hid (Below wr.heap.size wr W1) := ⟨hB1.os, hB1.tape, hB1.output, hB1.size, hB1.block⟩
            clear hB1
            have hb1 : W1.cell? ⟨bp, 0, none⟩ = some (.int .i64 p.1) := (HB1.cell (p := ⟨bp, 0, none⟩) hbl).trans hcb
            have HJ1 : Hid (J (thL (qCh s p) k) W1) := hJ _ wr _ none hJk (grown_of HB1) (fun r e => by cases e)
            have HZ1 : Hid (W.heap.size ≤ W1.heap.size) := Nat.le_trans HZ HB1.size
            refine hK _ _ ?_
            clear hK K
            try simp only [Act.put, List.setIfInBounds_toArray, List.set_cons_zero, List.set_cons_succ]
            refine wpAnyIn_ready (rs := [5]) (by kernel_rfl) (by simp) ?_
            refine AllReadyIn.cons rfl (fun K hK => ?_) ?_
            · go_simp
              refine hK _ _ ?_
              clear hK K
              try simp only [Act.put, List.setIfInBounds_toArray, List.set_cons_zero, List.set_cons_succ]
              refine wpAnyIn_take (i := 6) (v := ?v22) rfl rfl (by kernel_rfl) (by kernel_rfl) (by kernel_rfl) (fun _ _ _ h => h) ⟨Or.inl ⟨by rfl, ?hy22⟩, fun _ => rfl⟩ ?_
              case hy22 => (intro w'; go_simp; try (with_reducible rfl))
              simp only [Act.put, List.setIfInBounds_toArray]
              refine wpAnyIn_take (i := 7) (v := ?v23) rfl rfl (by kernel_rfl) (by kernel_rfl) (by kernel_rfl) (fun _ _ _ h => h) ⟨Or.inl ⟨by rfl, ?hy23⟩, fun _ => rfl⟩ ?_
              case hy23 => (intro w'; go_simp; try (with_reducible rfl))
              simp only [Act.put]
              refine wpAnyIn_take (i := 8) (v := ?v24) rfl rfl (by kernel_rfl) (by kernel_rfl) (by kernel_rfl) (fun _ _ _ h => h) ⟨Or.inl ⟨by rfl, ?hy24⟩, fun _ => rfl⟩ ?_
              case hy24 => (intro w'; go_simp; try (with_reducible rfl))
              simp only [Act.put]
              refine wpAnyIn_take (i := 9) (v := ?v25) rfl rfl (by kernel_rfl) (by kernel_rfl) (by kernel_rfl) (fun _ _ _ h => h) ⟨Or.inl ⟨by rfl, ?hy25⟩, fun _ => rfl⟩ ?_
              case hy25 => (intro w'; go_simp; try (with_reducible rfl))
              simp only [Act.put]
              refine wpAnyIn_take (i := 10) (v := ?v26) rfl rfl (by kernel_rfl) (by kernel_rfl) (by kernel_rfl) (fun _ _ _ h => h) ⟨Or.inl ⟨by rfl, ?hy26⟩, fun _ => rfl⟩ ?_
              case hy26 => (intro w'; go_simp; try (with_reducible rfl))
              simp only [Act.put]
              refine wpAnyIn_take (i := 11) (v := ?v27) rfl rfl (by kernel_rfl) (by kernel_rfl) (by kernel_rfl) (fun _ _ _ h => h) ⟨Or.inl ⟨by rfl, ?hy27⟩, fun _ => rfl⟩ ?_
              case hy27 => (intro w'; go_simp; try (with_reducible rfl))
              simp only [Act.put]
              refine wpAnyIn_ready (rs := [12]) (by kernel_rfl) (by simp) ?_
              refine AllReadyIn.cons rfl (fun K hK => ?_) ?_
              · have Y := hY _ ⟨k, hk6⟩ _ HJ1 hlen
                rw [hpv] at Y
                obtain ⟨fn, tmps, assign, body, hy, hR⟩ := Y
                go_simp
                refine hR.mono ?_
                clear hR hy hY
                rintro r W3 (⟨rfl, hJ4, hk4⟩ | ⟨rfl, hJx4⟩)
                · have HJ4 : Hid (J (thL (qCh s p) k ++ [⟨k, hk6⟩]) W3) := hJ4
                  have hb4 : W3.cell? ⟨bp, 0, none⟩ = some (.int .i64 p.1) := hk4.2 _ _ rfl hb1
                  have HZ4 : Hid (W.heap.size ≤ W3.heap.size) := Nat.le_trans HZ1 hk4.1.size
                  clear hJ4 hk4
                  refine hK _ _ ?_
                  clear hK K
                  try simp only [Act.put, List.setIfInBounds_toArray, List.set_cons_zero, List.set_cons_succ]
                  refine wpAnyIn_take (i := 13) (v := ?v18) rfl rfl (by kernel_rfl) (by kernel_rfl) (by kernel_rfl) (fun _ _ _ h => h) ⟨Or.inl ⟨by rfl, ?hy18⟩, fun _ => rfl⟩ ?_
                  case hy18 => (intro w'; go_simp; try (with_reducible rfl))
                  simp only [Act.put, List.setIfInBounds_toArray]
                  refine wpAnyIn_take (i := 14) (v := ?v19) rfl rfl (by kernel_rfl) (by kernel_rfl) (by kernel_rfl) (fun _ _ _ h => h) ⟨Or.inl ⟨by rfl, ?hy19⟩, fun _ => rfl⟩ ?_
                  case hy19 => (intro w'; go_simp; try (with_reducible rfl))
                  simp only [Act.put]
                  refine wpAnyIn_done (by kernel_rfl) ?_ _
                  gi_wp2
                  go_roundw
                  case rel => exact ⟨k + 1, by go_num, by omega, HZ4, hb4, by rw [hnx]; exact HJ4⟩
                  case measure => simp [intOf]; omega
                · have HJ4 : Hid (Jx (thL (qCh s p) k ++ [⟨k, hk6⟩]) W3) := hJx4
                  clear hJx4
                  refine hK _ _ ?_
                  clear hK K
                  try simp only [Act.put, List.setIfInBounds_toArray, List.set_cons_zero, List.set_cons_succ]
                  refine wpAnyIn_take (i := 13) (v := ?v20) rfl rfl (by kernel_rfl) (by kernel_rfl) (by kernel_rfl) (fun _ _ _ h => h) ⟨Or.inl ⟨by rfl, ?hy20⟩, fun _ => rfl⟩ ?_
                  case hy20 => (intro w'; go_simp; try (with_reducible rfl))
                  simp only [Act.put, List.setIfInBounds_toArray]
                  refine wpAnyIn_take (i := 14) (v := ?v21) rfl rfl (by kernel_rfl) (by kernel_rfl) (by kernel_rfl) (fun _ _ _ h => h) ⟨Or.inl ⟨by rfl, ?hy21⟩, fun _ => rfl⟩ ?_
                  case hy21 => (intro w'; go_simp; try (with_reducible rfl))
                  simp only [Act.put]
                  refine wpAnyIn_done (by kernel_rfl) ?_ _
                  gi_wp2
                  refine bodyPost_ret (results_none rfl _ _ _) rfl ?_
                  exact ⟨⟨_, rfl⟩, .inr ⟨_, by rw [← hnx]; exact hpre, HJ4⟩⟩
              exact AllReadyIn.nil
            exact AllReadyIn.nil
          refine AllReadyIn.cons rfl (fun K hK => ?_) ?_
          · go_simp
            refine hK _ _ ?_
            clear hK K
            try simp only [Act.put, List.setIfInBounds_toArray, List.set_cons_zero, List.set_cons_succ]
            refine wpAnyIn_ready (rs := [4]) (by kernel_rfl) (by simp) ?_
            refine AllReadyIn.cons rfl (fun K hK => ?_) ?_
            · go_simp
              refine ⟨trivial, ?_⟩
              gi_at_call 15
              refine (cP _).mono ?_
              rintro e W1 ⟨rfl, hB1⟩
              have HB1 : Hid (Below wr.heap.size wr W1) := ⟨hB1.os, hB1.tape, hB1.output, hB1.size, hB1.block⟩
              clear hB1
              have hb1 : W1.cell? ⟨bp, 0, none⟩ = some (.int .i64 p.1) := (HB1.cell (p := ⟨bp, 0, none⟩) hbl).trans hcb
              have HJ1 : Hid (J (thL (qCh s p) k) W1) := hJ _ wr _ none hJk (grown_of HB1) (fun r e => by cases e)
              have HZ1 : Hid (W.heap.size ≤ W1.heap.size) := Nat.le_trans HZ HB1.size
              refine hK _ _ ?_
              clear hK K
              try simp only [Act.put, List.setIfInBounds_toArray, List.set_cons_zero, List.set_cons_succ]
              refine wpAnyIn_take (i := 6) (v := ?v32) rfl rfl (by kernel_rfl) (by kernel_rfl) (by kernel_rfl) (fun _ _ _ h => h) ⟨Or.inl ⟨by rfl, ?hy32⟩, fun _ => rfl⟩ ?_
              case hy32 => (intro w'; go_simp; try (with_reducible rfl))
              simp only [Act.put, List.setIfInBounds_toArray]
              refine wpAnyIn_take (i := 7) (v := ?v33) rfl rfl (by kernel_rfl) (by kernel_rfl) (by kernel_rfl) (fun _ _ _ h => h) ⟨Or.inl ⟨by rfl, ?hy33⟩, fun _ => rfl⟩ ?_
              case hy33 => (intro w'; go_simp; try (with_reducible rfl))
              simp only [Act.put]
              refine wpAnyIn_take (i := 8) (v := ?v34) rfl rfl (by kernel_rfl) (by kernel_rfl) (by kernel_rfl) (fun _ _ _ h => h) ⟨Or.inl ⟨by rfl, ?hy34⟩, fun _ => rfl⟩ ?_
              case hy34 => (intro w'; go_simp; try (with_reducible rfl))
              simp only [Act.put]
              refine wpAnyIn_take (i := 9) (v := ?v35) rfl rfl (by kernel_rfl) (by kernel_rfl) (by kernel_rfl) (fun _ _ _ h => h) ⟨Or.inl ⟨by rfl, ?hy35⟩, fun _ => rfl⟩ ?_
              case hy35 => (intro w'; go_simp; try (with_reducible rfl))
              simp only [Act.put]
              refine wpAnyIn_take (i := 10) (v := ?v36) rfl rfl (by kernel_rfl) (by kernel_rfl) (by kernel_rfl) (fun _ _ _ h => h) ⟨Or.inl ⟨by rfl, ?hy36⟩, fun _ => rfl⟩ ?_
              case hy36 => (intro w'; go_simp; try (with_reducible rfl))
              simp only [Act.put]
              refine wpAnyIn_take (i := 11) (v := ?v37) rfl rfl (by kernel_rfl) (by kernel_rfl) (by kernel_rfl) (fun _ _ _ h => h) ⟨Or.inl ⟨by rfl, ?hy37⟩, fun _ => rfl⟩ ?_
              case hy37 => (intro w'; go_simp; try (with_reducible rfl))
              simp only [Act.put]
              refine wpAnyIn_ready (rs := [12]) (by kernel_rfl) (by simp) ?_
              refine AllReadyIn.cons rfl (fun K hK => ?_) ?_
              · have Y := hY _ ⟨k, hk6⟩ _ HJ1 hlen
                rw [hpv] at Y
                obtain ⟨fn, tmps, assign, body, hy, hR⟩ := Y
                go_simp
                refine hR.mono ?_
                clear hR hy hY
                rintro r W3 (⟨rfl, hJ4, hk4⟩ | ⟨rfl, hJx4⟩)
                · have HJ4 : Hid (J (thL (qCh s p) k ++ [⟨k, hk6⟩]) W3) := hJ4
                  have hb4 : W3.cell? ⟨bp, 0, none⟩ = some (.int .i64 p.1) := hk4.2 _ _ rfl hb1
                  have HZ4 : Hid (W.heap.size ≤ W3.heap.size) := Nat.le_trans HZ1 hk4.1.size
                  clear hJ4 hk4
                  refine hK _ _ ?_
                  clear hK K
                  try simp only [Act.put, List.setIfInBounds_toArray, List.set_cons_zero, List.set_cons_succ]
                  refine wpAnyIn_take (i := 13) (v := ?v28) rfl rfl (by kernel_rfl) (by kernel_rfl) (by kernel_rfl) (fun _ _ _ h => h) ⟨Or.inl ⟨by rfl, ?hy28⟩, fun _ => rfl⟩ ?_
                  case hy28 => (intro w'; go_simp; try (with_reducible rfl))
                  simp only [Act.put, List.setIfInBounds_toArray]
                  refine wpAnyIn_take (i := 14) (v := ?v29) rfl rfl (by kernel_rfl) (by kernel_rfl) (by kernel_rfl) (fun _ _ _ h => h) ⟨Or.inl ⟨by rfl, ?hy29⟩, fun _ => rfl⟩ ?_
                  case hy29 => (intro w'; go_simp; try (with_reducible rfl))
                  simp only [Act.put]
                  refine wpAnyIn_done (by kernel_rfl) ?_ _
                  gi_wp2
                  go_roundw
                  case rel => exact ⟨k + 1, by go_num, by omega, HZ4, hb4, by rw [hnx]; exact HJ4⟩
                  case measure => simp [intOf]; omega
                · have HJ4 : Hid (Jx (thL (qCh s p) k ++ [⟨k, hk6⟩]) W3) := hJx4
                  clear hJx4
                  refine hK _ _ ?_
                  clear hK K
                  try simp only [Act.put, List.setIfInBounds_toArray, List.set_cons_zero, List.set_cons_succ]
                  refine wpAnyIn_take (i := 13) (v := ?v30) rfl rfl (by kernel_rfl) (by kernel_rfl) (by kernel_rfl) (fun _ _ _ h => h) ⟨Or.inl ⟨by rfl, ?hy30⟩, fun _ => rfl⟩ ?_
                  case hy30 => (intro w'; go_simp; try (with_reducible rfl))
                  simp only [Act.put, List.setIfInBounds_toArray]
                  refine wpAnyIn_take (i := 14) (v := ?v31) rfl rfl (by kernel_rfl) (by kernel_rfl) (by kernel_rfl) (fun _ _ _ h => h) ⟨Or.inl ⟨by rfl, ?hy31⟩, fun _ => rfl⟩ ?_
                  case hy31 => (intro w'; go_simp; try (with_reducible rfl))
                  simp only [Act.put]
                  refine wpAnyIn_done (by kernel_rfl) ?_ _
                  gi_wp2
                  refine bodyPost_ret (results_none rfl _ _ _) rfl ?_
                  exact ⟨⟨_, rfl⟩, .inr ⟨_, by rw [← hnx]; exact hpre, HJ4⟩⟩
              exact AllReadyIn.nil
            exact AllReadyIn.nil
          exact AllReadyIn.nil
        · rw [decide_eq_false hq] at hsn
          have hnx : Hid (thL (qCh s p) (k + 1) = thL (qCh s p) k) := by show _ = _; rw [hsn]; simp
          have hqb : (pa == (p.1 : Int)) = false := by simpa using hq
          clear hq hsn
          gi_wp2
          refine wpIn_region_any (by kernel_rfl) ?_
          (try (change wpAnyIn _ _ _ _ _ _ _ _ _ (World.drew _)))
          refine wpAnyIn_take (i := 0) (v := ?v38) rfl rfl (by kernel_rfl) (by kernel_rfl) (by kernel_rfl) (fun _ _ _ h => h) ⟨Or.inl ⟨by rfl, ?hy38⟩, fun _ => rfl⟩ ?_
          case hy38 => (intro w'; go_simp; try (with_reducible rfl))
          simp only [Act.put, List.setIfInBounds_toArray]
          refine wpAnyIn_take (i := 1) (v := ?v39) rfl rfl (by kernel_rfl) (by kernel_rfl) (by kernel_rfl) (fun _ _ _ h => h) ⟨Or.inl ⟨by rfl, ?hy39⟩, fun _ => rfl⟩ ?_
          case hy39 => (intro w'; go_simp; try (with_reducible rfl))
          simp only [Act.put]
          refine wpAnyIn_take (i := 2) (v := ?v40) rfl rfl (by kernel_rfl) (by kernel_rfl) (by kernel_rfl) (fun _ _ _ h => h) ⟨Or.inl ⟨by rfl, ?hy40⟩, fun _ => rfl⟩ ?_
          case hy40 => (intro w'; go_simp; try (with_reducible rfl))
          simp only [Act.put]
          refine wpAnyIn_take (i := 3) (v := ?v41) rfl rfl (by kernel_rfl) (by kernel_rfl) (by kernel_rfl) (fun _ _ _ h => h) ⟨Or.inl ⟨by rfl, ?hy41⟩, fun _ => rfl⟩ ?_
          case hy41 => (intro w'; go_simp; try (with_reducible rfl))
          simp only [Act.put]
          refine wpAnyIn_ready (rs := [4, 5]) (by kernel_rfl) (by simp) ?_
          refine AllReadyIn.cons rfl (fun K hK => ?_) ?_
          · go_simp
            refine ⟨trivial, ?_⟩
            gi_at_call 15
            refine (cP _).mono ?_
            rintro e W1 ⟨rfl, hB1⟩
            have HB1 : Hid (Below wr.heap.size wr W1) := ⟨hB1.os, hB1.tape, hB1.output, hB1.size, hB1.block⟩
            clear hB1
            have hb1 : W1.cell? ⟨bp, 0, none⟩ = some (.int .i64 p.1) := (HB1.cell (p := ⟨bp, 0, none⟩) hbl).trans hcb
            have HJ1 : Hid (J (thL (qCh s p) k) W1) := hJ _ wr _ none hJk (grown_of HB1) (fun r e => by cases e)
            have HZ1 : Hid (W.heap.size ≤ W1.heap.size) := Nat.le_trans HZ HB1.size
            refine hK _ _ ?_
            clear hK K
            try simp only [Act.put, List.setIfInBounds_toArray, List.set_cons_zero, List.set_cons_succ]
            refine wpAnyIn_ready (rs := [5]) (by kernel_rfl) (by simp) ?_
            refine AllReadyIn.cons rfl (fun K hK => ?_) ?_
            · go_simp
              refine hK _ _ ?_
              clear hK K
              try simp only [Act.put, List.setIfInBounds_toArray, List.set_cons_zero, List.set_cons_succ]
              refine wpAnyIn_take (i := 6) (v := ?v42) rfl rfl (by kernel_rfl) (by kernel_rfl) (by kernel_rfl) (fun _ _ _ h => h) ⟨Or.inl ⟨by rfl, ?hy42⟩, fun _ => rfl⟩ ?_
              case hy42 => (intro w'; go_simp; try (with_reducible rfl))
              simp only [Act.put, List.setIfInBounds_toArray]
              refine wpAnyIn_take (i := 7) (v := ?v43) rfl rfl (by kernel_rfl) (by kernel_rfl) (by kernel_rfl) (fun _ _ _ h => h) ⟨Or.inl ⟨by rfl, ?hy43⟩, fun _ => rfl⟩ ?_
              case hy43 => (intro w'; go_simp; try (with_reducible rfl))
              simp only [Act.put]
              refine wpAnyIn_take (i := 8) (v := ?v44) rfl rfl (by kernel_rfl) (by kernel_rfl) (by kernel_rfl) (fun _ _ _ h => h) ⟨Or.inl ⟨by rfl, ?hy44⟩, fun _ => rfl⟩ ?_
              case hy44 => (intro w'; go_simp; try (with_reducible rfl))
              simp only [Act.put]
              refine wpAnyIn_take (i := 9) (v := undef) rfl rfl (by kernel_rfl) (by kernel_rfl) (by kernel_rfl) (fun _ _ _ h => h) ⟨Or.inr ⟨by rfl, rfl⟩, fun _ => rfl⟩ ?_
              simp only [Act.put]
              refine wpAnyIn_take (i := 10) (v := undef) rfl rfl (by kernel_rfl) (by kernel_rfl) (by kernel_rfl) (fun _ _ _ h => h) ⟨Or.inr ⟨by rfl, rfl⟩, fun _ => rfl⟩ ?_
              simp only [Act.put]
              refine wpAnyIn_take (i := 11) (v := undef) rfl rfl (by kernel_rfl) (by kernel_rfl) (by kernel_rfl) (fun _ _ _ h => h) ⟨Or.inr ⟨by rfl, rfl⟩, fun _ => rfl⟩ ?_
              simp only [Act.put]
              refine wpAnyIn_ready (rs := [12]) (by kernel_rfl) (by simp) ?_
              refine AllReadyIn.cons rfl (fun K hK => ?_) ?_
              · go_simp
                first | (refine hK _ _ ?_) | (refine ⟨trivial, hK _ _ ?_⟩) | (refine ⟨(fun _ h => by cases h), hK _ _ ?_⟩)
                clear hK K
                try simp only [Act.put, List.setIfInBounds_toArray, List.set_cons_zero, List.set_cons_succ]
                refine wpAnyIn_take (i := 13) (v := undef) rfl rfl (by kernel_rfl) (by kernel_rfl) (by kernel_rfl) (fun _ _ _ h => h) ⟨Or.inr ⟨by rfl, rfl⟩, fun _ => rfl⟩ ?_
                simp only [Act.put, List.setIfInBounds_toArray]
                refine wpAnyIn_take (i := 14) (v := ?v49) rfl rfl (by kernel_rfl) (by kernel_rfl) (by kernel_rfl) (fun _ _ _ h => h) ⟨Or.inl ⟨by rfl, ?hy49⟩, fun _ => rfl⟩ ?_
                case hy49 => (intro w'; go_simp; try (with_reducible rfl))
                simp only [Act.put]
                refine wpAnyIn_done (by kernel_rfl) ?_ _
                gi_wp2
                go_roundw
                case rel => exact ⟨k + 1, by go_num, by omega, HZ1, hb1, by rw [hnx]; exact HJ1⟩
                case measure => simp [intOf]; omega
              exact AllReadyIn.nil
            exact AllReadyIn.nil
          refine AllReadyIn.cons rfl (fun K hK => ?_) ?_
          · go_simp
            refine hK _ _ ?_
            clear hK K
            try simp only [Act.put, List.setIfInBounds_toArray, List.set_cons_zero, List.set_cons_succ]
            refine wpAnyIn_ready (rs := [4]) (by kernel_rfl) (by simp) ?_
            refine AllReadyIn.cons rfl (fun K hK => ?_) ?_
            · go_simp
              refine ⟨trivial, ?_⟩
              gi_at_call 15
              refine (cP _).mono ?_
              rintro e W1 ⟨rfl, hB1⟩
              have HB1 : Hid (Below wr.heap.size wr W1) := ⟨hB1.os, hB1.tape, hB1.output, hB1.size, hB1.block⟩
              clear hB1
              have hb1 : W1.cell? ⟨bp, 0, none⟩ = some (.int .i64 p.1) := (HB1.cell (p := ⟨bp, 0, none⟩) hbl).trans hcb
              have HJ1 : Hid (J (thL (qCh s p) k) W1) := hJ _ wr _ none hJk (grown_of HB1) (fun r e => by cases e)
              have HZ1 : Hid (W.heap.size ≤ W1.heap.size) := Nat.le_trans HZ HB1.size
              refine hK _ _ ?_
              clear hK K
              try simp only [Act.put, List.setIfInBounds_toArray, List.set_cons_zero, List.set_cons_succ]
              refine wpAnyIn_take (i := 6) (v := ?v50) rfl rfl (by kernel_rfl) (by kernel_rfl) (by kernel_rfl) (fun _ _ _ h => h) ⟨Or.inl ⟨by rfl, ?hy50⟩, fun _ => rfl⟩ ?_
              case hy50 => (intro w'; go_simp; try (with_reducible rfl))
              simp only [Act.put, List.setIfInBounds_toArray]
              refine wpAnyIn_take (i := 7) (v := ?v51) rfl rfl (by kernel_rfl) (by kernel_rfl) (by kernel_rfl) (fun _ _ _ h => h) ⟨Or.inl ⟨by rfl, ?hy51⟩, fun _ => rfl⟩ ?_
              case hy51 => (intro w'; go_simp; try (with_reducible rfl))
              simp only [Act.put]
              refine wpAnyIn_take (i := 8) (v := ?v52) rfl rfl (by kernel_rfl) (by kernel_rfl) (by kernel_rfl) (fun _ _ _ h => h) ⟨Or.inl ⟨by rfl, ?hy52⟩, fun _ => rfl⟩ ?_
              case hy52 => (intro w'; go_simp; try (with_reducible rfl))
              simp only [Act.put]
              refine wpAnyIn_take (i := 9) (v := undef) rfl rfl (by kernel_rfl) (by kernel_rfl) (by kernel_rfl) (fun _ _ _ h => h) ⟨Or.inr ⟨by rfl, rfl⟩, fun _ => rfl⟩ ?_
              simp only [Act.put]
              refine wpAnyIn_take (i := 10) (v := undef) rfl rfl (by kernel_rfl) (by kernel_rfl) (by kernel_rfl) (fun _ _ _ h => h) ⟨Or.inr ⟨by rfl, rfl⟩, fun _ => rfl⟩ ?_
              simp only [Act.put]
              refine wpAnyIn_take (i := 11) (v := undef) rfl rfl (by kernel_rfl) (by kernel_rfl) (by kernel_rfl) (fun _ _ _ h => h) ⟨Or.inr ⟨by rfl, rfl⟩, fun _ => rfl⟩ ?_
              simp only [Act.put]
              refine wpAnyIn_ready (rs := [12]) (by kernel_rfl) (by simp) ?_
              refine AllReadyIn.cons rfl (fun K hK => ?_) ?_
              · go_simp
                first | (refine hK _ _ ?_) | (refine ⟨trivial, hK _ _ ?_⟩) | (refine ⟨(fun _ h => by cases h), hK _ _ ?_⟩)
                clear hK K
                try simp only [Act.put, List.setIfInBounds_toArray, List.set_cons_zero, List.set_cons_succ]
                refine wpAnyIn_take (i := 13) (v := undef) rfl rfl (by kernel_rfl) (by kernel_rfl) (by kernel_rfl) (fun _ _ _ h => h) ⟨Or.inr ⟨by rfl, rfl⟩, fun _ => rfl⟩ ?_
                simp only [Act.put, List.setIfInBounds_toArray]
                refine wpAnyIn_take (i := 14) (v := ?v57) rfl rfl (by kernel_rfl) (by kernel_rfl) (by kernel_rfl) (fun _ _ _ h => h) ⟨Or.inl ⟨by rfl, ?hy57⟩, fun _ => rfl⟩ ?_
                case hy57 => (intro w'; go_simp; try (with_reducible rfl))
                simp only [Act.put]
                refine wpAnyIn_done (by kernel_rfl) ?_ _
                gi_wp2
                go_roundw
                case rel => exact ⟨k + 1, by go_num, by omega, HZ1, hb1, by rw [hnx]; exact HJ1⟩
                case measure => simp [intOf]; omega
              exact AllReadyIn.nil
            exact AllReadyIn.nil
          exact AllReadyIn.nil
    · have hkz : ¬ (k : Int) < 6 := by omega
      obtain rfl : k = 6 := by omega
      gi_wp2
      go_end0
      exact ⟨⟨_, rfl⟩, .inl hJk⟩
end Go.Proofs.Ytnbmancadaeejaa
