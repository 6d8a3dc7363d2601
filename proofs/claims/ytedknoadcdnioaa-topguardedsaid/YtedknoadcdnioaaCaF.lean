/- The program's table: what those yields. -/
import Derived.Test.YtedknoadcdnioaaCaE
import Derived.BigRegionIn
import Derived.Sort.QuietIn
namespace Go.Proofs.Ytedknoadcdnioaa
open Go.RowKit Go.Shelf Go.Maps
set_option linter.unusedVariables false
set_option maxRecDepth 100000
attribute [local go_sem] Oper.semAt_some
/-- What is yielded of the first n slots. -/
def thL (q : Fin 12 → Bool) : Nat → List (Fin 12)
  | 0 => []
  | n + 1 => thL q n ++ (if h : n < 12 then (if q ⟨n, h⟩ then [⟨n, h⟩] else []) else [])
theorem thL_len (q : Fin 12 → Bool) : ∀ n, (thL q n).length ≤ n
  | 0 => Nat.le_refl _
  | n + 1 => by
    have := thL_len q n
    simp only [thL, List.length_append]
    split
    · split <;> simp <;> omega
    · simp; omega
theorem thL_pre (q : Fin 12 → Bool) : ∀ (m n : Nat), m ≤ n → thL q m <+: thL q n
  | m, 0, h => by obtain rfl : m = 0 := by omega
                  exact List.prefix_rfl
  | m, n + 1, h => by
    by_cases e : m = n + 1
    · subst e; exact List.prefix_rfl
    · exact (thL_pre q m n (by omega)).trans (List.prefix_append _ _)
/-- What a round that goes on keeps: walks, and some cells. -/
def KpC (X : Addr → Prop) (W W' : World) : Prop := KeepsWalks W W' ∧ ∀ a v, X a → W.cell? a = some v → W'.cell? a = some v
theorem kpC_t {X : Addr → Prop} {A B C : World} (h : KpC X A B) (k : KpC X B C) : KpC X A C := ⟨h.1.trans k.1, fun a v hx hv => k.2 a v hx (h.2 a v hx hv)⟩
theorem kpC_b {X : Addr → Prop} {w : World} (W : World) (l : Nat) (o o' : Obj) (hl : w.heap.size ≤ l) (h : W.heap[l]? = some o) (h1 : o.isCells = false) (h2 : o.isWalk = false) : KpC X W (W.putObj l o') :=
  ⟨walksK_b (w := w) W l o o' hl h h1 h2, fun a v hx hv => cell_kept hv (grownBy_putObj' W l o') (fun r e => by cases e; exact ⟨_, h, h1⟩)⟩
theorem kpC_r {X : Addr → Prop} (W : World) : KpC X W W := ⟨KeepsWalks.refl W, fun _ _ _ h => h⟩
/-- The cells that are read between two rounds: who is asked, and what this one holds. -/
def XB (bf bx : Nat) (a : Addr) : Prop := a = ⟨bf, 0, none⟩ ∨ (a = ⟨bx, 0, none⟩ ∨ a = ⟨bx, 1, none⟩)
def KB (bf bx : Nat) (W W' : World) : Prop := W.heap.size ≤ W'.heap.size ∧ ∀ a v, XB bf bx a → W.cell? a = some v → W'.cell? a = some v
theorem KB.below {bf bx : Nat} {A B C : World} (h : KB bf bx A B) (k : Below B.heap.size B C) : KB bf bx A C :=
  ⟨Nat.le_trans h.1 k.size, fun a v hx hv => by
    have := h.2 a v hx hv
    exact (k.cell (World.block_lt_of_cell? B _ this)).trans this⟩
theorem KB.kp {bf bx : Nat} {A B C : World} (h : KB bf bx A B) (k : KpC (XB bf bx) B C) : KB bf bx A C := ⟨Nat.le_trans h.1 k.1.size, fun a v hx hv => k.2 a v hx (h.2 a v hx hv)⟩
theorem grown_of {W W' : World} (h : Below W.heap.size W W') : W.grownBy W' none := ⟨h.os, h.tape, h.output, h.size, fun k hk _ => h.block k hk⟩
theorem wpListIn_loads {n : Nat} {ops : Array Oper} {rest : List Oper} {o : Oper} {a : Act} {w : World} {Q : Exit → Act → World → Prop} (hgd : o.guard = none) (ty : TypeId) (x : Operand) (ho : o.op = .load ty x) (v u : Value) (hx : a.eval x = v) (hL : (Instr.loadAt ty v).run Try.prog w = .ok u w)
    (h : wpListIn Fence.wide n Try.prog ops Q rest (a.put o.dst u) w) : wpListIn Fence.wide n Try.prog ops Q (o :: rest) a w :=
  wpListIn_plain hgd fun K hK => by
    refine ⟨fun _ _ => trivial, ?_⟩
    rw [Oper.semAt_plain _ _ _ (by intro c; rw [ho]; exact fun e => by cases e)]
    unfold execOp
    simp only [ho, hx, Sem.run_bind, hL, Result.andThen_ok, Sem.run_pure]
    exact hK _ _ h
theorem load_all {w : World} {b : Nat} {f : Fin 12 → Cp} (h : Cl w b 44 (csCs f)) : (Instr.loadAt 42 (.pointer (some ⟨b, 0, none⟩))).run Try.prog w = .ok (.agg (csCs f).toArray) w := by
  simp only [Instr.loadAt, Instr.sureAddr, Sem.run_bind, Sem.run_pure, Result.andThen_ok, run_loadVar_row w b 44 42 (csCs f).toArray (0, 0) _ h Try.underlying42 rfl (by kernel_rfl)]
theorem idx_any (f : Fin 12 → Cp) (k : Fin 12) (w : World) : (Instr.index 42 (.agg (csCs f).toArray) (.int .i64 k.1)).run Try.prog w = .ok (.agg #[.string (f k).1, .int .u8 (f k).2.toNat]) w := by
  revert k
  refine all12 ?_ ?_ ?_ ?_ ?_ ?_ ?_ ?_ ?_ ?_ ?_ ?_ <;> simp [go_sem, Instr.index, csCs] <;> rfl
set_option maxHeartbeats 1000000 in
theorem those1_in (n : Nat) (hn : 1 ≤ n) (l B bv bf bx b : Nat) (F : FuncId) (cs : Array Value) (hF : ∀ args w, (callFunc F args).run Try.prog w = .ok (.enter F args) w) (s : Sl) (q : Fin 12 → Bool) (J Jx : List (Fin 12) → World → Prop) (W : World)
    (hJ : AbidesFrom W.heap.size J) (hJx : AbidesFrom W.heap.size Jx)
    (hY : ∀ pre x W1, J pre W1 → pre.length < 12 → YieldAt Fence.wide (n - 1) Try.prog l (#[.int .i64 x.1]) W1 fun e W' =>
      (e = .returned (.bool true) ∧ J (pre ++ [x]) W' ∧ KpC (XB bf bx) W1 W') ∨ (e = .returned (.bool false) ∧ Jx (pre ++ [x]) W'))
    (hv : W.cell? ⟨bv, 0, none⟩ = some (.pointer (some ⟨b, 0, none⟩))) (hf : W.cell? ⟨bf, 0, none⟩ = some (.func (.func F) #[] cs)) (ht : Tb 44 B W b s)
    (hA : ∀ (k : Fin 12) W', KB bf bx W W' → CallsIn Fence.wide (n - 1) Try.prog F (#[.agg #[.string (slF s k).1, .int .u8 (slF s k).2.toNat]] ++ cs) W' fun e W'' => e = .returned (.bool (q k)) ∧ Below W'.heap.size W' W'')
    (h0 : J [] W) :
    CallsIn Fence.wide n Try.prog 30 #[.func (.yield l) #[] #[], .pointer (some ⟨bv, 0, none⟩), .pointer (some ⟨bf, 0, none⟩)] W fun e W' => (∃ v, e = .returned v) ∧
      ((∃ ys, ys = thL q 12 ∧ J ys W') ∨ (∃ pre, pre <+: thL q 12 ∧ Jx pre W')) := by
  have hL := load_all ht.c
  have hI := fun (k : Fin 12) w => idx_any (slF s) k w
  generalize (csCs (slF s)).toArray = C at *
  refine callsIn_of_wp Try.func30 rfl trivial ?_ rfl
  simp only [Try.ntmps30, List.size_toArray, List.length_cons, List.length_nil, Nat.reduceAdd, Nat.reduceSub, Array.replicate_succ, Array.replicate_zero, List.push_toArray, List.append_toArray, List.nil_append, List.cons_append]
  gi_wp2_with (refine wpListIn_loads rfl 42 _ rfl _ (.agg C) rfl hL ?_)
  gi_loopw [12] (fun st wr => ∃ (k : Nat), st = .int .i64 k ∧ k ≤ 12 ∧ Hid (KB bf bx W wr) ∧ J (thL q k) wr) (fun s12 _ => 12 - (intOf s12).toNat)
  case atStart => exact ⟨0, rfl, Nat.zero_le _, ⟨Nat.le_refl _, fun _ _ _ h => h⟩, h0⟩
  case round =>
    obtain ⟨k, rfl, hk, HK, hJk⟩ := hrel
    by_cases hk8 : k < 12
    · have hkz : (k : Int) < 12 := by omega
      have hi := hI ⟨k, hk8⟩
      have hnT : Hid (q ⟨k, hk8⟩ = true → thL q (k + 1) = thL q k ++ [⟨k, hk8⟩]) := fun e => by simp [thL, hk8, e]
      have hnF : Hid (q ⟨k, hk8⟩ = false → thL q (k + 1) = thL q k) := fun e => by simp [thL, hk8, e]
      have hlen : Hid ((thL q k).length < 12) := Nat.lt_of_le_of_lt (thL_len q k) hk8
      have hpre : Hid (thL q (k + 1) <+: thL q 12) := thL_pre q (k + 1) 12 (by omega)
      have hc := HK.out.2 _ _ (.inl rfl) hf
      have hlt := World.block_lt_of_cell? wr _ hc
      have HK1 : Hid (KB bf bx W (wr.alloc (.cells #[.string (slF s ⟨k, hk8⟩).1, .int .u8 (slF s ⟨k, hk8⟩).2.toNat] 27))) := HK.out.below (below_new wr _)
      have hJ1 : Hid (J (thL q k) (wr.alloc (.cells #[.string (slF s ⟨k, hk8⟩).1, .int .u8 (slF s ⟨k, hk8⟩).2.toNat] 27))) := hJ _ wr _ none hJk (World.grownBy_alloc wr _ none) (fun r e => by cases e)
      have cA := hA ⟨k, hk8⟩ _ HK1.out
      generalize (slF s ⟨k, hk8⟩).1 = nm at *
      generalize ((slF s ⟨k, hk8⟩).2.toNat : Int) = rt at *
      have HC := Hid3.mk cA
      clear hI hA cA hJk HK ht hL hv hf
      gi_wp2_with fail
      refine ⟨trivial, ?_⟩
      refine HC.out.mono ?_
      rintro e W2 ⟨rfl, hB2⟩
      have HK2 : Hid (KB bf bx W W2) := HK1.out.below hB2
      have hJ2 : Hid (J (thL q k) W2) := hJ _ _ _ none hJ1.out (grown_of hB2) (fun r e => by cases e)
      clear HC HK1 hJ1 hB2 hc hlt hi
      cases hq : q ⟨k, hk8⟩ with
      | false =>
        gi_wp2
        refine ⟨(fun _ h => by cases h), ?_⟩
        gi_wp2
        go_roundw
        case rel => exact ⟨k + 1, by go_num, by omega, HK2.out, by rw [hnF.out hq]; exact hJ2.out⟩
        case measure => simp [intOf]; omega
      | true =>
        have Y := hY _ ⟨k, hk8⟩ _ hJ2.out hlen.out
        obtain ⟨fn, tmps, assign, body, hy, hR⟩ := Y
        clear hY
        gi_wp2
        refine hR.mono ?_
        rintro r W3 (⟨rfl, hJ4, hk4⟩ | ⟨rfl, hJx4⟩)
        · have HK4 : Hid (KB bf bx W W3) := HK2.out.kp hk4
          gi_wp2
          go_roundw
          case rel => exact ⟨k + 1, by go_num, by omega, HK4.out, by rw [hnT.out hq]; exact hJ4⟩
          case measure => simp [intOf]; omega
        · gi_wp2
          refine bodyPost_ret (results_none rfl _ _ _) rfl ?_
          exact ⟨⟨_, rfl⟩, .inr ⟨_, by rw [← hnT.out hq]; exact hpre.out, hJx4⟩⟩
    · have hkz : ¬ (k : Int) < 12 := by omega
      obtain rfl : k = 12 := by omega
      gi_wp2
      go_end0
      exact ⟨⟨_, rfl⟩, .inl hJk⟩
end Go.Proofs.Ytedknoadcdnioaa
