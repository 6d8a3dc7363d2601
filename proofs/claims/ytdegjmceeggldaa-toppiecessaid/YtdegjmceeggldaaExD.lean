/- A region that draws its order, in a function that is walked behind a fence: all but its tail only reads. The extents, yielded one by one. The sectors that belong to nobody, yielded one by one. The sectors that belong to nobody, yielded one by one: an iterator over an iterator. -/
import Derived.Test.YtdegjmceeggldaaRounds
import Derived.Test.YtdegjmceeggldaaExA
import Derived.Test.YtdegjmceeggldaaNest
import Derived.Shelf.Abstract
import Derived.Shelf.RegionOpen
import Derived.OwnWalkIn
import Derived.TacticsInMore
import Derived.LoopNIn
import Derived.LoopIn
import Derived.BigRegionIn
import Derived.Sort.QuietIn
import Derived.Lib.OthersKept
namespace Go.Proofs.Ytdegjmceeggldaa
open Go.RowKit
set_option linter.unusedVariables false
section
variable {P : Program} {ops : Array Oper} {md : Region.Mode} {w : World} {m : Nat}
theorem wpIn_of_still0 {o : Oper} {a : Act} {K : Act → Prop} {K' : Act → World → Prop} {Q' : Exit → Act → World → Prop} (hd : ∀ c, o.op ≠ .defer c) (h : ∀ a, K a → K' a w) (hh : o.still P a w K) : o.wpIn Fence.wide m P a w K' Q' := by
  unfold Oper.still at hh
  refine ⟨fun _ _ => trivial, ?_⟩
  rw [Oper.semAt_plain _ _ _ hd]
  generalize (execOp a.eval o).run P w = r at *
  cases r with
  | ok n w' =>
    cases n <;> simp only [Oper.stillUpon] at hh <;> simp only [Oper.uponIn]
    case enter f args =>
      obtain ⟨rfl, v, hc, hn⟩ := hh
      exact ⟨(fun e => by cases e), (callsIn_wide.2 hc).mono fun e w'' ⟨he, hw⟩ => by subst he; subst hw; exact h _ hn⟩
    all_goals (obtain ⟨rfl, h2⟩ := hh; exact h _ h2)
  | halt x w' => simp only [Oper.stillUpon] at hh
theorem wpOpIn_of_stOp0 {i : Nat} {a : Act} {K : Act → Prop} {K' : Act → World → Prop} {Q' : Exit → Act → World → Prop} (hd : noDefer ops = true) (h : ∀ a, K a → K' a w) (hh : stOp P ops w i K a) : wpOpIn Fence.wide m P ops Q' i K' a w := by
  unfold stOp at hh
  unfold wpOpIn
  split
  · rename_i ho; simp only [ho] at hh; exact h _ hh
  · rename_i o ho
    simp only [ho] at hh
    split
    · rename_i hw; simp only [hw, if_true] at hh; exact wpIn_of_still0 (noDefer_spec hd ho) h hh
    · rename_i hw; simp only [hw] at hh; exact ⟨fun _ _ => trivial, h _ hh⟩
theorem wpAnyIn_of_head0 {n g : Nat} {T : Array Bool → Act → Prop} {Q' : Exit → Act → World → Prop} (hd : noDefer ops = true) (hL : ∀ listed a, T listed a → wpAnyIn Fence.wide m P md ops Q' g listed a w) :
    ∀ (f : Nat) (listed : Array Bool) (a : Act), wpAnyL P md ops w n T f listed a → wpAnyIn Fence.wide m P md ops Q' (f + g) listed a w
  | 0, listed, a, h => by rw [Nat.zero_add]; exact hL _ _ h
  | f + 1, listed, a, h => by
    rw [show f + 1 + g = (f + g) + 1 by omega]
    exact ⟨fun h0 => absurd h0 h.1, fun i hi => wpOpIn_of_stOp0 hd (fun a' h' => wpAnyIn_of_head0 hd hL f _ a' h') (h.2 i hi).2⟩
theorem wpAnyIn_of_seq0 {Q' : Exit → Act → World → Prop} : ∀ (l : List Oper) (k : Nat) (listed : Array Bool) (a : Act) (w : World), (∀ j, l[j]? = ops[k + j]?) →
    Region.seqB md ops l.length k listed = true → wpListIn Fence.wide m P ops Q' l a w → wpAnyIn Fence.wide m P md ops Q' l.length listed a w
  | [], _, _, _, _, _, hB, h => ⟨by simpa [Region.seqB] using hB, h⟩
  | o :: l, k, listed, a, w, hl, hB, h => by
    have h0 : ops[k]? = some o := by simpa using (hl 0).symm
    simp only [List.length_cons, Region.seqB, Bool.and_eq_true, decide_eq_true_eq] at hB
    refine ⟨fun h1 => (by rw [hB.1] at h1; cases h1), fun i hi => ?_⟩
    rw [hB.1] at hi
    have hik : i = k := by simpa using hi
    subst hik
    have hw : wpOpIn Fence.wide m P ops Q' i (wpListIn Fence.wide m P ops Q' l) a w := by unfold wpOpIn; simp only [h0]; exact h
    exact wpOpIn_mono (fun a' w' h' => wpAnyIn_of_seq0 l (i + 1) _ a' w' (fun j => by have := hl (j + 1); simpa [Nat.add_assoc, Nat.add_comm 1 j] using this) hB.2 h') hw
/-- The tail is walked in its order, behind all that reads. -/
theorem wide_still_tail {id : Nat} {Q : Exit → Act → World → Prop} {a : Act} {w : World} {l : List Oper} (n : Nat) (hm : P.follows .mixedOrders = true) (hd : noDefer l.toArray = true) (hB : Region.lexTailB .any l.toArray n = true)
    (h : wpStill P l.toArray w.drew (fun a' => wpListIn Fence.wide m P l.toArray Q (l.drop n) a' w.drew) (l.take n) a) : (Code.region id l.toArray true).wpIn Fence.wide m P Q a w := by
  simp only [Region.lexTailB, Bool.and_eq_true, decide_eq_true_eq] at hB
  obtain ⟨⟨⟨⟨hsel, hn⟩, hs⟩, hc⟩, hlex⟩ := hB
  have hn' : n < l.length := by simpa using hn
  have htl : (l.take n).length = n := by simp; omega
  have hdl : (l.drop n).length = l.toArray.size - n := by simp
  have inv0 : HeadInv .any l.toArray n (Array.replicate l.toArray.size false) :=
    ⟨by simp, fun j oj _ hl => (by rw [getD_replicate_false] at hl; cases hl), fun t _ ht => getD_in (by simpa using ht) (getD_replicate_false _ _)⟩
  have H := wpAnyL_lex (md := .any) (g := l.toArray.size - n) hsel hs hc hn (l.take n) 0 _ a (fun j hj => by
    have hj' : j < n := by rw [htl] at hj; exact hj
    simp [hj']) (by simpa using htl) inv0 (by rw [htl]; exact hlex) h
  refine wpIn_region_any hm ?_
  have := wpAnyIn_of_head0 (Q' := Q) (g := l.toArray.size - n) (m := m) hd (fun listed a' hL => by
    have := wpAnyIn_of_seq0 (md := .any) (Q' := Q) (m := m) (l.drop n) n listed a' w.drew (fun j => by simp [List.getElem?_drop]) (by rw [hdl]; exact hL.1) hL.2
    rwa [hdl] at this) _ _ _ H
  rw [htl, show n + (l.toArray.size - n) = l.toArray.size by omega] at this
  exact this
end
end Go.Proofs.Ytdegjmceeggldaa
namespace Go.Proofs.Ytdegjmceeggldaa
open Go.RowKit Go.Shelf Go.Maps
set_option linter.unusedVariables false
set_option maxRecDepth 100000
attribute [local go_sem] Oper.semAt_some
def exA (x : Ex) : Array Value := #[exV x]
set_option maxHeartbeats 1000000 in
theorem all1_in (n : Nat) (hn : 1 ≤ n) (l bl n₀ hb : Nat) (ns : List Ln) (J Jx : List Ex → World → Prop) (W : World)
    (hY : ∀ pre x W1, J pre W1 → pre.length < ns.length → YieldAt Fence.wide (n - 1) Try.prog l (exA x) W1 fun e W' =>
      (e = .returned (.bool true) ∧ J (pre ++ [x]) W' ∧ Below n₀ W1 W') ∨ (e = .returned (.bool false) ∧ Jx (pre ++ [x]) W'))
    (hv : W.cell? ⟨bl, 0, none⟩ = some (.pointer (some ⟨hb, 0, none⟩))) (h : Lst n₀ W hb ns) (h0 : J [] W) :
    CallsIn Fence.wide n Try.prog 32 #[.func (.yield l) #[] #[], .pointer (some ⟨bl, 0, none⟩)] W fun e W' => (∃ v, e = .returned v) ∧
      ((∃ ys, ys = ns.map Prod.snd ∧ J ys W') ∨ (∃ pre, pre <+: ns.map Prod.snd ∧ Jx pre W')) := by
  have hc6 := h.k.c.c6
  have hU : (ns.map Prod.fst).Nodup := (List.nodup_cons.1 h.u).2
  have HL : Hid (Lst n₀ W hb ns) := h
  clear h
  obtain ⟨v0, HV⟩ : ∃ v0, Hid (v0 = nxP ns) := ⟨_, rfl⟩
  rw [← HV.out] at hc6
  refine callsIn_of_wp Try.func32 rfl trivial ?_ rfl
  simp only [Try.ntmps32, List.size_toArray, List.length_cons, List.length_nil, Nat.reduceAdd, Nat.reduceSub, Array.replicate_succ, Array.replicate_zero, List.push_toArray, List.append_toArray, List.nil_append, List.cons_append]
  gi_wp2
  clear hv hc6
  gi_loopw [3] (fun st wr => ∃ (pre r : List Ln), st = nxP r ∧ Hid (pre ++ r = ns) ∧ Hid (Lst n₀ wr hb ns) ∧ J (pre.map Prod.snd) wr) (fun s3 _ => lenB ns s3)
  case atStart => exact ⟨[], ns, HV.out, rfl, HL, h0⟩
  case round =>
    obtain ⟨pre, r, rfl, HE, HC, hJk⟩ := hrel
    clear HL h0
    cases r with
    | nil =>
      have hE : pre = ns := by have := HE.out; simpa using this
      rw [show nxP ([] : List Ln) = .pointer none from rfl]
      gi_wp2
      go_end0
      exact ⟨⟨_, rfl⟩, .inl ⟨_, by rw [hE], hJk⟩⟩
    | cons p r =>
      obtain ⟨b, x⟩ := p
      have hK : Lks wr ((b, x) :: r) := by
        have := HC.out.k.2
        rw [← HE.out] at this
        exact this.drop
      have hlen : (pre.map Prod.snd).length < ns.length := by rw [← HE.out]; simp
      have hlt : lenB ns (nxP r) < lenB ns (nxP ((b, x) :: r)) := by
        rw [← HE.out] at hU ⊢
        exact lenB_lt pre (b, x) r hU
      have hM : Hid (lenB ns (nxP r) < lenB ns (.pointer (some ⟨b, 0, none⟩))) := hlt
      clear hlt
      have hc := hK.c
      have c0 := hc.c0
      have c1 := hc.c1
      have c2 := hc.c2
      have c3 := hc.c3
      have c4 := hc.c4
      have c5 := hc.c5
      clear hc
      have Y := hY (pre.map Prod.snd) x _ hJk hlen
      unfold exA exV at Y
      obtain ⟨fn, tmps, assign, body, hy, hR⟩ := Y
      rw [show nxP ((b, x) :: r) = .pointer (some ⟨b, 0, none⟩) from rfl]
      gi_wp2
      refine hR.mono ?_
      rintro q W3 (⟨rfl, hJ4, hk4⟩ | ⟨rfl, hJx4⟩)
      · have HC4 : Hid (Lst n₀ W3 hb ns) := HC.out.low hk4
        have c6 : W3.cell? ⟨b, 6, none⟩ = some (nxP r) := by
          have := HC4.out.k.2
          rw [← HE.out] at this
          exact this.drop.c.c6
        clear c0 c1 c2 c3 c4 c5 hK HC hJk hy
        gi_wp2
        go_roundw
        case rel => exact ⟨pre ++ [(b, x)], r, rfl, by have := HE.out; show _ = _; simpa using this, HC4.out, by simpa using hJ4⟩
        case measure => exact hM.out
      · gi_wp2
        refine bodyPost_ret (results_none rfl _ _ _) rfl ?_
        refine ⟨⟨_, rfl⟩, .inr ⟨_, ?_, hJx4⟩⟩
        rw [← HE.out]
        simp
theorem all_in (n : Nat) (hb : Nat) (w : World) :
    CallsIn Fence.wide n Try.prog 26 #[.pointer (some ⟨hb, 0, none⟩)] w fun e w' => e = .returned (.func (.func 32) #[] #[.pointer (some ⟨w.heap.size, 0, none⟩)]) ∧ w' = w.alloc (.cells #[.pointer (some ⟨hb, 0, none⟩)] 39) := by
  refine callsIn_of_wp Try.func26 rfl trivial ?_ rfl
  simp only [Try.ntmps26, List.size_toArray, List.length_cons, List.length_nil, Nat.reduceAdd, Nat.reduceSub, Array.replicate_succ, Array.replicate_zero, List.push_toArray, List.append_toArray, List.nil_append, List.cons_append]
  gi_wp2
  go_ret
  exact ⟨rfl, rfl⟩
theorem all_stops (n : Nat) (hn : 1 ≤ n) (n₀ bl hb : Nat) (ns : List Ln) (w : World) (hv : w.cell? ⟨bl, 0, none⟩ = some (.pointer (some ⟨hb, 0, none⟩))) (h : Lst n₀ w hb ns) :
    SeqStopsK Fence.wide n Try.prog 32 #[.pointer (some ⟨bl, 0, none⟩)] exA (Below n₀) (fun ys => ys = ns.map Prod.snd) (fun pre => pre <+: ns.map Prod.snd) ns.length w := fun l J Jx W hW hJ hJx hY h0 =>
  all1_in n hn l bl n₀ hb ns J Jx W hY ((hW.cell (World.block_lt_of_cell? w _ hv)).trans hv) (h.below hW) h0
end Go.Proofs.Ytdegjmceeggldaa
namespace Go.Proofs.Ytdegjmceeggldaa
open Go.RowKit Go.Shelf Go.Maps
set_option linter.unusedVariables false
set_option maxRecDepth 100000
attribute [local go_sem] Oper.semAt_some
theorem yield_wide {m m' l' l : Nat} {P : Program} {args : Array Value} {W : World} {R : Ending → World → Prop} (h : YieldAt Fence.wide m P l args W R) : YieldAt (Fence.wide.inRound l') m' P l args W R := by
  obtain ⟨fn, tmps, assign, body, hy, hR⟩ := h
  exact ⟨fn, tmps, assign, body, hy, trivial, fun c cs _ => hR.2 c cs (room_wide _)⟩
theorem end_any (x : Ex) (w : World) :
    Calls Try.prog 17 #[exV x] w fun e w' => e = .returned (.int .i64 ((x.st + x.ln : Nat) : Int)) ∧ w' = w.alloc (.cells (exCs x).toArray 37) := by
  have hb := x.b
  have hw : IntKind.i64.wrap ((x.st : Int) + (x.ln : Int)) = (x.st : Int) + (x.ln : Int) := by rw [IntKind.wrap_i64]; omega
  unfold exV exCs
  go_enter Try.func17, Try.ntmps17
  go_wp2
  go_ret
  refine ⟨?_, rfl⟩
  simp
theorem tall_any (n₀ tb hb N last : Nat) (ns : List Ln) (w : World) (h : Tp n₀ w tb hb N last ns) :
    Calls Try.prog 18 #[.pointer (some ⟨tb, 0, none⟩)] w fun e w' => e = .returned (.func (.func 32) #[] #[.pointer (some ⟨w.heap.size, 0, none⟩)]) ∧ w' = w.alloc (.cells #[.pointer (some ⟨hb, 0, none⟩)] 39) := by
  have c1 := h.t.cell 1
  have cA := fun w => (callsIn_wide (n := 1)).1 (all_in 1 hb w)
  clear h
  go_enter Try.func18, Try.ntmps18
  go_wp2_with fail
  refine (cA _).mono ?_
  rintro e W1 ⟨rfl, rfl⟩
  go_wp2
  go_ret
  exact ⟨rfl, rfl⟩
end Go.Proofs.Ytdegjmceeggldaa
namespace Go.Proofs.Ytdegjmceeggldaa
open Go.RowKit Go.Shelf Go.Maps
set_option linter.unusedVariables false
set_option maxRecDepth 100000
attribute [local go_sem] Oper.semAt_some
theorem Low.from {β : Type} {M B : Nat} {I : β → World → Prop} (h : Low M I) (hM : M ≤ B) (hI : ∀ s W, I s W → M ≤ W.heap.size) : OwnFrom B I :=
  fun s W W' row hs hg hr => h s W W' hs ((Below.refl M W).grown hg (hI s W hs) (fun k e => Nat.le_trans hM (hr k e).1))
/-- What abides between two rounds: the caller's; the two boxes; the table. -/
structure GpI (J : List Gp → World → Prop) (X : Nat → Prop) (W : World) (l : Nat) (pre : List Ex) (V : World) : Prop where
  j : J (gpB [] pre) V
  y : Boxed V W.heap.size 44 (.func (.yield l) #[] #[])
  f : Boxed V (W.heap.size + 1) 3 (.int .i64 (endL pre))
  a : Apart X W V
theorem GpI.from {J : List Gp → World → Prop} {X : Nat → Prop} {W : World} {l B : Nat} (hJ : Low W.heap.size J) (hB : W.heap.size + 2 ≤ B) : OwnFrom B (GpI J X W l) :=
  fun s V V' row hs hg hr => ⟨hJ _ _ _ hs.j ((Below.refl _ V).grown hg hs.a.size (fun k e => by have := (hr k e).1; omega)),
    hs.y.kept hg (fun e => by have := (hr _ e.symm).1; omega), hs.f.kept hg (fun e => by have := (hr _ e.symm).1; omega),
    ⟨hg.os.trans hs.a.os, hg.tape.trans hs.a.tape, hg.output.trans hs.a.output, Nat.le_trans hs.a.size hg.size, fun k hk hx => (hg.block k (Nat.lt_of_lt_of_le hk hs.a.size) (fun e => by have := (hr _ e.symm).1; omega)).trans (hs.a.block k hk hx)⟩⟩
theorem Cl.kept {W W' : World} {row : Option Nat} {b : Nat} {t : TypeId} {c : List Value} (h : Cl W b t c) (hg : W.grownBy W' row) (hr : ∀ r, row = some r → ∃ o : Obj, W.heap[r]? = some o ∧ o.isCells = false) : Cl W' b t c :=
  (grownBy_keeps_cells hg hr h rfl).trans h
theorem below_setC (B : Nat) (W : World) (b : Nat) (v : Value) (h : B ≤ b) : Below B W (W.setCell ⟨b, 0, none⟩ v) :=
  ⟨rfl, rfl, rfl, by rw [size_setCell]; exact Nat.le_refl _, fun k hk => Below.heap_setCell _ _ _ k (by show k ≠ b; omega)⟩
theorem Apart.keeps {X : Nat → Prop} {W W' : World} (h : Apart X W W') {B : Nat} (hx : ∀ k, B ≤ k → ¬ X k) : KeepsFrom B W W' :=
  ⟨h.size, fun k o hk ho _ => (h.block k (Array.getElem?_eq_some_iff.1 ho).1 (hx k hk)).trans ho⟩
theorem Apart.box {X : Nat → Prop} {W W' : World} (h : Apart X W W') {b : Nat} {t : TypeId} {v : Value} (hb : Boxed W b t v) (hx : ¬ X b) : Boxed W' b t v := (h.block b hb.lt hx).trans hb
set_option maxHeartbeats 2000000 in
theorem gap1_in (n : Nat) (hn : 5 ≤ n) (l bt n₀ tb hb N last : Nat) (hN : N ≤ 1000) (ns : List Ln) (X : Nat → Prop) (J Jx : List Gp → World → Prop) (W : World)
    (hX : ∀ k, W.heap.size ≤ k → ¬ X k) (hXn : ∀ k, X k → n₀ ≤ k) (hXb : ¬ X bt) (hnW : n₀ ≤ W.heap.size) (hJ : Low W.heap.size J) (hJx : Low W.heap.size Jx)
    (hY : ∀ pre x W1, J pre W1 → pre.length < ns.length + 1 → YieldAt Fence.wide (n - 1) Try.prog l (gpA x) W1 fun e W' =>
      Apart X W1 W' ∧ ((e = .returned (.bool true) ∧ J (pre ++ [x]) W') ∨ (e = .returned (.bool false) ∧ Jx (pre ++ [x]) W')))
    (hv : W.cell? ⟨bt, 0, none⟩ = some (.pointer (some ⟨tb, 0, none⟩))) (h : Tp n₀ W tb hb N last ns) (h0 : J [] W) :
    CallsIn Fence.wide n Try.prog 30 #[.func (.yield l) #[] #[], .pointer (some ⟨bt, 0, none⟩)] W fun e W' => (∃ v, e = .returned v) ∧
      ((∃ ys, ys = gpB [] (ns.map Prod.snd) ++ [gpEnd N hN (ns.map Prod.snd)] ∧ J ys W') ∨ (∃ pre, pre <+: gpB [] (ns.map Prod.snd) ++ [gpEnd N hN (ns.map Prod.snd)] ∧ Jx pre W')) := by
  have hro : Fence.wide.round = none := rfl
  have hbt : bt < W.heap.size := World.block_lt_of_cell? W _ hv
  have cA := fun w h => callsIn_wide (n := n - 1) |>.2 (tall_any n₀ tb hb N last ns w h)
  refine callsIn_of_wp_marks Try.func30 rfl trivial ?_ rfl
  simp only [Try.ntmps30, List.size_toArray, List.length_cons, List.length_nil, Nat.reduceAdd, Nat.reduceSub, Array.replicate_succ, Array.replicate_zero, List.push_toArray, List.append_toArray, List.nil_append, List.cons_append]
  have hB2 : Below W.heap.size W ((W.alloc (.cells #[.func (.yield l) #[] #[]] 44)).alloc (.cells #[.int .i64 0] 3)) := ((Below.refl _ W).alloc (Nat.le_refl _) _).alloc (by simp) _
  gi_wp2_with (refine ⟨trivial, fun _ => by omega, ?_⟩; refine (cA _ (h.below hB2)).mono ?_; rintro e w' ⟨rfl, rfl⟩)
  have bY := (Boxed.new W 44 (.func (.yield l) #[] #[])).alloc (.cells #[.int .i64 0] 3)
  have bF := Boxed.new (W.alloc (.cells #[.func (.yield l) #[] #[]] 44)) 3 (.int .i64 0)
  simp only [World.size_alloc] at bF
  have hz2 : ((W.alloc (.cells #[.func (.yield l) #[] #[]] 44)).alloc (.cells #[.int .i64 0] 3)).heap.size = W.heap.size + 1 + 1 := by simp
  generalize (W.alloc (.cells #[.func (.yield l) #[] #[]] 44)).alloc (.cells #[.int .i64 0] 3) = W2 at *
  have hs2 : W.heap.size + 2 ≤ W2.heap.size := bF.lt
  have bL := Boxed.new W2 39 (.pointer (some ⟨hb, 0, none⟩))
  have bY3 := bY.alloc (.cells #[.pointer (some ⟨hb, 0, none⟩)] 39)
  have bF3 := bF.alloc (.cells #[.pointer (some ⟨hb, 0, none⟩)] 39)
  have hB3 : Below W.heap.size W (W2.alloc (.cells #[.pointer (some ⟨hb, 0, none⟩)] 39)) := hB2.alloc hB2.size _
  have hs3 : W2.heap.size + 1 = (W2.alloc (.cells #[.pointer (some ⟨hb, 0, none⟩)] 39)).heap.size := by simp
  clear bY bF
  rw [hz2] at hs3 bL
  generalize (W2.alloc (.cells #[.pointer (some ⟨hb, 0, none⟩)] 39)) = W3 at *
  clear cA hB2 hz2 hs2
  have hT3 : Tp n₀ W3 tb hb N last ns := h.below hB3
  refine wpIn_rangeFunc_ownH hro (by omega) (gf := 32) (lb := #[.pointer (some ⟨W.heap.size + 1 + 1, 0, none⟩)]) rfl trivial (enters_of Try.func32 (by kernel_rfl) rfl)
    (all_stops (n - 1) (by omega) n₀ (W.heap.size + 1 + 1) hb ns W3 bL.cell hT3.l) belowK_t (belowK_b (by have := hB3.size; omega)) (Below.refl _ _) (fun _ => rfl)
    (GpI J X W l) (fun c pre V => (c = .ret ∧ W.heap.size ≤ V.heap.size) ∧ Jx (gpB [] pre) V)
    (GpI.from hJ (by omega)) ?hIx ⟨hJ _ _ _ h0 hB3, bY3, bF3, Apart.of_below hB3⟩
    (fun x a' V => ∃ D, W.heap.size + 2 ≤ D ∧ Cl V D 37 (exCs x) ∧ a' = { tmps := #[.func (.yield l) #[] #[], .pointer (some ⟨bt, 0, none⟩), .pointer (some ⟨W.heap.size, 0, none⟩), .pointer (some ⟨W.heap.size + 1, 0, none⟩), .pointer (some ⟨D, 0, none⟩), .pointer (some ⟨tb, 0, none⟩), .func (.func 32) #[] #[.pointer (some ⟨W.heap.size + 1 + 1, 0, none⟩)], exV x, undef, undef, undef, undef, undef, undef, undef, undef, undef, undef, undef, undef, undef, undef, undef, undef, undef, undef, undef], defers := [] })
    ?hAx ?assign ?body ?done ?stop
  case hIx => exact fun c s V V' row hs hg hr => ⟨⟨hs.1.1, Nat.le_trans hs.1.2 hg.size⟩, hJx _ _ _ hs.2 ((Below.refl _ V).grown hg hs.1.2 (fun k e => by have := (hr k e).1; omega))⟩
  case hAx =>
    rintro x a' _ V V' row ⟨D, hD, hc, he⟩ hg hr
    exact ⟨D, hD, hc.kept hg (fun r e => (hr r e).2), he⟩
  case assign =>
    intro l' pre x V K hI hK
    simp only [exA, exV]
    gi_wp2
    have hVs : W.heap.size + 2 ≤ V.heap.size := hI.f.lt
    exact hK _ _ (KeepsFrom.of_grownBy (World.grownBy_alloc V _ none) (by intro j e; cases e)) ((Below.refl _ V).alloc (by omega) _) ((GpI.from hJ (by omega)).alloc _ hI) ⟨V.heap.size, hVs, Cl.new V _ (exCs x), rfl⟩
  case body =>
    rintro l' pre x a' V hl' hrec hI ⟨D, hD, hC, rfl⟩ hlen
    have c0 := hC.cell 0
    have c1 := hC.cell 1
    have c2 := hC.cell 2
    have c3 := hC.cell 3
    have c4 := hC.cell 4
    have c5 := hC.cell 5
    have cy := hI.y.cell
    have cf := hI.f.cell
    simp only [exCs, List.getElem?_cons_zero, List.getElem?_cons_succ] at c0 c1 c2 c3 c4 c5
    have hle := endL_le pre
    have hxb := x.b
    have hs1 : IntKind.i64.wrap ((x.st : Int) - (endL pre : Int)) = (x.st : Int) - (endL pre : Int) := by rw [IntKind.wrap_i64]; omega
    have Y := yield_wide (m' := n - 1 - 1 - 1) (l' := l') (hY (gpB [] pre) (gpOf pre x) V hI.j (by rw [gpB_len]; omega))
    unfold gpA at Y
    obtain ⟨fn, tmps, assign, body, hy, hR⟩ := Y
    have hg := gpB_snoc [] pre x
    rw [List.nil_append] at hg
    rw [← hg] at hR
    have hfr : (gpOf pre x).fr = endL pre := rfl
    have hrm : (gpOf pre x).rm = (x.st : Int) - (endL pre : Int) := rfl
    rw [hfr, hrm] at hy
    unfold exV
    clear hfr hrm hg h hv hbt bL bY3 bF3 hT3
    gi_wp2
    refine ⟨fun _ => by omega, hR.mono ?_⟩
    rintro q V1 ⟨ap, (⟨rfl, hJ1⟩ | ⟨rfl, hJ1⟩)⟩
    · have hC1 := hC.stay ap (hX D (by omega))
      have hf1 := ap.box hI.f (hX _ (by omega))
      have hy1 := ap.box hI.y (hX _ (by omega))
      have hs4 := ap.size
      have hVs : W.heap.size + 2 ≤ V.heap.size := hI.f.lt
      clear c0 c1 c2 c3 c4 c5 cy cf
      have c0 := hC1.cell 0
      have c1 := hC1.cell 1
      have c2 := hC1.cell 2
      have c3 := hC1.cell 3
      have c4 := hC1.cell 4
      have c5 := hC1.cell 5
      simp only [exCs, List.getElem?_cons_zero, List.getElem?_cons_succ] at c0 c1 c2 c3 c4 c5
      have cE := (callsIn_wide (n := n - 1 - 1 - 1)).2 (end_any x V1)
      unfold exV at cE
      have hf2 := hf1.alloc (.cells (exCs x).toArray 37)
      have g1 := hf2.cell
      have g2 := hf2.frozen
      gi_wp2_with (refine ⟨trivial, fun _ => by omega, ?_⟩; refine (CallsIn.inRound l' cE).mono ?_; rintro e w' ⟨rfl, rfl⟩)
      have hb3 := hB3.size
      have ba : Below W.heap.size V1 ((V1.alloc (.cells (exCs x).toArray 37)).setCell ⟨W.heap.size + 1, 0, none⟩ (.int .i64 ((x.st : Int) + (x.ln : Int)))) :=
        ((Below.refl _ V1).alloc (by omega) _).trans (below_setC _ _ _ _ (by omega))
      refine ⟨⟨Nat.le_trans hs4 ba.size, fun k o hk ho ho2 => ?_⟩, ⟨ba.os.trans ap.os, ba.tape.trans ap.tape, ba.output.trans ap.output, Nat.le_trans hs4 ba.size, fun k hk => (ba.block k (by omega)).trans (ap.block k (by omega) (fun h => by have := hXn k h; omega))⟩, ?_⟩
      · have h1 : V1.heap[k]? = some o := (ap.block k (Array.getElem?_eq_some_iff.1 ho).1 (hX k (by omega))).trans ho
        have h2 := (Array.getElem?_eq_some_iff.1 h1).1
        exact (Below.heap_setCell _ _ _ k (by show k ≠ W.heap.size + 1; omega)).trans ((Below.heap_alloc V1 _ k h2).trans h1)
      · refine ⟨hJ _ _ _ hJ1 ba, ?_, ?_, ?_⟩
        · exact (hy1.alloc _).other (by omega) _
        · rw [endL_snoc, show ((x.st + x.ln : Nat) : Int) = (x.st : Int) + (x.ln : Int) by simp]
          exact hf2.set _
        · exact ⟨ba.os.trans (ap.os.trans hI.a.os), ba.tape.trans (ap.tape.trans hI.a.tape), ba.output.trans (ap.output.trans hI.a.output), Nat.le_trans (Nat.le_trans hI.a.size hs4) ba.size, fun k hk hx => (ba.block k hk).trans ((ap.block k (by omega) hx).trans (hI.a.block k hk hx))⟩
    · gi_wp2
      exact ⟨ap.keeps (fun k hk => hX k (by have := hB3.size; omega)), ⟨rfl, Nat.le_trans hI.a.size ap.size⟩, hJ1⟩
  case done =>
    rintro D0 ys V hD rfl hI hK
    have hb3 := hB3.size
    have hVs : W.heap.size + 2 ≤ V.heap.size := hI.f.lt
    have cy := hI.y.cell
    have cf := hI.f.cell
    have ct : V.cell? ⟨bt, 0, none⟩ = some (.pointer (some ⟨tb, 0, none⟩)) := by
      rw [← hv]
      unfold World.cell?
      rw [hI.a.block bt hbt hXb]
    have hTV : Tp n₀ V tb hb N last ns := h.low ⟨hI.a.os, hI.a.tape, hI.a.output, hI.a.size, fun k hk => hI.a.block k (by omega) (fun hx => by have := hXn k hx; omega)⟩
    have c0 := hTV.t.cell 0
    have hle := endL_le (ns.map Prod.snd)
    have hs1 : IntKind.i64.wrap ((N : Int) - (endL (ns.map Prod.snd) : Int)) = (N : Int) - (endL (ns.map Prod.snd) : Int) := by rw [IntKind.wrap_i64]; omega
    have HY := hY (gpB [] (ns.map Prod.snd)) (gpEnd N hN (ns.map Prod.snd)) V.drew (hJ _ _ _ hI.j ⟨rfl, rfl, rfl, Nat.le_refl _, fun _ _ => rfl⟩) (by rw [gpB_len]; simp)
    unfold gpA at HY
    obtain ⟨fn, tmps, assign, body, hy, hR'⟩ := HY
    have hfr : (gpEnd N hN (ns.map Prod.snd)).fr = endL (ns.map Prod.snd) := rfl
    have hrm : (gpEnd N hN (ns.map Prod.snd)).rm = (N : Int) - (endL (ns.map Prod.snd) : Int) := rfl
    rw [hfr, hrm] at hy
    clear hfr hrm bL bY3 bF3 hT3
    gi_wp2
    refine wide_still_tail 8 (by kernel_rfl) (by kernel_rfl) (by kernel_rfl) ?_
    simp only [List.take_succ_cons, List.take_zero, List.drop_succ_cons, List.drop_zero]
    iterate 8 still_step
    refine wpStill_nil ?_
    gi_wp2
    refine ⟨fun _ => by omega, hR'.mono ?_⟩
    rintro q V1 ⟨ap, hq⟩
    have hlD : D0 < V.heap.size := (Array.getElem?_eq_some_iff.1 hK).1
    have hK1 : V1.heap[D0]? = some (.deferred (some [])) := (ap.block D0 hlD (hX _ (by omega))).trans hK
    rcases hq with ⟨rfl, hJ1⟩ | ⟨rfl, hJ1⟩
    · gi_wp2
      refine ⟨by simp, .inl ⟨_, _, rfl, run_takeDeferred hK1, ?_⟩⟩
      exact ⟨.tuple #[], by simp [results, Try.f30, go_sem], ⟨_, rfl⟩, .inl ⟨_, rfl, hJ _ _ _ hJ1 (below_put _ (by omega))⟩⟩
    · gi_wp2
      refine ⟨by simp, .inl ⟨_, _, rfl, run_takeDeferred hK1, ?_⟩⟩
      exact ⟨.tuple #[], by simp [results, Try.f30, go_sem], ⟨_, rfl⟩, .inr ⟨_, List.prefix_rfl, hJx _ _ _ hJ1 (below_put _ (by omega))⟩⟩
  case stop =>
    rintro D0 c pre V hD hpre ⟨⟨rfl, hVs⟩, hx⟩ hK
    have hb3 := hB3.size
    gi_wp2
    refine ⟨by simp, .inl ⟨_, _, rfl, run_takeDeferred hK, ?_⟩⟩
    exact ⟨.tuple #[], by simp [results, Try.f30, go_sem], ⟨_, rfl⟩, .inr ⟨_, (gpB_pre hpre).trans (List.prefix_append _ _), hJx _ _ _ hx (below_put _ (by omega))⟩⟩
theorem gaps_in (n : Nat) (tb : Nat) (w : World) :
    CallsIn Fence.wide n Try.prog 21 #[.pointer (some ⟨tb, 0, none⟩)] w fun e w' => e = .returned (.func (.func 30) #[] #[.pointer (some ⟨w.heap.size, 0, none⟩)]) ∧ w' = w.alloc (.cells #[.pointer (some ⟨tb, 0, none⟩)] 22) := by
  refine callsIn_of_wp Try.func21 rfl trivial ?_ rfl
  simp only [Try.ntmps21, List.size_toArray, List.length_cons, List.length_nil, Nat.reduceAdd, Nat.reduceSub, Array.replicate_succ, Array.replicate_zero, List.push_toArray, List.append_toArray, List.nil_append, List.cons_append]
  gi_wp2
  go_ret
  exact ⟨rfl, rfl⟩
theorem gaps_seq (n : Nat) (hn : 5 ≤ n) (bt n₀ tb hb N last : Nat) (hN : N ≤ 1000) (ns : List Ln) (X : Nat → Prop) (w : World) (hXn : ∀ k, X k → n₀ ≤ k) (hXb : ¬ X bt) (hnW : n₀ ≤ w.heap.size)
    (hv : w.cell? ⟨bt, 0, none⟩ = some (.pointer (some ⟨tb, 0, none⟩))) (h : Tp n₀ w tb hb N last ns) :
    SeqU Fence.wide n Try.prog 30 #[.pointer (some ⟨bt, 0, none⟩)] gpA X (fun ys => ys = gpB [] (ns.map Prod.snd) ++ [gpEnd N hN (ns.map Prod.snd)])
      (fun pre => pre <+: gpB [] (ns.map Prod.snd) ++ [gpEnd N hN (ns.map Prod.snd)]) (ns.length + 1) w := fun l J Jx W hW hX hJ hJx hY h0 =>
  gap1_in n hn l bt n₀ tb hb N last hN ns X J Jx W hX hXn hXb (Nat.le_trans hnW hW.size) hJ hJx hY ((hW.cell (World.block_lt_of_cell? w _ hv)).trans hv) (h.below hW) h0
end Go.Proofs.Ytdegjmceeggldaa
