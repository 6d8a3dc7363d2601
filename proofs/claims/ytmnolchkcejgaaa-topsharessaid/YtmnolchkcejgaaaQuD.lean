/- The places that are somebody's, yielded one by one. -/
import Derived.Test.YtmnolchkcejgaaaQuC
import Derived.RangeFuncNested
import Derived.RangeFuncBound
import Derived.RangeFuncCalls
import Derived.RangeFuncLeaves
import Derived.RangeFuncBox
import Derived.RangeFuncWrites
import Derived.RangeFuncFrom
import Derived.Shelf.Abstract
import Derived.Shelf.RegionOpen
import Derived.OwnWalkIn
import Derived.TacticsInMore
import Derived.LoopNIn
import Derived.LoopIn
import Derived.BigRegionIn
import Derived.Sort.QuietIn
import Derived.Lib.OthersKept
namespace Go.Proofs.Ytmnolchkcejgaaa
open Go.RowKit Go.Shelf Go.Maps
set_option linter.unusedVariables false
set_option maxRecDepth 100000
attribute [local go_sem] Oper.semAt_some

abbrev Pe := Fin 8 × Fin 6
def peV (x : Pe) : Array Value := #[.int .i64 x.1.1, .int .u8 x.2.1]
def ordK (fr k : Nat) : Fin 8 := ⟨(fr + k) % 8, Nat.mod_lt _ (by decide)⟩
def oneL (pl : Fin 8 → Option (Fin 6)) (i : Fin 8) : List Pe := match pl i with
  | none => []
  | some e => [(i, e)]
/-- What is yielded by the first n of the places from one on. -/
def tkL (pl : Fin 8 → Option (Fin 6)) (fr : Nat) : Nat → List Pe
  | 0 => []
  | n + 1 => tkL pl fr n ++ oneL pl (ordK fr n)
theorem oneL_len (pl : Fin 8 → Option (Fin 6)) (i : Fin 8) : (oneL pl i).length ≤ 1 := by
  unfold oneL; split <;> simp
theorem tkL_pre (pl : Fin 8 → Option (Fin 6)) (fr : Nat) : ∀ (m n : Nat), m ≤ n → tkL pl fr m <+: tkL pl fr n
  | m, 0, h => by obtain rfl : m = 0 := by omega
                  exact List.prefix_rfl
  | m, n + 1, h => by
    by_cases e : m = n + 1
    · subst e; exact List.prefix_rfl
    · exact (tkL_pre pl fr m n (by omega)).trans (List.prefix_append _ _)
/-- What a round that goes on keeps: walks, and some cells. -/
def KpC (X : Addr → Prop) (W W' : World) : Prop := KeepsWalks W W' ∧ ∀ a v, X a → W.cell? a = some v → W'.cell? a = some v
theorem kpC_t {X : Addr → Prop} {A B C : World} (h : KpC X A B) (k : KpC X B C) : KpC X A C := ⟨h.1.trans k.1, fun a v hx hv => k.2 a v hx (h.2 a v hx hv)⟩
theorem kpC_b {X : Addr → Prop} {w : World} (W : World) (l : Nat) (o o' : Obj) (hl : w.heap.size ≤ l) (h : W.heap[l]? = some o) (h1 : o.isCells = false) (h2 : o.isWalk = false) : KpC X W (W.putObj l o') :=
  ⟨walksK_b (w := w) W l o o' hl h h1 h2, fun a v hx hv => cell_kept hv (grownBy_putObj' W l o') (fun r e => by cases e; exact ⟨_, h, h1⟩)⟩
theorem kpC_r {X : Addr → Prop} (W : World) : KpC X W W := ⟨KeepsWalks.refl W, fun _ _ _ h => h⟩
/-- The cells that are read between two rounds: the two boxes, the slice, the places. -/
def XA (bv bf vb pb : Nat) (a : Addr) : Prop := (a = ⟨bv, 0, none⟩ ∨ a = ⟨bf, 0, none⟩) ∨ (a = ⟨vb, 0, none⟩ ∨ ∃ j, a = ⟨pb, j, none⟩)
structure TkC (W : World) (bv bf vb pb fr : Nat) (pl : Fin 8 → Option (Fin 6)) : Prop where
  v : W.cell? ⟨bv, 0, none⟩ = some (.pointer (some ⟨vb, 0, none⟩))
  f : W.cell? ⟨bf, 0, none⟩ = some (.int .i64 fr)
  s : W.cell? ⟨vb, 0, none⟩ = some (.slice (some ⟨pb, 0, none⟩) 8 8)
  h0 : ∀ k : Fin 8, W.cell? ⟨pb, k.1 * 2, none⟩ = some (.int .u8 (envV (pl k)))
  h1 : ∀ k : Fin 8, W.cell? ⟨pb, k.1 * 2 + 1, none⟩ = some (.bool (pl k).isSome)
theorem TkC.of {W : World} {bv bf vb pb fr : Nat} {q : Qs} (h : VecC W vb pb q) (hv : W.cell? ⟨bv, 0, none⟩ = some (.pointer (some ⟨vb, 0, none⟩))) (hf : W.cell? ⟨bf, 0, none⟩ = some (.int .i64 fr)) : TkC W bv bf vb pb fr q.pl := ⟨hv, hf, h.c0, h.h0, h.h1⟩
theorem TkC.keep {W W' : World} {bv bf vb pb fr : Nat} {pl : Fin 8 → Option (Fin 6)} (h : TkC W bv bf vb pb fr pl) (k : ∀ a v, XA bv bf vb pb a → W.cell? a = some v → W'.cell? a = some v) : TkC W' bv bf vb pb fr pl :=
  ⟨k _ _ (.inl (.inl rfl)) h.v, k _ _ (.inl (.inr rfl)) h.f, k _ _ (.inr (.inl rfl)) h.s, fun i => k _ _ (.inr (.inr ⟨_, rfl⟩)) (h.h0 i), fun i => k _ _ (.inr (.inr ⟨_, rfl⟩)) (h.h1 i)⟩
theorem TkC.below {W W' : World} {bv bf vb pb fr : Nat} {pl : Fin 8 → Option (Fin 6)} (h : TkC W bv bf vb pb fr pl) (k : Below W.heap.size W W') : TkC W' bv bf vb pb fr pl :=
  h.keep (fun a v _ hv => (k.cell (World.block_lt_of_cell? W _ hv)).trans hv)

set_option maxHeartbeats 1000000 in
theorem tk1_in (n : Nat) (hn : 1 ≤ n) (l bv bf vb pb fr : Nat) (hfr : fr ≤ 8) (pl : Fin 8 → Option (Fin 6)) (J Jx : List Pe → World → Prop) (W : World)
    (hJ : AbidesFrom W.heap.size J) (hJx : AbidesFrom W.heap.size Jx)
    (hY : ∀ pre x W1, J pre W1 → pre.length < 8 → YieldAt Fence.wide (n - 1) Try.prog l (peV x) W1 fun e W' =>
      (e = .returned (.bool true) ∧ J (pre ++ [x]) W' ∧ KpC (XA bv bf vb pb) W1 W') ∨ (e = .returned (.bool false) ∧ Jx (pre ++ [x]) W'))
    (hc : TkC W bv bf vb pb fr pl) (h0 : J [] W) :
    CallsIn Fence.wide n Try.prog 10 #[.func (.yield l) #[] #[], .pointer (some ⟨bv, 0, none⟩), .pointer (some ⟨bf, 0, none⟩)] W fun e W' => (∃ v, e = .returned v) ∧
      ((∃ ys, ys = tkL pl fr 8 ∧ J ys W') ∨ (∃ pre, pre <+: tkL pl fr 8 ∧ Jx pre W')) := by
  have cv := hc.v
  have cs := hc.s
  refine callsIn_of_wp Try.func10 rfl trivial ?_ rfl
  simp only [Try.ntmps10, List.size_toArray, List.length_cons, List.length_nil, Nat.reduceAdd, Nat.reduceSub, Array.replicate_succ, Array.replicate_zero, List.push_toArray, List.append_toArray, List.nil_append, List.cons_append]
  gi_wp2
  gi_loopw [14] (fun st wr => ∃ (k : Nat), st = .int .i64 k ∧ k ≤ 8 ∧ Hid (TkC wr bv bf vb pb fr pl) ∧ Hid (W.heap.size ≤ wr.heap.size) ∧ J (tkL pl fr k) wr) (fun s14 _ => 8 - (intOf s14).toNat)
  case atStart => exact ⟨0, rfl, Nat.zero_le _, hc, Nat.le_refl _, h0⟩
  case round =>
    obtain ⟨k, rfl, hk, HC, HZ, hJk⟩ := hrel
    clear cv cs
    have cv := HC.out.v
    have cf := HC.out.f
    have cs := HC.out.s
    by_cases hk8 : k < 8
    · have hkz : (k : Int) < 8 := by omega
      obtain ⟨p, hp⟩ : ∃ p : Fin 8, p = ordK fr k := ⟨_, rfl⟩
      have hpz : ((fr : Int) + (k : Int)) % 8 = (p.1 : Int) := by rw [hp]; show _ = (((fr + k) % 8 : Nat) : Int); omega
      have hnx : tkL pl fr (k + 1) = tkL pl fr k ++ oneL pl p := by rw [hp]; rfl
      have c0 := HC.out.h0 p
      have c1 := HC.out.h1 p
      have hlen : (tkL pl fr k).length < 8 := by
        have : ∀ m, (tkL pl fr m).length ≤ m := by
          intro m
          induction m with
          | zero => exact Nat.le_refl _
          | succ m ih => have := oneL_len pl (ordK fr m); simp only [tkL, List.length_append]; omega
        have := this k
        omega
      have hpre := tkL_pre pl fr (k + 1) 8 (by omega)
      generalize tkL pl fr k = pre at *
      generalize hm : tkL pl fr (k + 1) = nx at *
      unfold oneL at hnx
      clear hp
      have hp8 : (p.1 : Int) < 8 := by omega
      have hs1 : IntKind.i64.wrap ((fr : Int) + (k : Int)) = (fr : Int) + (k : Int) := by rw [IntKind.wrap_i64]; omega
      cases ho : pl p with
      | none =>
        rw [ho] at c0 c1 hnx
        simp only [List.append_nil, envV, Option.isSome_none] at c0 c1 hnx
        clear c0 c1
        gi_wp2
        gi_quiet (fail)
        rw [hpz]
        have HC2 : Hid (TkC (wr.drewN nq) bv bf vb pb fr pl) := HC.out.below ⟨rfl, rfl, rfl, Nat.le_refl _, fun _ _ => rfl⟩
        have HZ2 : Hid (W.heap.size ≤ (wr.drewN nq).heap.size) := HZ.out
        have hJ2 : J pre (wr.drewN nq) := hJ pre wr _ none hJk ⟨rfl, rfl, rfl, Nat.le_refl _, fun _ _ _ => rfl⟩ (fun r e => by cases e)
        clear cv cf cs HC HZ hJk
        generalize wr.drewN nq = W2 at *
        have cv := HC2.out.v
        have cs := HC2.out.s
        have c0 := HC2.out.h0 p
        have c1 := HC2.out.h1 p
        rw [ho] at c0 c1
        simp only [envV, Option.isSome_none] at c0 c1
        have hl1 := World.block_lt_of_cell? W2 _ c0
        have hJ3 : J pre (W2.alloc (.cells #[.int .u8 0, .bool false] 35)) := hJ pre W2 _ none hJ2 (World.grownBy_alloc W2 _ none) (fun r e => by cases e)
        have HC3 : Hid (TkC (W2.alloc (.cells #[.int .u8 0, .bool false] 35)) bv bf vb pb fr pl) := HC2.out.below (below_new W2 _)
        have HZ3 : Hid (W.heap.size ≤ (W2.alloc (.cells #[.int .u8 0, .bool false] 35)).heap.size) := Nat.le_trans HZ2.out (by simp)
        gi_wp2
        refine ⟨(fun _ h => by cases h), ?_⟩
        gi_wp2
        go_roundw
        case rel => exact ⟨k + 1, by go_num, by omega, HC3.out, HZ3.out, by rw [hm, hnx]; exact hJ3⟩
        case measure => simp [intOf]; omega
      | some e =>
        rw [ho] at c0 c1 hnx
        simp only [envV, Option.isSome_some] at c0 c1 hnx
        clear c0 c1
        gi_wp2
        gi_quiet (fail)
        rw [hpz]
        have HC2 : Hid (TkC (wr.drewN nq) bv bf vb pb fr pl) := HC.out.below ⟨rfl, rfl, rfl, Nat.le_refl _, fun _ _ => rfl⟩
        have HZ2 : Hid (W.heap.size ≤ (wr.drewN nq).heap.size) := HZ.out
        have hJ2 : J pre (wr.drewN nq) := hJ pre wr _ none hJk ⟨rfl, rfl, rfl, Nat.le_refl _, fun _ _ _ => rfl⟩ (fun r e => by cases e)
        clear cv cf cs HC HZ hJk
        generalize wr.drewN nq = W2 at *
        have cv := HC2.out.v
        have cs := HC2.out.s
        have c0 := HC2.out.h0 p
        have c1 := HC2.out.h1 p
        rw [ho] at c0 c1
        simp only [envV, Option.isSome_some] at c0 c1
        have hl1 := World.block_lt_of_cell? W2 _ c0
        have hJ3 : J pre (W2.alloc (.cells #[.int .u8 e.1, .bool true] 35)) := hJ pre W2 _ none hJ2 (World.grownBy_alloc W2 _ none) (fun r e => by cases e)
        have HC3 : Hid (TkC (W2.alloc (.cells #[.int .u8 e.1, .bool true] 35)) bv bf vb pb fr pl) := HC2.out.below (below_new W2 _)
        have HZ3 : Hid (W.heap.size ≤ (W2.alloc (.cells #[.int .u8 e.1, .bool true] 35)).heap.size) := Nat.le_trans HZ2.out (by simp)
        have Y := hY pre (p, e) _ hJ3 hlen
        unfold peV at Y
        obtain ⟨fn, tmps, assign, body, hy, hR⟩ := Y
        clear hY
        gi_wp2
        refine hR.mono ?_
        rintro r W3 (⟨rfl, hJ4, hk4⟩ | ⟨rfl, hJx4⟩)
        · have HC4 : Hid (TkC W3 bv bf vb pb fr pl) := HC3.out.keep hk4.2
          have HZ4 : Hid (W.heap.size ≤ W3.heap.size) := Nat.le_trans HZ3.out hk4.1.size
          gi_wp2
          go_roundw
          case rel => exact ⟨k + 1, by go_num, by omega, HC4.out, HZ4.out, by rw [hm, hnx]; exact hJ4⟩
          case measure => simp [intOf]; omega
        · gi_wp2
          refine bodyPost_ret (results_none rfl _ _ _) rfl ?_
          exact ⟨⟨_, rfl⟩, .inr ⟨_, by rw [← hnx]; exact hpre, hJx4⟩⟩
    · have hkz : ¬ (k : Int) < 8 := by omega
      obtain rfl : k = 8 := by omega
      gi_wp2
      go_end0
      exact ⟨⟨_, rfl⟩, .inl hJk⟩
theorem tk_in (n : Nat) (vb : Nat) (fr : Int) (w : World) :
    CallsIn Fence.wide n Try.prog 8 #[.pointer (some ⟨vb, 0, none⟩), .int .i64 fr] w fun e w' => e = .returned (.func (.func 10) #[] #[.pointer (some ⟨w.heap.size, 0, none⟩), .pointer (some ⟨w.heap.size + 1, 0, none⟩)]) ∧ w' = (w.alloc (.cells #[.pointer (some ⟨vb, 0, none⟩)] 23)).alloc (.cells #[.int .i64 fr] 3) := by
  refine callsIn_of_wp Try.func8 rfl trivial ?_ rfl
  simp only [Try.ntmps8, List.size_toArray, List.length_cons, List.length_nil, Nat.reduceAdd, Nat.reduceSub, Array.replicate_succ, Array.replicate_zero, List.push_toArray, List.append_toArray, List.nil_append, List.cons_append]
  gi_wp2
  go_ret
  exact ⟨rfl, rfl⟩
theorem tk_stops (n : Nat) (hn : 1 ≤ n) (bv bf vb pb fr : Nat) (hfr : fr ≤ 8) (pl : Fin 8 → Option (Fin 6)) (w : World) (hc : TkC w bv bf vb pb fr pl) :
    SeqStopsK Fence.wide n Try.prog 10 #[.pointer (some ⟨bv, 0, none⟩), .pointer (some ⟨bf, 0, none⟩)] peV (KpC (XA bv bf vb pb)) (fun ys => ys = tkL pl fr 8) (fun pre => pre <+: tkL pl fr 8) 8 w := fun l J Jx W hW hJ hJx hY h0 =>
  tk1_in n hn l bv bf vb pb fr hfr pl J Jx W hJ hJx hY (hc.below hW) h0
end Go.Proofs.Ytmnolchkcejgaaa
