/- The program's table: children as a function; Children. -/
import Derived.Test.YtnbmancadaeejaaPrC
import Derived.Test.YtnbmancadaeejaaPrBa
namespace Go.Proofs.Ytnbmancadaeejaa
open Go.RowKit Go.Shelf Go.Maps
set_option linter.unusedVariables false
set_option maxRecDepth 100000
attribute [local go_sem] Oper.semAt_some
theorem ch_in (n : Nat) (b : Nat) (pid : Int) (w : World) :
    CallsIn Fence.wide n Try.prog 10 #[.pointer (some ⟨b, 0, none⟩), .int .i64 pid] w fun e w' => e = .returned (.func (.func 14) #[] #[.pointer (some ⟨w.heap.size, 0, none⟩), .pointer (some ⟨w.heap.size + 1, 0, none⟩)]) ∧ w' = (w.alloc (.cells #[.pointer (some ⟨b, 0, none⟩)] 23)).alloc (.cells #[.int .i64 pid] 3) := by
  refine callsIn_of_wp Try.func10 rfl trivial ?_ rfl
  simp only [Try.ntmps10, List.size_toArray, List.length_cons, List.length_nil, Nat.reduceAdd, Nat.reduceSub, Array.replicate_succ, Array.replicate_zero, List.push_toArray, List.append_toArray, List.nil_append, List.cons_append]
  gi_wp2
  go_ret
  exact ⟨rfl, rfl⟩
/-- What is asked for: the boxes and the table. -/
structure ChC (B : Nat) (W : World) (bt bp b : Nat) (s : Pt) (pid : Int) : Prop where
  v : W.cell? ⟨bt, 0, none⟩ = some (.pointer (some ⟨b, 0, none⟩))
  f : W.cell? ⟨bp, 0, none⟩ = some (.int .i64 pid)
  t : Tp B W b s
theorem ChC.below {B : Nat} {W W' : World} {bt bp b : Nat} {s : Pt} {pid : Int} (h : ChC B W bt bp b s pid) (k : Below W.heap.size W W') : ChC B W' bt bp b s pid :=
  ⟨(k.cell (World.block_lt_of_cell? W _ h.v)).trans h.v, (k.cell (World.block_lt_of_cell? W _ h.f)).trans h.f, h.t.below k⟩
theorem ch1_no (n : Nat) (hn : 1 ≤ n) (l B bt bp b : Nat) (s : Pt) (pid : Int) (hp : gt s pid = .no) (W : World) (hc : ChC B W bt bp b s pid) :
    CallsIn Fence.wide n Try.prog 14 #[.func (.yield l) #[] #[], .pointer (some ⟨bt, 0, none⟩), .pointer (some ⟨bp, 0, none⟩)] W fun e W' => (∃ v, e = .returned v) ∧ W' = W := by
  have hv := hc.v
  have hf := hc.f
  have cA := callsIn_wide (n := n - 1) |>.2 (at_any B b s pid W hc.t)
  rw [hp] at cA
  unfold prV at cA
  clear hc hp
  refine callsIn_of_wp Try.func14 rfl trivial ?_ rfl
  simp only [Try.ntmps14, List.size_toArray, List.length_cons, List.length_nil, Nat.reduceAdd, Nat.reduceSub, Array.replicate_succ, Array.replicate_zero, List.push_toArray, List.append_toArray, List.nil_append, List.cons_append]
  gi_wp2_with (first | (refine ⟨trivial, ?_⟩; gi_at_call 13; refine cA.mono ?_; rintro e W2 ⟨rfl, hW2⟩; rw [hW2]; clear hW2))
  refine bodyPost_ret (results_none rfl _ _ _) rfl ?_
  exact ⟨⟨_, rfl⟩, rfl⟩
theorem ch_stops (n : Nat) (hn : 1 ≤ n) (B bt bp b : Nat) (s : Pt) (pid : Int) (w : World) (hc : ChC B w bt bp b s pid) :
    SeqStopsK Fence.wide n Try.prog 14 #[.pointer (some ⟨bt, 0, none⟩), .pointer (some ⟨bp, 0, none⟩)] (chV s) (KpC (XP bp)) (fun ys => ys = chA s pid) (fun pre => pre <+: chA s pid) 6 w := fun l J Jx W hW hJ hJx hY h0 => by
  by_cases hp : gt s pid = .no
  · rw [chA_no s pid hp]
    exact (ch1_no n hn l B bt bp b s pid hp W (hc.below hW)).mono fun e W' h => ⟨h.1, .inl ⟨[], rfl, by rw [h.2]; exact h0⟩⟩
  · rcases pid_cases pid with ho | ⟨p, rfl⟩
    · exact absurd (gt_out s pid ho) hp
    · rw [gt_in] at hp
      rw [chA_in s p hp]
      exact ch1_in n hn l B bt bp b s p hp J Jx W hJ hJx hY (hc.below hW).v (hc.below hW).f (hc.below hW).t h0
theorem box_kept {W W' : World} {row : Option Nat} {B : Nat} {t : TypeId} {v : Value} (h : Boxed W B t v) (hg : W.grownBy W' row) (hr : ∀ r, row = some r → ∃ o : Obj, W.heap[r]? = some o ∧ o.isCells = false) : Boxed W' B t v :=
  h.kept hg (fun e => by
    obtain ⟨o, ho, hc⟩ := hr B e.symm
    have h' : W.heap[B]? = some (.cells #[v] t (0, 0)) := h
    rw [h'] at ho
    cases ho
    cases hc)
theorem row_block {W : World} {base : Nat} {e : TypeId} {v : Value} {k : Nat} {xs : List Value} (h : W.ownsRow base e 1 v k xs) {B : Nat} (hB : B < base) : some B ≠ v.ownBlock := by
  rcases h.2 with ⟨rfl, _⟩ | ⟨g, cap, cur, rfl, hb, _⟩
  · simp [Value.ownBlock]
  · simp [Value.ownBlock]; omega
theorem kpX_of {bp : Nat} {W W' : World} {tf : TypeId} {xf : Value} (hk : KeepsWalks W W') (b3 : Boxed W bp tf xf) (b4 : Boxed W' bp tf xf) : KpC (XP bp) W W' := by
  refine ⟨hk, fun a v hx h => ?_⟩
  cases hx
  rw [b3.cell] at h; cases h; exact b4.cell
theorem Cl.kept {W W' : World} {row : Option Nat} {b : Nat} {t : TypeId} {c : List Value} (h : Cl W b t c) (hg : W.grownBy W' row) (hr : ∀ r, row = some r → ∃ o : Obj, W.heap[r]? = some o ∧ o.isCells = false) : Cl W' b t c :=
  (grownBy_keeps_cells hg hr h rfl).trans h
theorem apartK_b {w W : World} {X : Nat → Prop} (h : Apart X w W) (D : Nat) (o : Obj) (hD : w.heap.size ≤ D) : Apart X w (W.putObj D o) :=
  ⟨h.os, h.tape, h.output, by rw [show (W.putObj D o).heap.size = W.heap.size by simp]; exact h.size, fun k hk hx => (World.putObj_heap_other (by omega)).trans (h.block k hk hx)⟩
end Go.Proofs.Ytnbmancadaeejaa
