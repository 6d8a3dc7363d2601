/- twins: pointers that were seen, and what was made of each. -/
import Derived.Test.YtbkpkcndmlapfaaFdJ
import Derived.Deep.DeepCutAuto
namespace Go.Proofs.Ytbkpkcndmlapfaa
open Go.RowKit Go.Maps
set_option linter.unusedVariables false
set_option maxRecDepth 100000
theorem infoP : (Try.prog.info? 67).map (fun i => (i.zero, i.size, i.bytes)) = some (some (.pointer none), 1, 8) := by kernel_rfl
def pVs (l : List (Option Nat)) : List Value := l.map pO
theorem pVs_one (l : List (Option Nat)) : ∀ y ∈ pVs l, y.oneCell' = true := by
  intro y hy
  obtain ⟨x, _, rfl⟩ := List.mem_map.1 hy
  cases x <;> rfl
/-- A slice lists pointers. -/
def PtL (w : World) (u : Value) (l : List (Option Nat)) : Prop := ∃ ad cap, u = .slice (some ad) l.length cap ∧ ∀ j x, (pVs l)[j]? = some x → w.cell? (ad.add j) = some x
theorem ptl_one (w : World) (x : Option Nat) : PtL (w.alloc (.cells #[pO x] 67)) (.slice (some ⟨w.heap.size, 0, none⟩) 1 1) [x] := by
  refine ⟨_, 1, rfl, fun j y hj => ?_⟩
  exact cell_one w (pO x) 67 j y hj
theorem PtL.below {w w' : World} {u : Value} {l : List (Option Nat)} (h : PtL w u l) (k : Below w.heap.size w w') : PtL w' u l := by
  obtain ⟨ad, cap, h1, h2⟩ := h
  exact ⟨ad, cap, h1, fun j x hj => (k.cell (World.block_lt_of_cell? w _ (h2 j x hj))).trans (h2 j x hj)⟩
theorem PtL.far {X Wa : World} {b : Nat} {r : Option Nat} {l : List (Option Nat)} (h : PtL X (.slice (some ⟨b, 0, none⟩) 1 1) l) (hr : r ≠ some b) (grow : X.grownBy Wa r) : PtL Wa (.slice (some ⟨b, 0, none⟩) 1 1) l := by
  obtain ⟨ad, cap, h1, h2⟩ := h
  refine ⟨ad, cap, h1, fun j x hj => ?_⟩
  injection h1 with h1 _ _
  injection h1 with h1
  subst h1
  have hc := h2 j x hj
  have hb : ((⟨b, 0, none⟩ : Addr).add j).block = b := by unfold Addr.add; split <;> simp_all
  have hlt := World.block_lt_of_cell? X _ hc
  rw [hb] at hlt
  rw [← hc]
  have := grow.block b hlt (fun e => hr e.symm)
  simp only [World.cell?, hb, this]
theorem run_appP (w : World) (ty : TypeId) (B : Nat) (v : Value) (M : List (Option Nat)) (u : Value) (x : Option Nat) (hown : w.ownsRow B 67 1 v M.length (pVs M)) (hu : PtL w u [x]) (hl : M.length ≤ 1000) (hB : B ≤ w.heap.size) :
    ∃ v' w', (Builtin.append_ #[88, 88] ty #[v, u]).run Try.prog w = .ok v' w' ∧ w'.ownsRow B 67 1 v' (M ++ [x]).length (pVs (M ++ [x])) ∧ w.grownBy w' v.ownBlock ∧ (v'.ownBlock = v.ownBlock ∨ v'.ownBlock = some w.heap.size) := by
  obtain ⟨i, hi, hz, hs, hb⟩ := info_parts infoP
  obtain ⟨ad, cap, rfl, hcell⟩ := hu
  obtain ⟨v', w', h1, h2, h3, _, h5⟩ := run_append_own_at (P := Try.prog) w B 88 ty 67 i _ 1 8 Try.underlying88 hi hz hs hb rfl (by omega) v M.length (pVs M) hown ad 1 cap (pVs [x]) rfl hcell (pVs_one [x]) (by unfold maxLen; omega) (by omega) hB
  refine ⟨v', w', h1, ?_, h3, h5⟩
  have e : pVs (M ++ [x]) = pVs M ++ pVs [x] := by unfold pVs; rw [List.map_append]
  rw [e, List.length_append]
  exact h2
theorem step_appP {w : World} {ops : Array Oper} {o : Oper} {a : Act} {K : Act → World → Prop} {Q : Exit → Act → World → Prop} {E : Prop} (fl : Operand) (fv : Value) (hfl : a.eval fl = fv) (hgd : o.guard = none) (s x : Operand)
    (ho : o.op = .call { callee := .builtin .append, args := #[s, x], argTypes := #[88, 88] })
    (B : Nat) (v : Value) (M : List (Option Nat)) (u : Value) (y : Option Nat) (hs : a.eval s = v) (hx : a.eval x = u) (hown : w.ownsRow B 67 1 v M.length (pVs M)) (hu : PtL w u [y]) (hl : M.length ≤ 1000) (hB : B ≤ w.heap.size)
    (h : ∀ v' w', w'.ownsRow B 67 1 v' (M ++ [y]).length (pVs (M ++ [y])) → w.grownBy w' v.ownBlock → (v'.ownBlock = v.ownBlock ∨ v'.ownBlock = some w.heap.size) → K (a.put o.dst v') w') :
    if Region.wanted o (yielded ops a.tmps) = true then Oper.wp Try.prog o a w K Q else E := by
  have hw : Region.wanted o (yielded ops a.tmps) = true := by simp [Region.wanted, hgd]
  rw [if_pos hw]
  obtain ⟨v', w', hr, h2, h3, h4⟩ := run_appP w o.type B v M u y hown hu hl hB
  unfold Oper.wp execOp
  simp only [ho, resolve, invoke, builtin, Sem.run_bind, Sem.run_pure, Result.andThen_ok, List.map_toArray, List.map_cons, List.map_nil, hs, hx, hr]
  exact h v' w' h2 h3 h4
/-- A world behind W1: both rows, and all that is no row of pointers as it was. -/
structure Gd (N : Nat) (W1 V : World) (sv mv : Value) (ss ms : List (Option Nat)) : Prop where
  os : V.ownsRow N 67 1 sv ss.length (pVs ss)
  om : V.ownsRow N 67 1 mv ms.length (pVs ms)
  ne : sv.ownBlock = none ∨ sv.ownBlock ≠ mv.ownBlock
  bl : Below N W1 V
  kp : ∀ k, k < W1.heap.size → (∀ cur, W1.heap[k]? ≠ some (.cells cur 67 (0, 0))) → V.heap[k]? = W1.heap[k]?
  ol : ∀ g, sv.ownBlock = some g ∨ mv.ownBlock = some g → (∃ cur, W1.heap[g]? = some (.cells cur 67 (0, 0))) ∨ W1.heap.size ≤ g
theorem own_lt {w : World} {B t size n g : Nat} {v : Value} {xs : List Value} (h : w.ownsRow B t size v n xs) (e : v.ownBlock = some g) : B ≤ g ∧ g < w.heap.size ∧ ∃ cur, w.heap[g]? = some (.cells cur t (0, 0)) := by
  rcases h.2 with ⟨rfl, _⟩ | ⟨g', cap, cur, rfl, h1, hb, _⟩
  · cases e
  · have e' : g' = g := Option.some.inj e
    subst e'
    exact ⟨h1, (Array.getElem?_eq_some_iff.1 hb).1, cur, hb⟩
theorem Gd.low {N : Nat} {W1 V V' : World} {sv mv : Value} {ss ms : List (Option Nat)} (h : Gd N W1 V sv mv ss ms) (hN : N ≤ V.heap.size) (k : Below V.heap.size V V') : Gd N W1 V' sv mv ss ms := by
  have hs : W1.heap.size ≤ V.heap.size := h.bl.size
  refine ⟨own_stay h.os (Apart.of_below (X := fun _ => False) k) (fun _ _ => id), own_stay h.om (Apart.of_below (X := fun _ => False) k) (fun _ _ => id), h.ne, h.bl.trans (k.mono hN), fun i hi hx => (k.block i (by omega)).trans (h.kp i hi hx), h.ol⟩
theorem Gd.app1 {N : Nat} {W1 V V' : World} {sv mv sv' : Value} {ss ms ss' : List (Option Nat)} (h : Gd N W1 V sv mv ss ms) (hN : N ≤ V.heap.size) (own : V'.ownsRow N 67 1 sv' ss'.length (pVs ss')) (grow : V.grownBy V' sv.ownBlock) (at' : sv'.ownBlock = sv.ownBlock ∨ sv'.ownBlock = some V.heap.size) : Gd N W1 V' sv' mv ss' ms := by
  have hs : W1.heap.size ≤ V.heap.size := h.bl.size
  refine ⟨own, h.om.kept grow ?_, ?_, h.bl.grown grow hN (fun k e => (own_lt h.os e).1), fun i hi hx => ?_, fun g hg => ?_⟩
  · rcases h.om.2 with ⟨e, _⟩ | ⟨g, cap, cur, e, _⟩
    · rw [e]; exact .inl rfl
    · right
      intro x
      have e1 : mv.ownBlock = some g := by rw [e]; rfl
      rcases h.ne with h0 | h0
      · rw [h0, e1] at x; cases x
      · exact h0 x.symm
  · rcases at' with e | e
    · rw [e]; exact h.ne
    · right
      rw [e]
      intro x
      have := (own_lt h.om x.symm).2.1
      omega
  · rw [← h.kp i hi hx]
    refine grow.block i (by omega) (fun e => ?_)
    rcases h.ol i (.inl e.symm) with ⟨cur, hc⟩ | hc
    · exact hx cur hc
    · omega
  · rcases hg with hg | hg
    · rcases at' with e | e
      · exact h.ol g (.inl (by rw [← e]; exact hg))
      · rw [e] at hg
        have := Option.some.inj hg
        exact .inr (by omega)
    · exact h.ol g (.inr hg)
theorem Gd.swap {N : Nat} {W1 V : World} {sv mv : Value} {ss ms : List (Option Nat)} (h : Gd N W1 V sv mv ss ms) : Gd N W1 V mv sv ms ss :=
  ⟨h.om, h.os, by
    rcases h.om.2 with ⟨e, _⟩ | ⟨g, cap, cur, e, _⟩
    · rw [e]; exact .inl rfl
    · right
      intro x
      have e1 : mv.ownBlock = some g := by rw [e]; rfl
      rcases h.ne with h0 | h0
      · rw [h0, e1] at x; cases x
      · exact h0 x.symm, h.bl, h.kp, fun g hg => h.ol g hg.symm⟩
theorem Gd.app2 {N : Nat} {W1 V V' : World} {sv mv mv' : Value} {ss ms ms' : List (Option Nat)} (h : Gd N W1 V sv mv ss ms) (hN : N ≤ V.heap.size) (own : V'.ownsRow N 67 1 mv' ms'.length (pVs ms')) (grow : V.grownBy V' mv.ownBlock) (at' : mv'.ownBlock = mv.ownBlock ∨ mv'.ownBlock = some V.heap.size) : Gd N W1 V' sv mv' ss ms' := (h.swap.app1 hN own grow at').swap
/-- A box is as it was. -/
theorem Gd.box {N : Nat} {W1 V : World} {sv mv : Value} {ss ms : List (Option Nat)} {b : Nat} {t : TypeId} {c : List Value} (h : Gd N W1 V sv mv ss ms) (hc : Cl W1 b t c) (ht : t ≠ 67) : Cl V b t c := by
  refine (h.kp b hc.lt (fun cur e => ?_)).trans hc
  have := hc.symm.trans e
  injection this with this
  injection this with _ this
  exact ht this
end Go.Proofs.Ytbkpkcndmlapfaa
