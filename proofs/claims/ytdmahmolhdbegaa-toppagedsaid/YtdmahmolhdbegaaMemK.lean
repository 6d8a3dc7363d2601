/- A memory: the frames that are as one. -/
import Derived.Test.YtdmahmolhdbegaaMemJ
import Derived.OwnWalk
import Derived.OwnWalkIn
import Derived.Maps.AppendAt
namespace Go.Proofs.Ytdmahmolhdbegaa
open Go.RowKit Go.Maps
set_option linter.unusedVariables false
set_option maxRecDepth 100000
theorem cell_one (w : World) (x : Value) (t : TypeId) : ∀ j v, [x][j]? = some v → (w.alloc (.cells #[x] t)).cell? ((⟨w.heap.size, 0, none⟩ : Addr).add j) = some v := by
  intro j v h
  match j, h with
  | 0, h =>
    injection h with h
    subst h
    simp [Addr.add, go_sem]
theorem infoI : (Try.prog.info? 3).map (fun i => (i.zero, i.size, i.bytes)) = some (some (.int .i64 0), 1, 8) := by kernel_rfl
/-- Numbers that can be read. -/
def Nts (w : World) (v : Value) (xs : List Int) : Prop := ∃ a cap, v = .slice a xs.length cap ∧ xs.length ≤ cap ∧ ∀ j x, xs[j]? = some x → ∃ g off, a = some ⟨g, off, none⟩ ∧ w.cell? ⟨g, off + j, none⟩ = some (.int .i64 x)
theorem Nts.below {w w' : World} {v : Value} {xs : List Int} (h : Nts w v xs) (k : Below w.heap.size w w') : Nts w' v xs := by
  obtain ⟨a, cap, rfl, hc, hcell⟩ := h
  refine ⟨a, cap, rfl, hc, fun j x hj => ?_⟩
  obtain ⟨g, off, rfl, c0⟩ := hcell j x hj
  refine ⟨g, off, rfl, ?_⟩
  rw [World.cell?_of_block (w := w) (k.block g (World.block_lt_of_cell? w _ c0))]
  exact c0
theorem Nts.nil (w : World) : Nts w (.slice none 0 0) [] := ⟨none, 0, rfl, Nat.le_refl _, fun j x h => by cases h⟩
theorem Nts.of_own {w : World} {base : Nat} {v : Value} {n : Nat} {xs : List Int} (h : w.ownsRow base 3 1 v n (xs.map (Value.int .i64))) : Nts w v xs := by
  have hn : n = xs.length := by have := h.1; simpa using this.symm
  subst hn
  rcases h.2 with ⟨rfl, h0⟩ | ⟨g, cap, cur, rfl, _, hb, hk, _, _, htk⟩
  · obtain rfl : xs = [] := List.eq_nil_of_length_eq_zero h0
    exact Nts.nil w
  · refine ⟨_, cap, rfl, hk, fun j x hx => ⟨g, 0, rfl, ?_⟩⟩
    have h1 : (List.take (xs.length * 1) cur.toList)[j]? = some (.int .i64 x) := by rw [htk, List.getElem?_map, hx]; rfl
    have hj : j < xs.length := (List.getElem?_eq_some_iff.1 hx).1
    rw [List.getElem?_take, if_pos (by omega)] at h1
    simp only [Nat.zero_add, World.cell?, hb]
    simpa using h1
theorem quiet_load_mid {C : World → Prop} {K : Act → Prop} {o : Oper} {a : Act} (ty : TypeId) (x : Operand) (ho : o.op = .load ty x) (b off : Nat) (hx : a.eval x = .pointer (some ⟨b, off, none⟩)) (cs : List Value) (d : TypeDesc) (hC : ∀ w, C w → w.rangeAt b off cs)
    (hu : Try.prog.underlying ty = some d) (hd : d.isRow = true) (hi : (Try.prog.info? ty).map (·.size) = some cs.length) (hk : K (a.put o.dst (.agg cs.toArray))) : o.quiet Try.prog a C K :=
  ⟨_, fun w hw => by
    unfold Oper.quietAt execOp
    simp only [ho, hx, Instr.loadAt, Instr.sureAddr, Sem.run_bind, Sem.run_pure, Result.andThen_ok, run_loadVar_mid w b off ty cs d (hC w hw) hu hd hi]
    exact ⟨rfl, rfl⟩, hk⟩
/-- The frames below k, but f, whose bytes are f's. -/
def smL (L : List Int) (f : Nat) : Nat → List Int
  | 0 => []
  | k + 1 => if k ≠ f ∧ frL L k = frL L f then smL L f k ++ [(k : Int)] else smL L f k
theorem smL_len (L : List Int) (f : Nat) : ∀ k, (smL L f k).length ≤ k
  | 0 => Nat.le_refl 0
  | k + 1 => by
    have := smL_len L f k
    unfold smL
    split
    · rw [List.length_append, List.length_singleton]
      omega
    · omega
end Go.Proofs.Ytdmahmolhdbegaa
