/- A memory: frames that are the same. -/
import Derived.Test.YtdmahmolhdbegaaMemY
import Derived.ChangeKeysEq
import Derived.Laws.BytesArg
namespace Go.Proofs.Ytdmahmolhdbegaa
open Go.RowKit Go.Maps
set_option linter.unusedVariables false
set_option maxRecDepth 100000
theorem plain8 : Try.prog.plainKey 5 = true := by kernel_rfl
theorem cells8 : Try.prog.cellsOf 5 = 1 := by kernel_rfl
theorem part8 (xs : List Int) (i : Nat) (hi : i < xs.length) (w : World) : (part 5 (xs.map (Value.int .u8)).toArray (i * 1)).run Try.prog w = .ok (.int .u8 (xs.getD i 0)) w := by
  refine run_part_plain w plain8 ?_
  rw [Nat.mul_one, List.getElem?_toArray, List.getElem?_map, List.getD_eq_getElem?_getD, List.getElem?_eq_getElem hi]
  rfl
theorem eqItems8 (d : Nat) (xs ys : List Int) (w : World) : ∀ is : List Nat, (∀ i ∈ is, i < xs.length ∧ i < ys.length) → (Op.eqItems (d + 1) 5 1 (xs.map (Value.int .u8)).toArray (ys.map (Value.int .u8)).toArray is).run Try.prog w = .ok (is.all fun i => xs.getD i 0 == ys.getD i 0) w
  | [], _ => rfl
  | i :: is, h => by
    have h0 := h i (.head _)
    have ih := eqItems8 d xs ys w is (fun j hj => h j (.tail _ hj))
    rw [Op.eqItems]
    simp only [Sem.run_bind, part8 xs i h0.1 w, part8 ys i h0.2 w, Result.andThen_ok, run_equalIn_int w d 5 .u8 .u8 _ _ Try.underlying5, List.all_cons]
    cases hq : (xs.getD i 0 == ys.getD i 0) with
    | false => rfl
    | true =>
      simp only [Bool.not_true, Bool.false_eq_true, if_false, Bool.true_and]
      exact ih
theorem all_range (xs ys : List Int) (n : Nat) (hx : xs.length = n) (hy : ys.length = n) : ((List.range n).all fun i => xs.getD i 0 == ys.getD i 0) = decide (xs = ys) := by
  rw [Bool.eq_iff_iff, decide_eq_true_iff, List.all_eq_true]
  constructor
  · intro h
    refine List.ext_getElem (by omega) fun i h1 h2 => ?_
    have := h i (List.mem_range.2 (by omega))
    rw [List.getD_eq_getElem?_getD, List.getD_eq_getElem?_getD, List.getElem?_eq_getElem h1, List.getElem?_eq_getElem h2] at this
    simpa using this
  · rintro rfl i _
    exact beq_self_eq_true _
theorem eqGuardC : Try.prog.eqGuardType Try.prog.depth 75 = false := by kernel_rfl
theorem eqC (w : World) (xs ys : List Int) (hx : xs.length = 32) (hy : ys.length = 32) : (Op.equalIn 10000 75 (.agg (xs.map (Value.int .u8)).toArray) (.agg (ys.map (Value.int .u8)).toArray)).run Try.prog w = .ok (decide (xs = ys)) w := by
  obtain ⟨i, hi, _, _, _⟩ := info_parts infoU8
  show (Op.equalIn (9998 + 1 + 1) 75 _ _).run Try.prog w = _
  rw [run_equalIn_array w (9998 + 1) _ _ Try.underlying75 hi, cells8, eqItems8 9998 xs ys w _ (fun j hj => by have := List.mem_range.1 hj; omega), all_range xs ys 32 hx hy]
theorem wpList_g {ops : Array Oper} {rest : List Oper} {o : Oper} {a : Act} {w : World} {Q : Exit → Act → World → Prop} (hw : Region.wanted o (yielded ops a.tmps) = true) (h : wpList Try.prog ops Q ({ o with guard := none } :: rest) a w) : wpList Try.prog ops Q (o :: rest) a w := by
  rw [wpList, if_pos (by simp [Region.wanted])] at h
  rw [wpList, if_pos hw]
  exact h
def zeros : List Int := List.replicate 32 0
end Go.Proofs.Ytdmahmolhdbegaa
