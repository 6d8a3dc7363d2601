/- TopPieces: what an extent is, split into so many, merged again so far. -/
import Derived.Test.YtdegjmceeggldaaEzQ
namespace Go.Proofs.Ytdegjmceeggldaa
open Go.RowKit Go.Shelf Go.Maps
set_option linter.unusedVariables false
set_option maxRecDepth 100000
def nmD : ByteArray := ⟨#[47, 100]⟩
def pc (st id ln : Nat) : Ex := if h : st + ln ≤ 1000 then ⟨id, st, ln, 2, nmD, 1#8, h⟩ else zEx
theorem pc_eq {st id ln : Nat} (h : st + ln ≤ 1000) : pc st id ln = ⟨id, st, ln, 2, nmD, 1#8, h⟩ := by unfold pc; rw [dif_pos h]
def sing (st i0 m : Nat) : List Ex := (List.range m).map (fun j => pc (st + j) (i0 + j) 1)
theorem sing_snoc (st i0 m : Nat) : sing st i0 (m + 1) = sing st i0 m ++ [pc (st + m) (i0 + m) 1] := by unfold sing; rw [List.range_succ, List.map_append]; rfl
theorem sing_cons (st i0 m : Nat) : sing st i0 (m + 1) = pc st i0 1 :: sing (st + 1) (i0 + 1) m := by
  unfold sing
  rw [List.range_succ_eq_map, List.map_cons, List.map_map]
  congr 1
  refine List.map_congr_left (fun j _ => ?_)
  show pc (st + (j + 1)) (i0 + (j + 1)) 1 = pc (st + 1 + j) (i0 + 1 + j) 1
  rw [show st + (j + 1) = st + 1 + j by omega, show i0 + (j + 1) = i0 + 1 + j by omega]
theorem sing_id {st i0 m : Nat} (h : st + m ≤ 1000) {y : Ex} (hy : y ∈ sing st i0 m) : i0 ≤ y.id ∧ y.id < i0 + m := by
  unfold sing at hy
  obtain ⟨j, hj, rfl⟩ := List.mem_map.1 hy
  have := List.mem_range.1 hj
  rw [pc_eq (by omega)]
  show i0 ≤ i0 + j ∧ i0 + j < i0 + m
  omega
/-- Behind j splits. -/
def pcs (st n j : Nat) : List Ex := sing st 1 j ++ [pc (st + j) (j + 1) (n - j)]
/-- Behind j merges. -/
def mrg (st n j : Nat) : List Ex := pc st 1 (j + 1) :: sing (st + j + 1) (j + 2) (n - 1 - j)
theorem pcs_all (st n : Nat) (hn : 1 ≤ n) : pcs st n (n - 1) = mrg st n 0 := by
  unfold pcs mrg
  obtain ⟨m, rfl⟩ : ∃ m, n = m + 1 := ⟨n - 1, by omega⟩
  have h := sing_cons st 1 m
  rw [sing_snoc] at h
  rw [show m + 1 - 1 = m by omega, show m + 1 - m = 1 by omega, show m - 0 = m by omega, show m + 1 = 1 + m by omega]
  exact h
theorem split_step {w W : World} {T : Nat} {L : Lo} {st n j : Nat} (h : Lt w W T L ⟨30, pcs st n j, j + 1⟩) (hj : j + 1 < n) (hn : n ≤ 10) (hs : st + n ≤ 30) :
    Calls Try.prog 6 #[.pointer (some ⟨T, 0, none⟩), .int .u8 2, .int .u32 (j + 1 : Nat), .int .i64 (st + (j + 1) : Nat)] W fun e w' => e = .returned (.tuple #[.int .u32 (j + 1 + 1 : Nat), .int .i64 0]) ∧ TStp w.heap.size W w' L ⟨30, pcs st n (j + 1), j + 1 + 1⟩ := by
  have hb : st + j + (n - j) ≤ 1000 := by omega
  have hpc := pc_eq (id := j + 1) hb
  have hl1 : (sing st 1 j).length = j := by unfold sing; simp
  have c := p_split h.p h.bl.size 2 (j + 1) (st + (j + 1)) (sing st 1 j) [] ⟨j + 1, st + j, n - j, 2, nmD, 1#8, hb⟩ ⟨by show pcs st n j = _; unfold pcs; rw [hpc], fun y hy => by have := sing_id (by omega) hy; omega, rfl, rfl⟩ (by show st + j < st + (j + 1); omega) (by show st + (j + 1) < st + j + (n - j); omega) (by show (pcs st n j).length < 24; unfold pcs; rw [List.length_append, hl1]; simp; omega) (by show j + 1 < 1000000; omega) (by show st + j + (st + (j + 1) - (st + j)) ≤ 1000; omega)
  rw [h.t] at c
  refine c.mono fun e w' q => ⟨q.1, ?_⟩
  have e1 : pcs st n (j + 1) = sing st 1 j ++ (Ex.len ⟨j + 1, st + j, n - j, 2, nmD, 1#8, hb⟩ (st + (j + 1) - (st + j)) (by show st + j + (st + (j + 1) - (st + j)) ≤ 1000; omega)) :: (Ex.cut ⟨j + 1, st + j, n - j, 2, nmD, 1#8, hb⟩ (st + (j + 1)) (by show st + (j + 1) ≤ st + j + (n - j); omega)).num (j + 1 + 1) :: [] := by
    unfold pcs
    rw [sing_snoc, List.append_assoc]
    congr 1
    rw [pc_eq (by omega), pc_eq (by omega)]
    simp only [Ex.len, Ex.cut, Ex.num, List.cons_append, List.nil_append, List.cons.injEq, Ex.mk.injEq, and_true, true_and]
    omega
  rw [e1]
  exact q.2
theorem merge_step {w W : World} {T : Nat} {L : Lo} {st n j : Nat} (h : Lt w W T L ⟨30, mrg st n j, n⟩) (hj : j + 1 < n) (hn : n ≤ 10) (hs : st + n ≤ 30) :
    Calls Try.prog 9 #[.pointer (some ⟨T, 0, none⟩), .int .u8 2, .int .u32 1, .int .u32 (j + 1 + 1 : Nat)] W fun e w' => e = .returned (.int .i64 0) ∧ TStp w.heap.size W w' L ⟨30, mrg st n (j + 1), n⟩ := by
  have hb : st + (j + 1) ≤ 1000 := by omega
  have hb2 : st + j + 1 + 1 ≤ 1000 := by omega
  obtain ⟨m, hm⟩ : ∃ m, n - 1 - j = m + 1 := ⟨n - 1 - j - 1, by omega⟩
  have hm2 : n - 1 - (j + 1) = m := by omega
  have e0 : mrg st n j = [] ++ ⟨1, st, j + 1, 2, nmD, 1#8, hb⟩ :: ⟨j + 1 + 1, st + j + 1, 1, 2, nmD, 1#8, hb2⟩ :: sing (st + j + 1 + 1) (j + 1 + 1 + 1) m := by
    unfold mrg
    rw [hm, sing_cons, pc_eq hb, pc_eq hb2]
    rfl
  have c := p_merge h.p h.bl.size 2 1 (j + 1 + 1) [] (sing (st + j + 1 + 1) (j + 1 + 1 + 1) m) ⟨1, st, j + 1, 2, nmD, 1#8, hb⟩ ⟨j + 1 + 1, st + j + 1, 1, 2, nmD, 1#8, hb2⟩ ⟨e0, fun y hy => (by cases hy), rfl, rfl⟩ ⟨(by show mrg st n j = _; rw [e0]; rfl), fun y hy => (by rw [List.mem_singleton.1 hy]; show (1 : Nat) ≠ j + 1 + 1; omega), rfl, rfl⟩ (by show st + (j + 1) = st + j + 1; omega) (by unfold sameG; simp) (by show st + (j + 1 + 1) ≤ 1000; omega)
  rw [h.t] at c
  refine c.mono fun e w' q => ⟨q.1, ?_⟩
  have e1 : mrg st n (j + 1) = [] ++ (Ex.len ⟨1, st, j + 1, 2, nmD, 1#8, hb⟩ (j + 1 + 1) (by show st + (j + 1 + 1) ≤ 1000; omega)) :: sing (st + j + 1 + 1) (j + 1 + 1 + 1) m := by
    unfold mrg
    rw [hm2, pc_eq (by omega)]
    rfl
  rw [e1]
  exact q.2
end Go.Proofs.Ytdegjmceeggldaa
