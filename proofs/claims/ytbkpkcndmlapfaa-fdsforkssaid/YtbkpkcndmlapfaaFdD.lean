/- The program's table: a row's list, slices.Index over pointers, put. -/
import Derived.Test.YtbkpkcndmlapfaaFdC
import Derived.OwnWalk
import Derived.OwnWalkIn
import Derived.LaidEqlPtr
import Derived.Laws.Pointers
namespace Go.Proofs.Ytbkpkcndmlapfaa
open Go.RowKit Go.Maps
set_option linter.unusedVariables false
set_option maxRecDepth 100000
theorem cell_one (w : World) (x : Value) (t : TypeId) : ∀ j v, [x][j]? = some v → (w.alloc (.cells #[x] t)).cell? ((⟨w.heap.size, 0, none⟩ : Addr).add j) = some v := by
  intro j v h
  match j, h with
  | 0, h =>
    injection h with h
    subst h
    simp [Addr.add, go_sem]
theorem infoI : (Try.prog.info? 3).map (fun i => (i.zero, i.size, i.bytes)) = some (some (.int .i64 0), 1, 8) := by kernel_rfl
theorem info_parts {t : TypeId} {z : Value} {n m : Nat} (h : (Try.prog.info? t).map (fun i => (i.zero, i.size, i.bytes)) = some (some z, n, m)) : ∃ i, Try.prog.info? t = some i ∧ i.zero = some z ∧ i.size = n ∧ i.bytes = m := by
  rw [Option.map_eq_some_iff] at h
  obtain ⟨i, h1, h2⟩ := h
  simp only [Prod.mk.injEq] at h2
  exact ⟨i, h1, h2.1, h2.2.1, h2.2.2⟩
theorem slice_of {w : World} {B t size n : Nat} {v : Value} {xs : List Value} (h : w.ownsRow B t size v n xs) : ∃ a cap, v = .slice a n cap := by
  rcases h.2 with ⟨hv0, hk0⟩ | ⟨g, cap, cur, hv0, _⟩
  · exact ⟨none, 0, by rw [hk0]; exact hv0⟩
  · exact ⟨_, _, hv0⟩
def iVs (l : List Nat) : List Value := l.map fun k : Nat => Value.int .i64 (k : Int)
/-- The descriptors below k that there are. -/
def lsL (f : Fin 8 → Nat) : Nat → List Nat
  | 0 => []
  | k + 1 => if h : k < 8 then (if f ⟨k, h⟩ = 0 then lsL f k else lsL f k ++ [k]) else lsL f k
theorem lsL_len (f : Fin 8 → Nat) : ∀ k, (lsL f k).length ≤ k
  | 0 => Nat.le_refl 0
  | k + 1 => by
    have := lsL_len f k
    unfold lsL
    split
    · split
      · omega
      · rw [List.length_append, List.length_singleton]
        omega
    · omega
theorem lsL_no (f : Fin 8 → Nat) (k : Nat) (h : k < 8) (h0 : f ⟨k, h⟩ = 0) : lsL f (k + 1) = lsL f k := by rw [lsL, dif_pos h, if_pos h0]
theorem lsL_yes (f : Fin 8 → Nat) (k : Nat) (h : k < 8) (h0 : f ⟨k, h⟩ ≠ 0) : lsL f (k + 1) = lsL f k ++ [k] := by rw [lsL, dif_pos h, if_neg h0]
set_option maxHeartbeats 4000000 in
theorem list_any (b : Nat) (f : Fin 8 → Nat) (o : Nat → Nat) (w : World) (h : Cl w b 75 (rCs f o)) : Calls Try.prog 34 #[.pointer (some ⟨b, 0, none⟩)] w fun r w' => ∃ v, r = .returned v ∧ w'.ownsRow w.heap.size 3 1 v (lsL f 8).length (iVs (lsL f 8)) ∧ Below w.heap.size w w' := by
  have hlt := h.lt
  have HC := Hid3.mk h
  obtain ⟨i0, hi0, hz0, hz1, hz2⟩ := info_parts infoI
  clear h
  go_enter Try.func34, Try.ntmps34
  go_wp2
  go_loopw [3, 7] (fun v i wr => ∃ k : Nat, k ≤ 8 ∧ i = .int .i64 k ∧ wr.ownsRow w.heap.size 3 1 v (lsL f k).length (iVs (lsL f k)) ∧ Below w.heap.size w wr) (fun _ i _ => 8 - (intOf i).toNat)
  case atStart => exact ⟨0, by omega, rfl, World.ownsRow_nil _ _ _ _, Below.refl _ _⟩
  case round =>
    obtain ⟨k, hk, rfl, hown, hB⟩ := hrel
    obtain ⟨a0, cap0, rfl⟩ := slice_of hown
    have hsb := hB.size
    have HO := Hid3.mk hown
    by_cases hk8 : k < 8
    · have hkz : (k : Int) < 8 := by omega
      have c0 : wr.cell? ⟨b, k, none⟩ = some (ptr (f ⟨k, hk8⟩ != 0) (o (f ⟨k, hk8⟩))) := ((HC.out.below hB).cell k).trans (rCs_at f o ⟨k, hk8⟩)
      have hL := lsL_len f k
      have hbl : b < wr.heap.size := Nat.lt_of_lt_of_le hlt hsb
      by_cases hf : f ⟨k, hk8⟩ = 0
      · rw [hf] at c0
        have c1 : wr.cell? ⟨b, k, none⟩ = some (.pointer none) := c0
        have HL := Hid3.mk (lsL_no f k hk8 hf)
        clear c0 hown hf
        go_wp2
        go_region
        go_wp2
        go_roundw
        case rel => exact ⟨k + 1, by omega, by go_num, by rw [HL.out]; exact HO.out, hB.drew⟩
        case measure => simp [intOf]; omega
      · rw [ptr_n hf] at c0
        have HL := Hid3.mk (lsL_yes f k hk8 hf)
        generalize o (f ⟨k, hk8⟩) = ob at *
        clear hown hf
        go_wp2
        go_region
        have hown : wr.drew.ownsRow w.heap.size 3 1 (.slice a0 (lsL f k).length cap0) (lsL f k).length (iVs (lsL f k)) := HO.out
        have hBd : Below w.heap.size w wr.drew := hB.drew
        have hsd : w.heap.size ≤ wr.drew.heap.size := hsb
        generalize wr.drew = wd at *
        go_wp2_with (at_builtin; refine wpList_append_own _ rfl _ _ 33 rfl w.heap.size 3 i0 (.int .i64 0) 1 8 Try.underlying33 hi0 hz0 hz1 hz2 rfl (by decide) _ _ _ rfl (hown.alloc _) ⟨wd.heap.size, 0, none⟩ 1 1 [.int .i64 (k : Int)] rfl rfl (cell_one wd (.int .i64 (k : Int)) 3) (by simp [Value.oneCell']) (by unfold maxLen; omega) (by omega) (by simp; omega) ?_; intro v' w1 hown' hgrow _)
        have hb3 : Below w.heap.size w w1 := (hBd.alloc hBd.size _).grown hgrow (by simp; omega) (fun j hj => (hown.lt j hj).1)
        go_roundw
        case rel =>
          refine ⟨k + 1, by omega, by go_num, ?_, hb3⟩
          rw [HL.out, List.length_append, iVs, List.map_append]
          exact hown'
        case measure => simp [intOf]; omega
    · have hkz : ¬ (k : Int) < 8 := by omega
      obtain rfl : k = 8 := by omega
      clear hown
      go_wp2
      go_ret
      exact ⟨_, rfl, HO.out, hB⟩
/-- Where the first of pointers is that is one. -/
def idxP (x : Option Nat) : List (Option Nat) → Nat → Option Nat
  | [], _ => none
  | y :: r, i => if y = x then some i else idxP x r (i + 1)
def pO : Option Nat → Value
  | none => .pointer none
  | some a => .pointer (some ⟨a, 0, none⟩)
def idI : Option Nat → Int
  | none => -1
  | some i => i
theorem idxP_drop (x : Option Nat) (l : List (Option Nat)) (k : Nat) (y : Option Nat) (h : l[k]? = some y) : idxP x (l.drop k) k = if y = x then some k else idxP x (l.drop (k + 1)) (k + 1) := by
  obtain ⟨hk, e⟩ := List.getElem?_eq_some_iff.1 h
  rw [List.drop_eq_getElem_cons hk, e, idxP]
theorem eql_nil (w : World) (p : Option Addr) : (binOp .eql 67 (.pointer none) (.pointer p)).run Try.prog w = .ok (.bool p.isNone) w := by
  have h : ∀ d : Nat, (Op.equalIn (d + 1) 67 (.pointer none) (.pointer p)).run Try.prog w = .ok p.isNone w := fun d => by
    cases p <;> simp [Op.equalIn, run_underlying Try.underlying67]
  simp only [binOp]
  simp [Op.equal, Op.maxDepth, h 9999]
theorem info_sh : (Try.prog.info? 69).map (·.size) = some 4 := by kernel_rfl
/-- A pointer to a block, or none. -/
def PtrIn (w : World) : Option Nat → Prop
  | none => True
  | some a => ∃ t c, Cl w a t c
theorem eql_ptr (w : World) (x y : Option Nat) (hx : PtrIn w x) (hy : PtrIn w y) : (binOp .eql 67 (pO x) (pO y)).run Try.prog w = .ok (.bool (decide (y = x))) w := by
  obtain ⟨j, hj, hs⟩ := Option.map_eq_some_iff.1 info_sh
  cases x with
  | none =>
    unfold pO
    cases y with
    | none => exact eql_nil w none
    | some c => exact eql_nil w (some ⟨c, 0, none⟩)
  | some a =>
    cases y with
    | none =>
      have := run_eql_pointer_nil (P := Try.prog) w 67 (some ⟨a, 0, none⟩) (by kernel_rfl)
      simpa [pO] using this
    | some c =>
      by_cases e : c = a
      · subst e
        rw [decide_eq_true rfl]
        exact run_eql_ptr_same w ⟨c, 0, none⟩ Try.underlying67 hj
      · rw [decide_eq_false (fun h => e (Option.some.inj h))]
        obtain ⟨t1, c1, h1⟩ := hx
        obtain ⟨t2, c2, h2⟩ := hy
        exact run_eql_ptr_other w Try.underlying67 hj (by omega) (a := ⟨a, 0, none⟩) (b := ⟨c, 0, none⟩) (fun h => e (by injection h with h _ _; exact h.symm)) h1 h2
theorem guard_ptr (w : World) (a b : Operand) (x y : Option Nat) : (eqGuard .eql 67 a b (pO x) (pO y)).run Try.prog w = .ok () w := by
  cases x <;> cases y <;> simp [eqGuard, pO]
set_option maxHeartbeats 4000000 in
theorem index_any (g cap : Nat) (l : List (Option Nat)) (x : Option Nat) (w : World) (hl : l.length ≤ 1000) (hc : ∀ j y, l[j]? = some y → w.cell? ⟨g, j, none⟩ = some (pO y)) (hx : PtrIn w x) (hP : ∀ y ∈ l, PtrIn w y) : Calls Try.prog 52 #[.slice (some ⟨g, 0, none⟩) l.length cap, pO x] w fun r w' => r = .returned (.int .i64 (idI (idxP x l 0))) ∧ w' = w := by
  have HC := Hid3.mk hc
  have HE : Hid3 (∀ y ∈ l, (binOp .eql 67 (pO x) (pO y)).run Try.prog w = .ok (.bool (decide (y = x))) w) := ⟨fun y hy => eql_ptr w x y hx (hP y hy)⟩
  have HG : Hid3 (∀ y, (eqGuard .eql 67 (.tmp 11) (.tmp 15) (pO x) (pO y)).run Try.prog w = .ok () w) := ⟨fun y => guard_ptr w _ _ x y⟩
  clear hc hx hP
  have e0 : idxP x l 0 = idxP x (l.drop 0) 0 := rfl
  rw [e0]
  generalize hN : l.length = N at *
  have HN := Hid3.mk hN
  clear hN e0
  generalize hpx : pO x = px at *
  obtain ⟨R, hR⟩ : ∃ R, idI (idxP x (l.drop 0) 0) = R := ⟨_, rfl⟩
  have HR := Hid3.mk hR
  rw [hR]
  clear hpx hR
  go_enter Try.func52, Try.ntmps52
  go_wp2
  go_loopw [8] (fun i W => ∃ k : Nat, i = .int .i64 k ∧ k ≤ N ∧ W = w ∧ Hid3 (idI (idxP x (l.drop k) k) = R)) (fun i _ => N - (intOf i).toNat)
  case atStart => exact ⟨0, rfl, Nat.zero_le _, rfl, HR⟩
  case round =>
    obtain ⟨k, rfl, hk, rfl, hT⟩ := hrel
    by_cases hkN : k < N
    · have hkz : (k : Int) < (N : Int) := by omega
      obtain ⟨y, hy⟩ : ∃ y, l[k]? = some y := ⟨l[k]'(by rw [HN.out]; exact hkN), List.getElem?_eq_getElem _⟩
      have c0 := HC.out k y hy
      have hq := HE.out y (List.mem_of_getElem? hy)
      have hG := HG.out y
      have hs := hT.out
      rw [idxP_drop x l k y hy] at hs
      generalize pO y = py at *
      by_cases hyx : y = x
      · rw [if_pos hyx] at hs
        rw [decide_eq_true hyx] at hq
        have HS := Hid3.mk hs
        clear hs hyx hT hy
        go_wp2
        go_ret
        exact ⟨by rw [← HS.out]; rfl, rfl⟩
      · rw [if_neg hyx] at hs
        rw [decide_eq_false hyx] at hq
        have HS := Hid3.mk hs
        clear hs hyx hT hy
        go_wp2
        go_roundw
        case rel => exact ⟨k + 1, by go_num, by omega, by trivial, HS⟩
        case measure => simp [intOf]; omega
    · have hkz : ¬ (k : Int) < (N : Int) := by omega
      have hs := hT.out
      rw [List.drop_eq_nil_of_le (by rw [HN.out]; omega), idxP] at hs
      have HS := Hid3.mk hs
      clear hs hT
      go_wp2
      go_ret
      exact ⟨by rw [← HS.out]; rfl, rfl⟩
end Go.Proofs.Ytbkpkcndmlapfaa
