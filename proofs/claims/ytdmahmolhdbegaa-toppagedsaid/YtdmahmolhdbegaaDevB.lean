/- A disk: a new one, a sector that is set, a sector's bytes. -/
import Derived.Test.YtdmahmolhdbegaaDevA
namespace Go.Proofs.Ytdmahmolhdbegaa
open Go.RowKit Go.Maps
set_option linter.unusedVariables false
set_option maxRecDepth 100000
theorem putL_row (S : List Int) (k : Nat) (vs : List Int) (rest : List Value) (h : k + vs.length ≤ S.length) : (S.map (Value.int .u8) ++ rest).take k ++ (vs.map (Value.int .u8) ++ (S.map (Value.int .u8) ++ rest).drop (k + (vs.map (Value.int .u8)).length)) = (putL S k vs).map (Value.int .u8) ++ rest := by
  rw [List.length_map, List.take_append_of_le_length (by rw [List.length_map]; omega), List.drop_append_of_le_length (by rw [List.length_map]; omega)]
  simp only [putL, List.map_append, List.map_take, List.map_drop, List.append_assoc]
theorem wpList_copy_row {ops : Array Oper} {rest0 : List Oper} {o : Oper} {a : Act} {w : World} {Q : Exit → Act → World → Prop} (hgd : o.guard = none) (d s : Operand)
    (ho : o.op = .call { callee := .builtin .copy, args := #[d, s], argTypes := #[32, 32] }) (b k : Nat) (S : List Int) (rest : List Value) (ty : TypeId) (hm : w.heap[b]? = some (.cells (S.map (Value.int .u8) ++ rest).toArray ty)) (vs : List Int)
    (dLen dCap sLen sCap g p : Nat) (hd : a.eval d = .slice (some ⟨b, k, none⟩) dLen dCap) (hs : a.eval s = .slice (some ⟨g, p, none⟩) sLen sCap) (hn : vs.length = Nat.min sLen dLen)
    (hsrc : ∀ j x, vs[j]? = some x → w.cell? ⟨g, p + j, none⟩ = some (.int .u8 x)) (hfit : k + vs.length ≤ S.length)
    (h : ∀ w', w'.heap[b]? = some (.cells ((putL S k vs).map (Value.int .u8) ++ rest).toArray ty) → Only b w w' → wpList Try.prog ops Q rest0 (a.put o.dst (.int .i64 (vs.length : Int))) w') : wpList Try.prog ops Q (o :: rest0) a w := by
  refine wpList_copy_own hgd d s _ _ ho 5 (by kernel_rfl) (by kernel_rfl) b k dLen dCap ⟨g, p, none⟩ sLen sCap hd hs _ _ hm (vs.map (Value.int .u8)) (by simpa using hn) ?_ (by simp only [List.size_toArray, List.length_append, List.length_map]; omega) ?_ ?_
  · intro j v hv
    rw [List.getElem?_map] at hv
    cases hx : vs[j]? with
    | none => rw [hx] at hv; cases hv
    | some x =>
      rw [hx] at hv
      cases hv
      rw [Addr.add_mid]
      exact hsrc j x hx
  · intro v hv
    obtain ⟨x, _, rfl⟩ := List.mem_map.1 hv
    rfl
  · have e := putL_row S k vs rest hfit
    rw [e, List.length_map]
    exact h _ (setRow_heap w b _ _ _ _ hm) (Only.row b w _)
theorem own5_only {w w' : World} {B n sb : Nat} {t : TypeId} {v : Value} {xs : List Value} (h : w.ownsRow B t 5 v n xs) (k : Only sb w w') (hne : ∀ g, v.ownBlock = some g → g ≠ sb) : w'.ownsRow B t 5 v n xs := by
  refine ⟨h.1, ?_⟩
  rcases h.2 with h0 | ⟨g, cap, cur, h1, h2, h3, h4⟩
  · exact .inl h0
  · exact .inr ⟨g, cap, cur, h1, h2, (k.block g (Array.getElem?_eq_some_iff.1 h3).1 (hne g (by rw [h1]; rfl))).trans h3, h4⟩
theorem Dk.apart {B : Nat} {w : World} {db sb n : Nat} {S : List Int} {v : Value} {last : Int} {Q : List Rq} (h : Dk B w db sb n S v last Q) (g : Nat) (hg : v.ownBlock = some g) : g ≠ sb ∧ g ≠ db := by
  rcases h.own.2 with ⟨h0, _⟩ | ⟨g', cap, cur, h1, h2, h3, _⟩
  · rw [h0] at hg
    cases hg
  · rw [h1] at hg
    have e := Option.some.inj hg
    have e' : g' = g := e
    subst e'
    constructor
    · intro e
      subst e
      obtain ⟨r, e2⟩ := h.row
      rw [h3] at e2
      injection e2 with e2
      injection e2 with _ e2
      exact absurd e2 (by decide)
    · intro e
      subst e
      obtain ⟨C, _, e2⟩ := h.blk
      rw [h3] at e2
      injection e2 with e2
      injection e2 with _ e2
      exact absurd e2 (by decide)
/-- Its sectors are otherwise, all else is as it was. -/
theorem Dk.sect {B : Nat} {w w' : World} {db sb n : Nat} {S S' : List Int} {v : Value} {last : Int} {Q : List Rq} (h : Dk B w db sb n S v last Q) (k : Only sb w w') (hr : ∃ rest, w'.heap[sb]? = some (.cells (S'.map (Value.int .u8) ++ rest).toArray 82)) (hl : S'.length = S.length) : Dk B w' db sb n S' v last Q := by
  obtain ⟨C, hC, e⟩ := h.blk
  exact ⟨⟨C, hC, (k.block db h.lt h.ne).trans e⟩, hr, hl.trans h.len, own5_only h.own k (fun g hg => (h.apart g hg).1), h.n1, h.n64, h.few, h.ge, h.gs, h.la⟩
set_option maxHeartbeats 1000000 in
theorem dnew_good (n : Nat) (w : World) (h1 : 1 ≤ n) (h2 : n ≤ 64) : Calls Try.prog 6 #[.int .i64 n] w fun e w' => e = .returned (.pointer (some ⟨w.heap.size + 1, 0, none⟩)) ∧ Dk w.heap.size w' (w.heap.size + 1) w.heap.size n (List.replicate (n * 32) 0) (.slice none 0 0) 0 [] ∧ Below w.heap.size w w' := by
  have hmk := madeC_any n h2
  have g1 : ¬ (n : Int) < 1 := by omega
  have g2 : ¬ (64 : Int) < (n : Int) := by omega
  obtain ⟨R, hR⟩ : ∃ R, R = ((List.replicate (n * 32) (0 : Int)).map (Value.int .u8)).toArray := ⟨_, rfl⟩
  rw [← hR] at hmk
  have HR : Hid3 (R = ((List.replicate (n * 32) (0 : Int)).map (Value.int .u8)).toArray) := ⟨hR⟩
  clear hR
  go_enter Try.func6, Try.ntmps6
  go_wp2
  go_ret
  refine ⟨rfl, ⟨⟨n, Nat.le_refl _, ?_⟩, ⟨[], ?_⟩, List.length_replicate, World.ownsRow_nil _ _ _ _, h1, h2, by simp, by omega, Nat.le_refl _, by decide⟩, ((Below.refl _ w).alloc (Nat.le_refl _) _).alloc (by simp) _⟩
  · rw [show w.heap.size + 1 = (w.alloc (.cells R 82)).heap.size by simp]
    exact heap_alloc_last _ _
  · rw [Lib.alloc_old _ _ _ (by simp), List.append_nil, ← HR.out]
    exact heap_alloc_last _ _
set_option maxHeartbeats 2000000 in
theorem dset_ok (B db sb n i : Nat) (S vs : List Int) (v : Value) (last : Int) (Q : List Rq) (g p c : Nat) (w : World) (h : Dk B w db sb n S v last Q) (hi : i < n) (hv : vs.length = 32) (hS : Src w sb g p vs) : Calls Try.prog 9 #[.pointer (some ⟨db, 0, none⟩), .int .i64 i, .slice (some ⟨g, p, none⟩) 32 c] w fun e w' => e = .returned (.int .i64 0) ∧ Dk B w' db sb n (putL S (i * 32) vs) v last Q ∧ Only sb w w' := by
  have c1 := dthere_any B db sb n S v last Q i w h
  rw [show thE n i = 0 by unfold thE; rw [if_pos (by omega)]] at c1
  obtain ⟨C, hC, d0, d1, d2⟩ := h.c
  obtain ⟨rest, hrow⟩ := h.row
  have hn := h.n64
  have hiz : (i : Int) < (n : Int) := by omega
  have Hrow : Hid3 (w.heap[sb]? = some (.cells (S.map (Value.int .u8) ++ rest).toArray 82)) := ⟨hrow⟩
  have HS : Hid3 (S.length = n * 32) := ⟨h.len⟩
  have HV : Hid3 (vs.length = Nat.min 32 32) := ⟨hv⟩
  have HD : Hid3 (Dk B w db sb n S v last Q) := ⟨h⟩
  clear hrow hv h
  go_enter Try.func9, Try.ntmps9
  go_wp2_with fail
  refine c1.mono ?_
  rintro e W1 ⟨rfl, rfl⟩
  clear c1
  go_wp2_with (refine wpList_copy_row rfl _ _ rfl sb (i * 32) S rest _ Hrow.out vs 32 32 32 c g p rfl rfl HV.out hS.at_ (by have := HV.out; have := HS.out; simp at *; omega) ?_; intro W3 hM3 hO3)
  go_ret
  refine ⟨rfl, HD.out.sect hO3 ⟨rest, hM3⟩ (putL_length ?_), hO3⟩
  have := HV.out
  have := HS.out
  simp at *
  omega
end Go.Proofs.Ytdmahmolhdbegaa
