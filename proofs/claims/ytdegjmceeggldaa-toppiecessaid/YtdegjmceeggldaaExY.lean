/- All extents, by their sectors; the numbers of those of an environment. -/
import Derived.Test.YtdegjmceeggldaaExX
import Derived.Lib.SmallJoins
namespace Go.Proofs.Ytdegjmceeggldaa
open Go.RowKit Go.Shelf Go.Maps
set_option linter.unusedVariables false
set_option maxRecDepth 100000
attribute [local go_sem] Oper.semAt_some
def exsC (l : List Ex) : List Value := l.flatMap exCs
theorem exsC_append (a b : List Ex) : exsC (a ++ b) = exsC a ++ exsC b := by unfold exsC; simp
theorem exsC_one1 (x : Ex) : exsC [x] = exCs x := by unfold exsC; simp
theorem exsC_len : ∀ l : List Ex, (exsC l).length = l.length * 6
  | [] => rfl
  | x :: r => by
    have ih := exsC_len r
    unfold exsC at ih ⊢
    rw [List.flatMap_cons, List.length_append, ih]
    show 6 + r.length * 6 = (r.length + 1) * 6
    omega
theorem exCs_cell (x : Ex) : ∀ u ∈ exCs x, u.oneCell' = true := by
  intro u hu
  simp only [exCs, List.mem_cons, List.mem_nil_iff, or_false] at hu
  rcases hu with rfl | rfl | rfl | rfl | rfl | rfl <;> rfl
theorem exsC_one (l : List Ex) : ∀ u ∈ exsC l, u.oneCell' = true := by
  intro u hu
  unfold exsC at hu
  obtain ⟨x, _, hx⟩ := List.mem_flatMap.1 hu
  exact exCs_cell x u hx
theorem exsC_at : ∀ (l : List Ex) (m : Nat) (x : Ex), l[m]? = some x → ∀ j, j < 6 → (exsC l)[m * 6 + j]? = (exCs x)[j]?
  | [], m, x, h, j, hj => by cases h
  | y :: r, 0, x, h, j, hj => by
    rw [List.getElem?_cons_zero, Option.some.injEq] at h
    subst h
    unfold exsC
    rw [List.flatMap_cons, Nat.zero_mul, Nat.zero_add, List.getElem?_append_left (by show j < 6; exact hj)]
  | y :: r, m + 1, x, h, j, hj => by
    rw [List.getElem?_cons_succ] at h
    have ih := exsC_at r m x h j hj
    unfold exsC at ih ⊢
    rw [List.flatMap_cons, List.getElem?_append_right (by show 6 ≤ _; omega)]
    rw [show (m + 1) * 6 + j - (exCs y).length = m * 6 + j by show (m + 1) * 6 + j - 6 = _; omega]
    exact ih
theorem infoE : (Try.prog.info? 37).map (fun i => (i.zero, i.size, i.bytes)) = some (some (.agg #[.int .u32 0, .int .i64 0, .int .i64 0, .int .u8 0, .string ⟨#[]⟩, .int .u8 0]), 6, 56) := by kernel_rfl
theorem infoU : (Try.prog.info? 24).map (fun i => (i.zero, i.size, i.bytes)) = some (some (.int .u32 0), 1, 4) := by kernel_rfl
theorem ipartsX {t : TypeId} {z : Value} {n m : Nat} (h : (Try.prog.info? t).map (fun i => (i.zero, i.size, i.bytes)) = some (some z, n, m)) : ∃ i, Try.prog.info? t = some i ∧ i.zero = some z ∧ i.size = n ∧ i.bytes = m := by
  rw [Option.map_eq_some_iff] at h
  obtain ⟨i, h1, h2⟩ := h
  simp only [Prod.mk.injEq] at h2
  exact ⟨i, h1, h2.1, h2.2.1, h2.2.2⟩
theorem slice_ofX {w : World} {B t size n : Nat} {v : Value} {xs : List Value} (h : w.ownsRow B t size v n xs) : ∃ a cap, v = .slice a n cap := by
  rcases h.2 with ⟨hv0, hk0⟩ | ⟨g, cap, cur, hv0, _⟩
  · exact ⟨none, 0, by rw [hk0]; exact hv0⟩
  · exact ⟨_, _, hv0⟩
theorem row_blockX {W : World} {base : Nat} {e : TypeId} {z : Nat} {v : Value} {k : Nat} {xs : List Value} (h : W.ownsRow base e z v k xs) {B : Nat} (hB : B < base) : some B ≠ v.ownBlock := by
  rcases h.2 with ⟨rfl, _⟩ | ⟨g, cap, cur, rfl, hb, _⟩
  · simp [Value.ownBlock]
  · simp [Value.ownBlock]; omega
/-- What lies in a new block. -/
theorem new_cellsX (w : World) (c : List Value) (t : TypeId) : ∀ j v, c[j]? = some v → (w.alloc (.cells c.toArray t)).cell? ((⟨w.heap.size, 0, none⟩ : Addr).add j) = some v := by
  intro j v h
  have h1 := (Cl.new w t c).cell j
  rw [h] at h1
  rw [show ((⟨w.heap.size, 0, none⟩ : Addr).add j) = ⟨w.heap.size, j, none⟩ by simp [Addr.add]; omega]
  exact h1
theorem exs_agg (x : Ex) : (exCs x).toArray = #[.int .u32 x.id, .int .i64 x.st, .int .i64 x.ln, .int .u8 x.ow, .string x.nm, .int .u8 x.rt.toNat] := rfl
set_option maxHeartbeats 2000000 in
theorem list_in (n : Nat) (hn : 8 ≤ n) (n₀ tb hb N last : Nat) (ns : List Ln) (hns : ns.length ≤ 24) (w : World) (h : Tp n₀ w tb hb N last ns) (hn0 : n₀ ≤ w.heap.size) :
    CallsIn Fence.wide n Try.prog 7 #[.pointer (some ⟨tb, 0, none⟩)] w fun e W' => ∃ v, e = .returned v ∧ W'.ownsRow w.heap.size 37 6 v (ns.map Prod.snd).length (exsC (ns.map Prod.snd)) ∧ Below w.heap.size w W' := by
  have hro : Fence.wide.round = none := rfl
  have cG := fun w h => (callsIn_wide (n := n - 1)).2 (tall_any n₀ tb hb N last ns w h)
  obtain ⟨i0, hi, hz0, hz1, hz2⟩ := ipartsX infoE
  refine callsIn_of_wp_marks Try.func7 rfl trivial ?_ rfl
  simp only [Try.ntmps7, List.size_toArray, List.length_cons, List.length_nil, Nat.reduceAdd, Nat.reduceSub, Array.replicate_succ, Array.replicate_zero, List.push_toArray, List.append_toArray, List.nil_append, List.cons_append]
  gi_wp2_with (refine ⟨trivial, fun _ => by omega, ?_⟩; refine (cG _ (h.below (below_new w _))).mono ?_; rintro e w' ⟨rfl, rfl⟩)
  have bL := (Boxed.new w 32 (.slice none 0 0)).alloc (.cells #[.pointer (some ⟨hb, 0, none⟩)] 39)
  have bI := Boxed.new (w.alloc (.cells #[.slice none 0 0] 32)) 39 (.pointer (some ⟨hb, 0, none⟩))
  have hB0 : Below w.heap.size w ((w.alloc (.cells #[.slice none 0 0] 32)).alloc (.cells #[.pointer (some ⟨hb, 0, none⟩)] 39)) := ((Below.refl _ w).alloc (Nat.le_refl _) _).alloc (by simp) _
  have hz : ((w.alloc (.cells #[.slice none 0 0] 32)).alloc (.cells #[.pointer (some ⟨hb, 0, none⟩)] 39)).heap.size = w.heap.size + 2 := by simp
  simp only [World.size_alloc] at bI
  generalize ((w.alloc (.cells #[.slice none 0 0] 32)).alloc (.cells #[.pointer (some ⟨hb, 0, none⟩)] 39)) = W0 at *
  have hT : Tp n₀ W0 tb hb N last ns := h.below hB0
  have hOwn : OwnFrom W0.heap.size (fun (pre : List Ex) W => (∃ v, Boxed W w.heap.size 32 v ∧ W.ownsRow (w.heap.size + 1 + 1) 37 6 v pre.length (exsC pre) ∧ pre.length ≤ 24) ∧ Below w.heap.size w W) :=
    OwnFrom.and (Own.from (holdsRow_own (w.heap.size + 1 + 1) w.heap.size 32 37 6 (fun pre : List Ex => pre.length) (fun pre : List Ex => exsC pre) (fun pre _ => pre.length ≤ 24)) _) (ownFrom_below (Nat.le_refl _) (by omega))
  refine wpIn_rangeFunc_ownH hro (by omega) (gf := 32) (lb := #[.pointer (some ⟨w.heap.size + 1, 0, none⟩)]) rfl trivial (enters_of Try.func32 (by kernel_rfl) rfl)
    (all_stops (n - 1) (by omega) n₀ (w.heap.size + 1) hb ns W0 bI.cell hT.l) belowK_t (belowK_b (by omega)) (Below.refl _ _) (fun _ => rfl)
    (fun (pre : List Ex) W => (∃ v, Boxed W w.heap.size 32 v ∧ W.ownsRow (w.heap.size + 1 + 1) 37 6 v pre.length (exsC pre) ∧ pre.length ≤ 24) ∧ Below w.heap.size w W)
    (fun _ _ _ => False) hOwn (fun c => Own.from (fun _ _ _ _ h _ _ => h) _)
    ⟨⟨_, bL, World.ownsRow_nil _ _ _ _, by simp⟩, hB0⟩
    (fun x a' V => ∃ D, Cl V D 37 (exCs x) ∧ a' = { tmps := #[.pointer (some ⟨tb, 0, none⟩), undef, .slice none 0 0, .pointer (some ⟨w.heap.size, 0, none⟩), .pointer (some ⟨D, 0, none⟩), .pointer (some ⟨tb, 0, none⟩), .func (.func 32) #[] #[.pointer (some ⟨w.heap.size + 1, 0, none⟩)], exV x, undef, undef, undef, undef, undef], defers := [] })
    ?hAx ?assign ?body ?done ?stop
  case hAx =>
    rintro x a' _ V V' row ⟨D, hc, he⟩ hg hr
    exact ⟨D, hc.kept hg (fun r e => (hr r e).2), he⟩
  case assign =>
    intro l' pre x V K hI hK
    simp only [exA, exV]
    gi_wp2
    exact hK _ _ (KeepsFrom.of_grownBy (World.grownBy_alloc V _ none) (by intro j e; cases e)) ((Below.refl _ V).alloc (by have := hI.2.size; omega) _) (hOwn.alloc _ hI) ⟨V.heap.size, Cl.new V _ (exCs x), rfl⟩
  case body =>
    rintro l pre x a' V hl' hrec ⟨⟨v, hv, hrow, hlen⟩, hB⟩ ⟨D, hC, rfl⟩ hlt
    obtain ⟨a0, cap0, rfl⟩ := slice_ofX hrow
    have hcv := hv.cell
    have hfv := hv.frozen
    have c0 := hC.cell 0
    have c1 := hC.cell 1
    have c2 := hC.cell 2
    have c3 := hC.cell 3
    have c4 := hC.cell 4
    have c5 := hC.cell 5
    simp only [exCs, List.getElem?_cons_zero, List.getElem?_cons_succ] at c0 c1 c2 c3 c4 c5
    have hsz1 : w.heap.size + 1 ≤ V.heap.size := hv.lt
    have hNC := new_cellsX V (exCs x) 37
    have hOC := exCs_cell x
    rw [exs_agg] at hNC
    unfold exV
    gi_wp2_with (gi_at_builtin; refine wpListIn_append_own _ rfl _ _ 32 rfl (w.heap.size + 1 + 1) 37 i0 _ 6 56 Try.underlying32 hi hz0 hz1 hz2 rfl (by decide) _ _ _ rfl (hrow.alloc _) ⟨V.heap.size, 0, none⟩ 1 1 (exCs x) rfl rfl hNC hOC (by unfold maxLen; omega) (by omega) (by simp; omega) ?_; intro v' w1 hown' hgrow _; obtain ⟨g', cap', rfl⟩ := slice_ofX hown'; have hv1' := (hv.alloc _).kept hgrow (row_blockX hrow (by omega)); have hv1c := hv1'.cell; have hv1f := hv1'.frozen)
    obtain ⟨_, hA2, _, hA4, hA5⟩ := Boxed.appended (n₀ := w.heap.size) hv (by decide) (Go.Joins.ownsRow_le hrow (by omega)) (by omega) (by omega) (Go.Joins.ownsRow_le hown' (by omega)) hgrow
    refine ⟨hA4.from _, hA5.mono hn0, ⟨_, hA2, ?_, by simp; omega⟩, hB.trans hA5⟩
    rw [List.length_append, exsC_append, exsC_one1]
    exact hown'.kept (grownBy_setCell' w1 _ _) (.inr (row_blockX hown' (by omega)).symm)
  case done =>
    rintro D ys W hD rfl ⟨⟨v, hv, hrow, _⟩, hB⟩ hK
    have hcv := hv.cell
    gi_wp2
    have hrow2 := ownsRow_putObj hrow (.deferred none) hK rfl
    refine ⟨by simp, .inl ⟨_, _, rfl, run_takeDeferred hK, ?_⟩⟩
    refine ⟨v, by simp [results, Try.f7, go_sem], v, rfl, Go.Joins.ownsRow_le hrow2 (by omega), hB.trans (belowK_b (w := w) (Nat.le_refl _) _ D _ _ (by omega) hK rfl rfl)⟩
  case stop =>
    rintro D c pre W hD hpre hf hK
    exact hf.elim
theorem list_any (n₀ tb hb N last : Nat) (ns : List Ln) (hns : ns.length ≤ 24) (w : World) (h : Tp n₀ w tb hb N last ns) (hn0 : n₀ ≤ w.heap.size) :
    Calls Try.prog 7 #[.pointer (some ⟨tb, 0, none⟩)] w fun e W' => ∃ v, e = .returned v ∧ W'.ownsRow w.heap.size 37 6 v (ns.map Prod.snd).length (exsC (ns.map Prod.snd)) ∧ Below w.heap.size w W' :=
  (callsIn_wide (n := 8)).1 (list_in 8 (by decide) n₀ tb hb N last ns hns w h hn0)
/-- The numbers of an environment's. -/
def ownL (o : Nat) (l : List Ex) : List Nat := (l.filter (fun x => decide (x.ow = o))).map Ex.id
theorem ownL_yes (o : Nat) (l : List Ex) (x : Ex) (h : x.ow = o) : ownL o (l ++ [x]) = ownL o l ++ [x.id] := by simp [ownL, h]
theorem ownL_no (o : Nat) (l : List Ex) (x : Ex) (h : x.ow ≠ o) : ownL o (l ++ [x]) = ownL o l := by simp [ownL, h]
theorem ownL_len (o : Nat) (l : List Ex) : (ownL o l).length ≤ l.length := by unfold ownL; rw [List.length_map]; exact List.length_filter_le ..
def u32V (n : Nat) : Value := .int .u32 n
set_option maxHeartbeats 2000000 in
theorem owned_in (n : Nat) (hn : 8 ≤ n) (n₀ tb hb N last : Nat) (ns : List Ln) (hns : ns.length ≤ 24) (o : Nat) (w : World) (h : Tp n₀ w tb hb N last ns) (hn0 : n₀ ≤ w.heap.size) :
    CallsIn Fence.wide n Try.prog 8 #[.pointer (some ⟨tb, 0, none⟩), .int .u8 o] w fun e W' => ∃ v, e = .returned v ∧ W'.ownsRow w.heap.size 24 1 v (ownL o (ns.map Prod.snd)).length ((ownL o (ns.map Prod.snd)).map u32V) ∧ Below w.heap.size w W' := by
  have hro : Fence.wide.round = none := rfl
  have cG := fun w h => (callsIn_wide (n := n - 1)).2 (tall_any n₀ tb hb N last ns w h)
  obtain ⟨i0, hi, hz0, hz1, hz2⟩ := ipartsX infoU
  refine callsIn_of_wp_marks Try.func8 rfl trivial ?_ rfl
  simp only [Try.ntmps8, List.size_toArray, List.length_cons, List.length_nil, Nat.reduceAdd, Nat.reduceSub, Array.replicate_succ, Array.replicate_zero, List.push_toArray, List.append_toArray, List.nil_append, List.cons_append]
  have hB1 : Below w.heap.size w ((w.alloc (.cells #[.int .u8 o] 5)).alloc (.cells #[.slice none 0 0] 30)) := ((Below.refl _ w).alloc (Nat.le_refl _) _).alloc (by simp) _
  gi_wp2_with (refine ⟨trivial, fun _ => by omega, ?_⟩; refine (cG _ (h.below hB1)).mono ?_; rintro e w' ⟨rfl, rfl⟩)
  have bO := ((Boxed.new w 5 (.int .u8 o)).alloc (.cells #[.slice none 0 0] 30)).alloc (.cells #[.pointer (some ⟨hb, 0, none⟩)] 39)
  have bL := (Boxed.new (w.alloc (.cells #[.int .u8 o] 5)) 30 (.slice none 0 0)).alloc (.cells #[.pointer (some ⟨hb, 0, none⟩)] 39)
  have bI := Boxed.new ((w.alloc (.cells #[.int .u8 o] 5)).alloc (.cells #[.slice none 0 0] 30)) 39 (.pointer (some ⟨hb, 0, none⟩))
  have hB0 : Below w.heap.size w (((w.alloc (.cells #[.int .u8 o] 5)).alloc (.cells #[.slice none 0 0] 30)).alloc (.cells #[.pointer (some ⟨hb, 0, none⟩)] 39)) := hB1.alloc hB1.size _
  have hz : (((w.alloc (.cells #[.int .u8 o] 5)).alloc (.cells #[.slice none 0 0] 30)).alloc (.cells #[.pointer (some ⟨hb, 0, none⟩)] 39)).heap.size = w.heap.size + 3 := by simp
  simp only [World.size_alloc] at bI bL
  generalize (((w.alloc (.cells #[.int .u8 o] 5)).alloc (.cells #[.slice none 0 0] 30)).alloc (.cells #[.pointer (some ⟨hb, 0, none⟩)] 39)) = W0 at *
  clear hB1
  have hT : Tp n₀ W0 tb hb N last ns := h.below hB0
  have hOwn : OwnFrom W0.heap.size (fun (pre : List Ex) W => ((∃ v, Boxed W (w.heap.size + 1) 30 v ∧ W.ownsRow (w.heap.size + 1 + 1 + 1) 24 1 v (ownL o pre).length ((ownL o pre).map u32V) ∧ pre.length ≤ 24) ∧ Boxed W w.heap.size 5 (.int .u8 o)) ∧ Below w.heap.size w W) :=
    OwnFrom.and (OwnFrom.and (Own.from (holdsRow_own (w.heap.size + 1 + 1 + 1) (w.heap.size + 1) 30 24 1 (fun pre : List Ex => (ownL o pre).length) (fun pre : List Ex => (ownL o pre).map u32V) (fun pre _ => pre.length ≤ 24)) _) (Own.from (fun s A B row hs hg hr => Cl.kept hs hg (fun r e => hr r e)) _)) (ownFrom_below (Nat.le_refl _) (by omega))
  refine wpIn_rangeFunc_ownH hro (by omega) (gf := 32) (lb := #[.pointer (some ⟨w.heap.size + 1 + 1, 0, none⟩)]) rfl trivial (enters_of Try.func32 (by kernel_rfl) rfl)
    (all_stops (n - 1) (by omega) n₀ (w.heap.size + 1 + 1) hb ns W0 bI.cell hT.l) belowK_t (belowK_b (by omega)) (Below.refl _ _) (fun _ => rfl)
    (fun (pre : List Ex) W => ((∃ v, Boxed W (w.heap.size + 1) 30 v ∧ W.ownsRow (w.heap.size + 1 + 1 + 1) 24 1 v (ownL o pre).length ((ownL o pre).map u32V) ∧ pre.length ≤ 24) ∧ Boxed W w.heap.size 5 (.int .u8 o)) ∧ Below w.heap.size w W)
    (fun _ _ _ => False) hOwn (fun c => Own.from (fun _ _ _ _ h _ _ => h) _)
    ⟨⟨⟨_, bL, World.ownsRow_nil _ _ _ _, by simp⟩, bO⟩, hB0⟩
    (fun x a' V => ∃ D, Cl V D 37 (exCs x) ∧ a' = { tmps := #[.pointer (some ⟨tb, 0, none⟩), .int .u8 o, undef, .pointer (some ⟨w.heap.size, 0, none⟩), .slice none 0 0, .pointer (some ⟨w.heap.size + 1, 0, none⟩), .pointer (some ⟨D, 0, none⟩), .pointer (some ⟨tb, 0, none⟩), .func (.func 32) #[] #[.pointer (some ⟨w.heap.size + 1 + 1, 0, none⟩)], exV x, undef, undef, undef, undef, undef, undef, undef, undef, undef, undef], defers := [] })
    ?hAx ?assign ?body ?done ?stop
  case hAx =>
    rintro x a' _ V V' row ⟨D, hc, he⟩ hg hr
    exact ⟨D, hc.kept hg (fun r e => (hr r e).2), he⟩
  case assign =>
    intro l' pre x V K hI hK
    simp only [exA, exV]
    gi_wp2
    exact hK _ _ (KeepsFrom.of_grownBy (World.grownBy_alloc V _ none) (by intro j e; cases e)) ((Below.refl _ V).alloc (by have := hI.2.size; omega) _) (hOwn.alloc _ hI) ⟨V.heap.size, Cl.new V _ (exCs x), rfl⟩
  case body =>
    rintro l pre x a' V hl' hrec ⟨⟨⟨v, hv, hrow, hlen⟩, hO⟩, hB⟩ ⟨D, hC, rfl⟩ hlt
    obtain ⟨a0, cap0, rfl⟩ := slice_ofX hrow
    have hcv := hv.cell
    have hfv := hv.frozen
    have c0 := hC.cell 0
    have c3 := hC.cell 3
    have cO := hO.cell
    simp only [exCs, List.getElem?_cons_zero, List.getElem?_cons_succ] at c0 c3
    have hsz1 : w.heap.size + 1 + 1 ≤ V.heap.size := hv.lt
    have hll := ownL_len o pre
    by_cases ho : x.ow = o
    · have ho' : (x.ow : Int) = (o : Int) := by omega
      have HX := Hid3.mk (ownL_yes o pre x ho)
      have hNC := new_cellsX V [u32V x.id] 24
      unfold u32V at hNC
      clear ho
      gi_wp2_with (gi_at_builtin; refine wpListIn_append_own _ rfl _ _ 30 rfl (w.heap.size + 1 + 1 + 1) 24 i0 _ 1 4 Try.underlying30 hi hz0 hz1 hz2 rfl (by decide) _ _ _ rfl (hrow.alloc _) ⟨V.heap.size, 0, none⟩ 1 1 [u32V x.id] rfl rfl hNC (by simp [Value.oneCell', u32V]) (by unfold maxLen; omega) (by omega) (by simp; omega) ?_; intro v' w1 hown' hgrow _; obtain ⟨g', cap', rfl⟩ := slice_ofX hown'; have hv1' := (hv.alloc _).kept hgrow (row_blockX hrow (by omega)); have hv1c := hv1'.cell; have hv1f := hv1'.frozen)
      obtain ⟨_, hA2, _, hA4, hA5⟩ := Boxed.appended (n₀ := w.heap.size) hv (by decide) (Go.Joins.ownsRow_le hrow (by omega)) (by omega) (by omega) (Go.Joins.ownsRow_le hown' (by omega)) hgrow
      have hO2 := (((hO.alloc _).kept hgrow (row_blockX hrow (by omega))).other (B' := w.heap.size + 1) (by omega) (.slice g' ((ownL o pre).length + 1) cap'))
      refine ⟨hA4.from _, hA5.mono hn0, ⟨⟨_, hA2, ?_, by simp; omega⟩, hO2⟩, hB.trans hA5⟩
      rw [HX.out, List.length_append, List.map_append]
      exact hown'.kept (grownBy_setCell' w1 _ _) (.inr (row_blockX hown' (by omega)).symm)
    · have ho' : ¬ (x.ow : Int) = (o : Int) := by omega
      have HX := Hid3.mk (ownL_no o pre x ho)
      clear ho
      gi_wp2
      refine ⟨⟨Nat.le_refl _, fun k o hk ho _ => ho⟩, Below.refl _ _, ⟨⟨_, hv, by rw [HX.out]; exact hrow, by simp; omega⟩, hO⟩, hB⟩
  case done =>
    rintro D ys W hD rfl ⟨⟨⟨v, hv, hrow, _⟩, _⟩, hB⟩ hK
    have hcv := hv.cell
    gi_wp2
    have hrow2 := ownsRow_putObj hrow (.deferred none) hK rfl
    refine ⟨by simp, .inl ⟨_, _, rfl, run_takeDeferred hK, ?_⟩⟩
    refine ⟨v, by simp [results, Try.f8, go_sem], v, rfl, Go.Joins.ownsRow_le hrow2 (by omega), hB.trans (belowK_b (w := w) (Nat.le_refl _) _ D _ _ (by omega) hK rfl rfl)⟩
  case stop =>
    rintro D c pre W hD hpre hf hK
    exact hf.elim
theorem owned_any (n₀ tb hb N last : Nat) (ns : List Ln) (hns : ns.length ≤ 24) (o : Nat) (w : World) (h : Tp n₀ w tb hb N last ns) (hn0 : n₀ ≤ w.heap.size) :
    Calls Try.prog 8 #[.pointer (some ⟨tb, 0, none⟩), .int .u8 o] w fun e W' => ∃ v, e = .returned v ∧ W'.ownsRow w.heap.size 24 1 v (ownL o (ns.map Prod.snd)).length ((ownL o (ns.map Prod.snd)).map u32V) ∧ Below w.heap.size w W' :=
  (callsIn_wide (n := 8)).1 (owned_in 8 (by decide) n₀ tb hb N last ns hns o w h hn0)
end Go.Proofs.Ytdegjmceeggldaa
