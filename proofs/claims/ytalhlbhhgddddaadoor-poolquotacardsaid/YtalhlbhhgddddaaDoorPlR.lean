/- A set's list. -/
import Derived.Test.YtalhlbhhgddddaaDoorPlQ
namespace Go.Proofs.YtalhlbhhgddddaaDoor
open Go.RowKit Go.Shelf Go.Maps
set_option linter.unusedVariables false
set_option maxRecDepth 100000
attribute [local go_sem] Oper.semAt_some
def u8V (x : Nat) : Value := .int .u8 x
theorem kpT_t {A B C : World} (h : KpT A B) (k : KpT B C) : KpT A C := ⟨h.1.trans k.1, fun t => k.2 (h.2 t)⟩
theorem kpT_b {w : World} (W : World) (l : Nat) (o o' : Obj) (hl : w.heap.size ≤ l) (h : W.heap[l]? = some o) (h1 : o.isCells = false) (h2 : o.isWalk = false) : KpT W (W.putObj l o') :=
  ⟨walksK_b (w := w) W l o o' hl h h1 h2, fun t j hj => cell_kept (t j hj) (grownBy_putObj' W l o') (fun r e => by cases e; exact ⟨_, h, h1⟩)⟩
set_option maxHeartbeats 2000000 in
theorem list_in (s : Nat) (hs : s < 512) (w : World) (hT : TzTab w) (n : Nat) (hn : 5 ≤ n) : CallsIn Fence.wide n Tryd.prog 43 #[.int .u64 s] w fun r w' => ∃ v, r = .returned v ∧ w'.ownsRow w.heap.size 5 1 v (bitsL s).length ((bitsL s).map u8V) ∧ Below w.heap.size w w' := by
  have hw1 : 1 ≤ n := by omega
  have hro : Fence.wide.round = none := rfl
  obtain ⟨i0, hi, hz0, hz1, hz2⟩ := info_parts info8b
  have HT := Hid3.mk hT
  have hp9 : pop9 s ≤ 9 := by rw [← bitsL_len s hs]; exact Nat.le_trans (List.length_filter_le _ _) (by simp)
  have cS := fun W => (callsIn_wide (n := n - 1)).2 (size_any s hs W)
  clear hT
  refine callsIn_of_wp_marks Tryd.func43 rfl trivial ?_ rfl
  simp only [Tryd.ntmps43, List.size_toArray, List.length_cons, List.length_nil, Nat.reduceAdd, Nat.reduceSub, Array.replicate_succ, Array.replicate_zero, List.push_toArray, List.append_toArray, List.nil_append, List.cons_append]
  gi_wp2_with (first
    | (refine ⟨trivial, ?_⟩; gi_at_call 50; refine (cS _).mono ?_; rintro e w' ⟨rfl, rfl⟩)
    | (refine wpListIn_mk0 rfl _ _ rfl (pop9 s) (by omega) rfl rfl ?_; intro w1 hrow hB1 hs1; have HR := Hid3.mk (And.intro hrow (And.intro hB1 hs1)); clear hrow hB1 hs1)
    | (refine ⟨trivial, ?_⟩; gi_at_call 62; refine (all_in (n - 1) _ _).mono ?_; rintro e w' ⟨rfl, rfl⟩))
  have bL0 := Boxed.new w1 38 (.slice (some ⟨w'.heap.size, 0, none⟩) 0 (pop9 s))
  have bS := Boxed.new (w1.alloc (.cells #[.slice (some ⟨w'.heap.size, 0, none⟩) 0 (pop9 s)] 38)) 72 (.int .u64 s)
  simp only [World.size_alloc] at bS
  have bL := bL0.alloc (.cells #[.int .u64 s] 72)
  have hrow0 := (HR.out.1.alloc (.cells #[.slice (some ⟨w'.heap.size, 0, none⟩) 0 (pop9 s)] 38)).alloc (.cells #[.int .u64 s] 72)
  have hBB : Below w'.heap.size w' ((w1.alloc (.cells #[.slice (some ⟨w'.heap.size, 0, none⟩) 0 (pop9 s)] 38)).alloc (.cells #[.int .u64 s] 72)) := (HR.out.2.1.alloc (by have := HR.out.2.2; omega) _).alloc (by have := HR.out.2.2; simp; omega) _
  have hsz : w'.heap.size < w1.heap.size := by have := HR.out.2.2; omega
  have hsz2 : w1.heap.size + 1 < ((w1.alloc (.cells #[.slice (some ⟨w'.heap.size, 0, none⟩) 0 (pop9 s)] 38)).alloc (.cells #[.int .u64 s] 72)).heap.size := by simp
  clear bL0 cS HR
  generalize ((w1.alloc (.cells #[.slice (some ⟨w'.heap.size, 0, none⟩) 0 (pop9 s)] 38)).alloc (.cells #[.int .u64 s] 72)) = W0 at *
  generalize w1.heap.size = lb at *
  have hseq : SeqStopsK Fence.wide (n - 1) Tryd.prog 69 #[.pointer (some ⟨lb + 1, 0, none⟩)] u8A KpT (fun ys => ys = bitsL s) (fun pre => pre <+: bitsL s) 9 W0 := fun l J Jx W hW hJ hJx hY h0 =>
    all1_in (n - 1) (by omega) l (lb + 1) s hs J Jx W hY ((hW.cell (p := ⟨lb + 1, 0, none⟩) hsz2).trans bS.cell) ((HT.out.low hBB).low hW) h0
  refine wpIn_rangeFunc_ownG hro hw1 (gf := 69) (lb := #[.pointer (some ⟨lb + 1, 0, none⟩)]) rfl trivial (enters_of Tryd.func69 (by kernel_rfl) rfl)
    hseq kpT_t kpT_b (Below.refl _ _) (fun _ => rfl)
    (fun pre W => (∃ v, Boxed W lb 38 v ∧ W.ownsRow w'.heap.size 5 1 v pre.length (pre.map u8V) ∧ pre.length ≤ 9) ∧ Below w'.heap.size w' W)
    (fun _ _ _ => False)
    (OwnFrom.and (Own.from (holdsRow_own w'.heap.size lb 38 5 1 (fun pre : List Nat => pre.length) (fun pre : List Nat => pre.map u8V) (fun pre _ => pre.length ≤ 9)) _) (ownFrom_below (Nat.le_refl _) (by omega)))
    (fun c => Own.from (fun _ _ _ _ h _ _ => h) _)
    ⟨⟨_, bL, hrow0, by simp⟩, hBB⟩
    (fun x => { tmps := #[.int .u64 s, undef, .slice none 0 0, .pointer (some ⟨lb, 0, none⟩), .int .u8 x, .int .u64 s, .int .i64 ↑(pop9 s), .slice (some ⟨w'.heap.size, 0, none⟩) 0 (pop9 s), .int .u64 s, .func (.func 69) #[] #[.pointer (some ⟨lb + 1, 0, none⟩)], .int .u8 x, undef, undef, undef, undef, undef], defers := [] }) ?assign ?body ?done ?stop
  case assign =>
    intro l x W K hK
    simp only [u8A]
    gi_wp2
    exact hK
  case body =>
    rintro l pre x W ⟨⟨v, hv, hrow, hlen⟩, hB⟩ hlt
    obtain ⟨a0, cap0, hvf⟩ : ∃ a cap, v = .slice a pre.length cap := by
      rcases hrow.2 with ⟨hv0, hk0⟩ | ⟨g, cap, cur, hv0, _⟩
      · exact ⟨none, 0, by rw [hk0]; exact hv0⟩
      · exact ⟨_, _, hv0⟩
    subst hvf
    have hcv := hv.cell
    have hfv := hv.frozen
    have hlb : lb < W.heap.size := hv.lt
    have hnb : some lb ≠ (Value.slice a0 pre.length cap0).ownBlock := fun e => own_ne hrow (show W.heap[lb]? = some (.cells _ _ (0, 0)) from hv) (by decide) e.symm
    gi_wp2_with (gi_at_builtin; refine wpListIn_append_own _ rfl _ _ 38 rfl w'.heap.size 5 i0 (.int .u8 0) 1 1 Tryd.underlying38 hi hz0 hz1 hz2 rfl (by decide) _ _ _ rfl (hrow.alloc _) ⟨W.heap.size, 0, none⟩ 1 1 [u8V x] rfl rfl (cell_one_new _ _ _) (by simp [Value.oneCell', u8V]) (by unfold maxLen; omega) (by omega) (by simp; omega) ?_; intro v' w2 hown' hgrow _; obtain ⟨g', cap', rfl⟩ := ownsRow_succ hown'; have hv1' := (hv.alloc _).kept hgrow hnb; have hv1c := hv1'.cell; have hv1f := hv1'.frozen)
    obtain ⟨_, hA2, _, hA4, hA5⟩ := Boxed.appended (n₀ := w'.heap.size) hv (by decide) hrow (by omega) (by omega) hown' hgrow
    refine ⟨hA4.from _, ⟨hA4.walks, fun _ => HT.out.low (hB.trans hA5)⟩, ⟨_, hA2, ?_, by simp; omega⟩, hB.trans hA5⟩
    rw [List.length_append, List.map_append]
    exact hown'.kept (grownBy_setCell' w2 _ _) (.inr (own_ne hown' (show w2.heap[lb]? = some (.cells _ _ (0, 0)) from hv1') (by decide)))
  case done =>
    rintro D ys W hD rfl ⟨⟨v, hv, hrow, _⟩, hB⟩ hK
    have hcv := hv.cell
    gi_wp2
    have hrow2 := ownsRow_putObj hrow (.deferred none) hK rfl
    refine ⟨by simp, .inl ⟨_, _, rfl, run_takeDeferred hK, ?_⟩⟩
    refine ⟨v, by simp [results, Tryd.f43, go_sem], v, rfl, hrow2, hB.trans (belowK_b (w := w') (Nat.le_refl _) _ D _ _ (by omega) hK rfl rfl)⟩
  case stop =>
    rintro D c pre W hD hpre hf hK
    exact hf.elim
theorem list_any (s : Nat) (hs : s < 512) (w : World) (hT : TzTab w) : Calls Tryd.prog 43 #[.int .u64 s] w fun r w' => ∃ v, r = .returned v ∧ w'.ownsRow w.heap.size 5 1 v (bitsL s).length ((bitsL s).map u8V) ∧ Below w.heap.size w w' := (callsIn_wide (n := 5)).1 (list_in s hs w hT 5 (by omega))
end Go.Proofs.YtalhlbhhgddddaaDoor
