/- The program's table: Slots. -/
import Derived.Test.YtioinppclejbhaaDoorCaF
import Derived.Test.YtioinppclejbhaaDoorCaG
import Derived.Lib.SmallJoins
namespace Go.Proofs.YtioinppclejbhaaDoor
open Go.RowKit Go.Shelf Go.Maps
set_option linter.unusedVariables false
set_option maxRecDepth 100000
attribute [local go_sem] Oper.semAt_some
def slV (k : Fin 12) : Array Value := #[.int .i64 k.1]
def slI (k : Fin 12) : Value := .int .i64 k.1
theorem infoI : (Tryd.prog.info? 3).map (fun i => (i.zero, i.size, i.bytes)) = some (some (.int .i64 0), 1, 8) := by kernel_rfl
theorem those_in (n : Nat) (p : Option Addr) (g : Fn) (r c : Array Value) (w : World) :
    CallsIn Fence.wide n Tryd.prog 38 #[.pointer p, .func g r c] w fun e w' => e = .returned (.func (.func 60) #[] #[.pointer (some ⟨w.heap.size, 0, none⟩), .pointer (some ⟨w.heap.size + 1, 0, none⟩)]) ∧ w' = (w.alloc (.cells #[.pointer p] 23)).alloc (.cells #[.func g r c] 36) := by
  refine callsIn_of_wp Tryd.func38 rfl trivial ?_ rfl
  simp only [Tryd.ntmps38, List.size_toArray, List.length_cons, List.length_nil, Nat.reduceAdd, Nat.reduceSub, Array.replicate_succ, Array.replicate_zero, List.push_toArray, List.append_toArray, List.nil_append, List.cons_append]
  gi_wp2
  go_ret
  exact ⟨rfl, rfl⟩
theorem KB.of {bf bx : Nat} {A B : World} (h : Below A.heap.size A B) : KB bf bx A B := (show KB bf bx A A from ⟨Nat.le_refl _, fun _ _ _ h => h⟩).below h
theorem KB.trans {bf bx : Nat} {A B C : World} (h : KB bf bx A B) (k : KB bf bx B C) : KB bf bx A C := ⟨Nat.le_trans h.1 k.1, fun a v hx hv => k.2 a v hx (h.2 a v hx hv)⟩
theorem th_stops (n : Nat) (hn : 1 ≤ n) (B bv bf bx b : Nat) (F : FuncId) (cs : Array Value) (hF : ∀ args w, (callFunc F args).run Tryd.prog w = .ok (.enter F args) w) (s : Sl) (q : Fin 12 → Bool) (w : World)
    (hv : w.cell? ⟨bv, 0, none⟩ = some (.pointer (some ⟨b, 0, none⟩))) (hf : w.cell? ⟨bf, 0, none⟩ = some (.func (.func F) #[] cs)) (ht : Tb 71 B w b s)
    (hA : ∀ (k : Fin 12) W', KB bf bx w W' → CallsIn Fence.wide (n - 1) Tryd.prog F (#[.agg #[.string (slF s k).1, .int .u8 (slF s k).2.toNat]] ++ cs) W' fun e W'' => e = .returned (.bool (q k)) ∧ Below W'.heap.size W' W'') :
    SeqStopsK Fence.wide n Tryd.prog 60 #[.pointer (some ⟨bv, 0, none⟩), .pointer (some ⟨bf, 0, none⟩)] slV (KpC (XB bf bx)) (fun ys => ys = thL q 12) (fun pre => pre <+: thL q 12) 12 w := fun l J Jx W hW hJ hJx hY h0 =>
  those1_in n hn l B bv bf bx b F cs hF s q J Jx W hJ hJx hY ((hW.cell (p := ⟨bv, 0, none⟩) (World.block_lt_of_cell? w _ hv)).trans hv) ((hW.cell (p := ⟨bf, 0, none⟩) (World.block_lt_of_cell? w _ hf)).trans hf) (ht.below hW) (fun k W' hk => hA k W' ((KB.of hW).trans hk)) h0
theorem kpB_of {bf : Nat} {W W' : World} {tf : TypeId} {xf : Value} (hk : KeepsWalks W W') (b3 : Boxed W bf tf xf) (b4 : Boxed W' bf tf xf) : KpC (XB bf bf) W W' := by
  refine ⟨hk, fun a v hx h => ?_⟩
  have h3 : W.heap[bf]? = some (.cells #[xf] tf (0, 0)) := b3
  rcases hx with rfl | rfl | rfl
  · rw [b3.cell] at h; cases h; exact b4.cell
  · rw [b3.cell] at h; cases h; exact b4.cell
  · rw [Lib.cell_of_heap h3] at h; simp at h
theorem hFslots : ∀ args w, (callFunc 39 args).run Tryd.prog w = .ok (.enter 39 args) w := enters_fn Tryd.func39 (by kernel_rfl) rfl
/-- The slots with one. -/
def slotsL (s : Sl) : List (Fin 12) := thL (fun k => (s k).isSome) 12
set_option maxHeartbeats 1000000 in
theorem slots_in (B b : Nat) (s : Sl) (w : World) (h : Tb 71 B w b s) (n : Nat) (hn : 5 ≤ n) :
    CallsIn Fence.wide n Tryd.prog 16 #[.pointer (some ⟨b, 0, none⟩)] w fun e W' => ∃ v, e = .returned v ∧ W'.ownsRow w.heap.size 3 1 v (slotsL s).length ((slotsL s).map slI) ∧ Below w.heap.size w W' := by
  have hw1 : 1 ≤ n := by omega
  have hro : Fence.wide.round = none := rfl
  obtain ⟨i0, hi, hz0, hz1, hz2⟩ := info_parts infoI
  refine callsIn_of_wp_marks Tryd.func16 rfl trivial ?_ rfl
  simp only [Tryd.ntmps16, List.size_toArray, List.length_cons, List.length_nil, Nat.reduceAdd, Nat.reduceSub, Array.replicate_succ, Array.replicate_zero, List.push_toArray, List.append_toArray, List.nil_append, List.cons_append]
  gi_wp2_with (refine ⟨trivial, ?_⟩; gi_at_call 38; refine (those_in (n - 1) _ _ _ _ _).mono ?_; rintro e w' ⟨rfl, rfl⟩)
  have bL := Boxed.new w 40 (.slice none 0 0)
  have bV := Boxed.new (w.alloc (.cells #[.slice none 0 0] 40)) 23 (.pointer (some ⟨b, 0, none⟩))
  have bF := Boxed.new ((w.alloc (.cells #[.slice none 0 0] 40)).alloc (.cells #[.pointer (some ⟨b, 0, none⟩)] 23)) 36 (.func (.func 39) #[] #[])
  simp only [World.size_alloc] at bL bV bF
  have hB0 : Below w.heap.size w (((w.alloc (.cells #[.slice none 0 0] 40)).alloc (.cells #[.pointer (some ⟨b, 0, none⟩)] 23)).alloc (.cells #[.func (.func 39) #[] #[]] 36)) := (((Below.refl _ w).alloc (Nat.le_refl _) _).alloc (by simp) _).alloc (by simp; omega) _
  have bL0 := (bL.alloc (.cells #[.pointer (some ⟨b, 0, none⟩)] 23)).alloc (.cells #[.func (.func 39) #[] #[]] 36)
  have bV0 := bV.alloc (.cells #[.func (.func 39) #[] #[]] 36)
  have hsz : (((w.alloc (.cells #[.slice none 0 0] 40)).alloc (.cells #[.pointer (some ⟨b, 0, none⟩)] 23)).alloc (.cells #[.func (.func 39) #[] #[]] 36)).heap.size = w.heap.size + 1 + 1 + 1 := by simp
  clear bL bV
  generalize (((w.alloc (.cells #[.slice none 0 0] 40)).alloc (.cells #[.pointer (some ⟨b, 0, none⟩)] 23)).alloc (.cells #[.func (.func 39) #[] #[]] 36)) = W0 at *
  have h0 := h.below hB0
  clear h
  refine wpIn_rangeFunc_ownG hro hw1 (gf := 60) (lb := #[.pointer (some ⟨w.heap.size + 1, 0, none⟩), .pointer (some ⟨w.heap.size + 1 + 1, 0, none⟩)]) rfl trivial (enters_of Tryd.func60 (by kernel_rfl) rfl)
    (th_stops (n - 1) (by omega) B (w.heap.size + 1) (w.heap.size + 1 + 1) (w.heap.size + 1 + 1) b _ #[] hFslots s (fun k => (s k).isSome) W0 bV0.cell bF.cell h0 (fun k W' _ => by rw [Array.append_empty]; exact callsIn_wide.2 (slots1_any (s k) W'))) kpC_t kpC_b (Below.refl _ _) (fun _ => rfl)
    (fun pre W => ((∃ v, Boxed W w.heap.size 40 v ∧ W.ownsRow (w.heap.size + 1 + 1 + 1) 3 1 v pre.length (pre.map slI) ∧ pre.length ≤ 12) ∧ Boxed W (w.heap.size + 1 + 1) 36 (.func (.func 39) #[] #[])) ∧ Below w.heap.size w W)
    (fun _ _ _ => False)
    (OwnFrom.and (OwnFrom.and (Own.from (holdsRow_own (w.heap.size + 1 + 1 + 1) w.heap.size 40 3 1 (fun pre : List (Fin 12) => pre.length) (fun pre : List (Fin 12) => pre.map slI) (fun pre _ => pre.length ≤ 12)) _) (Own.from (fun s A B row hs hg hr => box_kept hs hg hr) _)) (ownFrom_below (Nat.le_refl _) (by omega)))
    (fun c => Own.from (fun _ _ _ _ h _ _ => h) _)
    ⟨⟨⟨_, bL0, World.ownsRow_nil _ _ _ _, by simp⟩, bF⟩, hB0⟩
    (fun x => { tmps := #[.pointer (some ⟨b, 0, none⟩), undef, .slice none 0 0, .pointer (some ⟨w.heap.size, 0, none⟩), .int .i64 x.1, .pointer (some ⟨b, 0, none⟩), .func (.func 60) #[] #[.pointer (some ⟨w.heap.size + 1, 0, none⟩), .pointer (some ⟨w.heap.size + 1 + 1, 0, none⟩)], .int .i64 x.1, undef, undef, undef, undef, undef], defers := [] }) ?assign ?body ?done ?stop
  case assign =>
    intro l x W K hK
    simp only [slV]
    gi_wp2
    exact hK
  case body =>
    rintro l pre x W ⟨⟨⟨v, hv, hrow, hlen⟩, hF⟩, hB⟩ hlt
    obtain ⟨a0, cap0, hvf⟩ : ∃ a cap, v = .slice a pre.length cap := by
      rcases hrow.2 with ⟨hv0, hk0⟩ | ⟨g, cap, cur, hv0, _⟩
      · exact ⟨none, 0, by rw [hk0]; exact hv0⟩
      · exact ⟨_, _, hv0⟩
    subst hvf
    have hcv := hv.cell
    have hfv := hv.frozen
    have hsz1 : w.heap.size + 1 + 1 + 1 ≤ W.heap.size := hF.lt
    obtain ⟨xi, hxi⟩ := x
    gi_wp2_with (gi_at_builtin; refine wpListIn_append_own _ rfl _ _ 40 rfl (w.heap.size + 1 + 1 + 1) 3 i0 (.int .i64 0) 1 8 Tryd.underlying40 hi hz0 hz1 hz2 rfl (by decide) _ _ _ rfl (hrow.alloc _) ⟨W.heap.size, 0, none⟩ 1 1 [slI ⟨xi, hxi⟩] rfl rfl (cell_one_new _ _ _) (by simp [Value.oneCell', slI]) (by unfold maxLen; omega) (by omega) (by simp; omega) ?_; intro v' w1 hown' hgrow _; obtain ⟨g', cap', rfl⟩ := ownsRow_succ hown'; have hv1' := (hv.alloc _).kept hgrow (row_block hrow (by omega)); have hv1c := hv1'.cell; have hv1f := hv1'.frozen)
    obtain ⟨_, hA2, _, hA4, hA5⟩ := Boxed.appended (n₀ := w.heap.size) hv (by decide) (Go.Joins.ownsRow_le hrow (by omega)) (by omega) (by omega) (Go.Joins.ownsRow_le hown' (by omega)) hgrow
    have hrn : ∀ B, B < w.heap.size + 1 + 1 + 1 → some B ≠ (Value.slice a0 pre.length cap0).ownBlock := fun B hb => row_block hrow hb
    have hF2 := (((hF.alloc _).kept hgrow (hrn _ (by omega))).other (B' := w.heap.size) (by omega) (.slice (some ⟨g', 0, none⟩) (pre.length + 1) cap'))
    refine ⟨hA4.from _, kpB_of hA4.walks hF hF2, ⟨⟨_, hA2, ?_, by simp; omega⟩, hF2⟩, hB.trans hA5⟩
    rw [List.length_append, List.map_append]
    exact hown'.kept (grownBy_setCell' w1 _ _) (.inr (row_block hown' (by omega)).symm)
  case done =>
    rintro D ys W hD rfl ⟨⟨⟨v, hv, hrow, _⟩, hF⟩, hB⟩ hK
    have hcv := hv.cell
    gi_wp2
    have hrow2 := ownsRow_putObj hrow (.deferred none) hK rfl
    refine ⟨by simp, .inl ⟨_, _, rfl, run_takeDeferred hK, ?_⟩⟩
    refine ⟨v, by simp [results, Tryd.f16, go_sem], v, rfl, Go.Joins.ownsRow_le hrow2 (by omega), hB.trans (belowK_b (w := w) (Nat.le_refl _) _ D _ _ (by omega) hK rfl rfl)⟩
  case stop =>
    rintro D c pre W hD hpre hf hK
    exact hf.elim
theorem slots_any (B b : Nat) (s : Sl) (w : World) (h : Tb 71 B w b s) :
    Calls Tryd.prog 16 #[.pointer (some ⟨b, 0, none⟩)] w fun e W' => ∃ v, e = .returned v ∧ W'.ownsRow w.heap.size 3 1 v (slotsL s).length ((slotsL s).map slI) ∧ Below w.heap.size w W' :=
  (callsIn_wide (n := 5)).1 (slots_in B b s w h 5 (by omega))
end Go.Proofs.YtioinppclejbhaaDoor
