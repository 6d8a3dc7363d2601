/- The set's list, of none. -/
import Derived.Test.YtbhfdnhdnnbicaaDoorPlL
namespace Go.Proofs.YtbhfdnhdnnbicaaDoor
open Go.RowKit Go.Shelf Go.Maps
set_option linter.unusedVariables false
set_option maxRecDepth 100000
attribute [local go_sem] Oper.semAt_some
set_option maxHeartbeats 2000000 in
theorem list_none_in (w : World) (n : Nat) (hn : 5 ≤ n) : CallsIn Fence.wide n Tryd.prog 29 #[.int .u64 0] w fun r w' => (∃ a cap, r = .returned (.slice a 0 cap)) ∧ Below w.heap.size w w' := by
  have hw1 : 1 ≤ n := by omega
  have hro : Fence.wide.round = none := rfl
  have cS := fun W => (callsIn_wide (n := n - 1)).2 (size_any 0 (by omega) W)
  change ∀ W, CallsIn _ _ _ _ #[.int .u64 0] W _ at cS
  refine callsIn_of_wp_marks Tryd.func29 rfl trivial ?_ rfl
  simp only [Tryd.ntmps29, List.size_toArray, List.length_cons, List.length_nil, Nat.reduceAdd, Nat.reduceSub, Array.replicate_succ, Array.replicate_zero, List.push_toArray, List.append_toArray, List.nil_append, List.cons_append]
  gi_wp2_with (first
    | (refine ⟨trivial, ?_⟩; gi_at_call 23; refine (cS _).mono ?_; rintro e w' ⟨rfl, rfl⟩)
    | (refine wpListIn_mk0 rfl _ _ rfl 0 (by omega) rfl rfl ?_; intro w1 hrow hB1 hs1; have HR := Hid3.mk (And.intro hB1 hs1); clear hrow hB1 hs1)
    | (refine ⟨trivial, ?_⟩; gi_at_call 40; refine (all_in (n - 1) _ _).mono ?_; rintro e w' ⟨rfl, rfl⟩))
  have bL0 := Boxed.new w1 36 (.slice (some ⟨w'.heap.size, 0, none⟩) 0 0)
  have bS := Boxed.new (w1.alloc (.cells #[.slice (some ⟨w'.heap.size, 0, none⟩) 0 0] 36)) 51 (.int .u64 0)
  simp only [World.size_alloc] at bS
  have bL := bL0.alloc (.cells #[.int .u64 0] 51)
  have hBB : Below w'.heap.size w' ((w1.alloc (.cells #[.slice (some ⟨w'.heap.size, 0, none⟩) 0 0] 36)).alloc (.cells #[.int .u64 0] 51)) := (HR.out.1.alloc (by have := HR.out.2; omega) _).alloc (by have := HR.out.2; simp; omega) _
  have hsz : w'.heap.size < w1.heap.size := by have := HR.out.2; omega
  have hsz2 : w1.heap.size + 1 < ((w1.alloc (.cells #[.slice (some ⟨w'.heap.size, 0, none⟩) 0 0] 36)).alloc (.cells #[.int .u64 0] 51)).heap.size := by simp
  clear bL0 cS HR
  generalize ((w1.alloc (.cells #[.slice (some ⟨w'.heap.size, 0, none⟩) 0 0] 36)).alloc (.cells #[.int .u64 0] 51)) = W0 at *
  generalize w1.heap.size = lb at *
  have hseq : SeqStopsK Fence.wide (n - 1) Tryd.prog 44 #[.pointer (some ⟨lb + 1, 0, none⟩)] (fun x : Nat => #[.int .u8 x]) KeepsWalks (fun ys => ys = []) (fun _ => False) 0 W0 := fun l J Jx W hW hJ hJx hY h0 =>
    (all1_none (n - 1) l (lb + 1) J W h0 ((hW.cell (p := ⟨lb + 1, 0, none⟩) hsz2).trans bS.cell)).mono (fun e W' h => ⟨h.1, .inl ⟨[], rfl, h.2⟩⟩)
  refine wpIn_rangeFunc_ownG hro hw1 (gf := 44) (lb := #[.pointer (some ⟨lb + 1, 0, none⟩)]) rfl trivial (enters_of Tryd.func44 (by kernel_rfl) rfl)
    hseq walksK_t walksK_b (Below.refl _ _) (fun _ => rfl)
    (fun pre W => Boxed W lb 36 (.slice (some ⟨w'.heap.size, 0, none⟩) 0 0) ∧ Below w'.heap.size w' W)
    (fun _ _ _ => False)
    (OwnFrom.and (Own.from (fun s A B row hs hg hr => box_kept hs hg hr) _) (ownFrom_below (Nat.le_refl _) (by omega)))
    (fun c => Own.from (fun _ _ _ _ h _ _ => h) _)
    ⟨bL, hBB⟩
    (fun x => { tmps := #[.int .u64 0, undef, .slice none 0 0, .pointer (some ⟨lb, 0, none⟩), .int .u8 x, .int .u64 0, .int .i64 ↑(pop9 0), .slice (some ⟨w'.heap.size, 0, none⟩) 0 0, .int .u64 0, .func (.func 44) #[] #[.pointer (some ⟨lb + 1, 0, none⟩)], .int .u8 x, undef, undef, undef, undef, undef], defers := [] }) ?assign ?body ?done ?stop
  case assign =>
    intro l x W K hK
    gi_wp2
    exact hK
  case body =>
    intro l pre x W _ hlt
    exact absurd hlt (Nat.not_lt_zero _)
  case done =>
    rintro D ys W hD rfl ⟨hv, hB⟩ hK
    have hcv := hv.cell
    gi_wp2
    refine ⟨by simp, .inl ⟨_, _, rfl, run_takeDeferred hK, ?_⟩⟩
    refine ⟨.slice (some ⟨w'.heap.size, 0, none⟩) 0 0, by simp [results, Tryd.f29, go_sem], ⟨_, _, rfl⟩, hB.trans (belowK_b (w := w') (Nat.le_refl _) _ D _ _ (by omega) hK rfl rfl)⟩
  case stop =>
    rintro D c pre W hD hpre hf hK
    exact hf.elim
theorem list_none (w : World) : Calls Tryd.prog 29 #[.int .u64 0] w fun r w' => (∃ a cap, r = .returned (.slice a 0 cap)) ∧ Below w.heap.size w w' := (callsIn_wide (n := 5)).1 (list_none_in w 5 (by omega))
end Go.Proofs.YtbhfdnhdnnbicaaDoor
