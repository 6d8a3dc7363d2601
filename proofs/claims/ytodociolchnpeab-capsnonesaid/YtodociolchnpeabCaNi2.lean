/- The program's calls of none that go over slots. -/
import Derived.Test.YtodociolchnpeabCaNil
import Derived.BigRegionIn
import Derived.Sort.QuietIn
namespace Go.Proofs.Ytodociolchnpeab
open Go.RowKit Go.Shelf Go.Maps
set_option linter.unusedVariables false
set_option maxRecDepth 100000
attribute [local go_sem] Oper.semAt_some
def slV (k : Fin 12) : Array Value := #[.int .i64 k.1]
theorem those_in (n : Nat) (p : Option Addr) (g : Fn) (r c : Array Value) (w : World) :
    CallsIn Fence.wide n Try.prog 29 #[.pointer p, .func g r c] w fun e w' => e = .returned (.func (.func 36) #[] #[.pointer (some ⟨w.heap.size, 0, none⟩), .pointer (some ⟨w.heap.size + 1, 0, none⟩)]) ∧ w' = (w.alloc (.cells #[.pointer p] 26)).alloc (.cells #[.func g r c] 41) := by
  refine callsIn_of_wp Try.func29 rfl trivial ?_ rfl
  simp only [Try.ntmps29, List.size_toArray, List.length_cons, List.length_nil, Nat.reduceAdd, Nat.reduceSub, Array.replicate_succ, Array.replicate_zero, List.push_toArray, List.append_toArray, List.nil_append, List.cons_append]
  gi_wp2
  go_ret
  exact ⟨rfl, rfl⟩
theorem thosen1_in (n : Nat) (l bv bf : Nat) (J Jx : List (Fin 12) → World → Prop) (W : World) (hc : W.cell? ⟨bv, 0, none⟩ = some (.pointer none)) (h0 : J [] W) :
    CallsIn Fence.wide n Try.prog 36 #[.func (.yield l) #[] #[], .pointer (some ⟨bv, 0, none⟩), .pointer (some ⟨bf, 0, none⟩)] W fun e W' => (∃ v, e = .returned v) ∧
      ((∃ ys, ys = [] ∧ J ys W') ∨ (∃ pre, False ∧ Jx pre W')) := by
  refine callsIn_of_wp Try.func36 rfl trivial ?_ rfl
  simp only [Try.ntmps36, List.size_toArray, List.length_cons, List.length_nil, Nat.reduceAdd, Nat.reduceSub, Array.replicate_succ, Array.replicate_zero, List.push_toArray, List.append_toArray, List.nil_append, List.cons_append]
  gi_wp2
  refine bodyPost_ret (results_none rfl _ _ _) rfl ?_
  exact ⟨⟨_, rfl⟩, .inl ⟨[], rfl, h0⟩⟩
theorem thosen_stops (n : Nat) (bv bf : Nat) (w : World) (hb : bv < w.heap.size) (hc : w.cell? ⟨bv, 0, none⟩ = some (.pointer none)) :
    SeqStopsK Fence.wide n Try.prog 36 #[.pointer (some ⟨bv, 0, none⟩), .pointer (some ⟨bf, 0, none⟩)] slV (fun _ _ => True) (fun ys => ys = []) (fun pre => False) 0 w := fun l J Jx W hW hJ hJx hY h0 =>
  thosen1_in n l bv bf J Jx W ((hW.cell (p := ⟨bv, 0, none⟩) hb).trans hc) h0
set_option maxHeartbeats 1000000 in
theorem slotsn_in (w : World) (n : Nat) (hn : 5 ≤ n) :
    CallsIn Fence.wide n Try.prog 13 #[.pointer none] w fun e W' => e = .returned (.slice none 0 0) ∧ Below w.heap.size w W' := by
  have hw1 : 1 ≤ n := by omega
  have hro : Fence.wide.round = none := rfl
  refine callsIn_of_wp_marks Try.func13 rfl trivial ?_ rfl
  simp only [Try.ntmps13, List.size_toArray, List.length_cons, List.length_nil, Nat.reduceAdd, Nat.reduceSub, Array.replicate_succ, Array.replicate_zero, List.push_toArray, List.append_toArray, List.nil_append, List.cons_append]
  gi_wp2_with (refine ⟨trivial, ?_⟩; gi_at_call 29; refine (those_in (n - 1) _ _ _ _ _).mono ?_; rintro e w' ⟨rfl, rfl⟩)
  have bL := Boxed.new w 38 (.slice none 0 0)
  have bV := Boxed.new (w.alloc (.cells #[.slice none 0 0] 38)) 26 (.pointer none)
  simp only [World.size_alloc] at bL bV
  have hB0 : Below w.heap.size w (((w.alloc (.cells #[.slice none 0 0] 38)).alloc (.cells #[.pointer none] 26)).alloc (.cells #[.func (.func 32) #[] #[]] 41)) := (((Below.refl _ w).alloc (Nat.le_refl _) _).alloc (by simp) _).alloc (by simp; omega) _
  have bL0 := (bL.alloc (.cells #[.pointer none] 26)).alloc (.cells #[.func (.func 32) #[] #[]] 41)
  have bV0 := bV.alloc (.cells #[.func (.func 32) #[] #[]] 41)
  have hsz : (((w.alloc (.cells #[.slice none 0 0] 38)).alloc (.cells #[.pointer none] 26)).alloc (.cells #[.func (.func 32) #[] #[]] 41)).heap.size = w.heap.size + 1 + 1 + 1 := by simp
  clear bL bV
  generalize (((w.alloc (.cells #[.slice none 0 0] 38)).alloc (.cells #[.pointer none] 26)).alloc (.cells #[.func (.func 32) #[] #[]] 41)) = W0 at *
  refine wpIn_rangeFunc_ownG hro hw1 (gf := 36) (lb := #[.pointer (some ⟨w.heap.size + 1, 0, none⟩), .pointer (some ⟨w.heap.size + 1 + 1, 0, none⟩)]) rfl trivial (enters_of Try.func36 (by kernel_rfl) rfl)
    (thosen_stops (n - 1) (w.heap.size + 1) (w.heap.size + 1 + 1) W0 bV0.lt bV0.cell) (fun _ _ => trivial) (fun _ _ _ _ _ _ _ _ => trivial) (Below.refl _ _) (fun _ => rfl)
    (fun pre W => Boxed W w.heap.size 38 (.slice none 0 0) ∧ Below w.heap.size w W)
    (fun _ _ _ => True)
    (OwnFrom.and (Own.from (fun s A B row hs hg hr => box_kept hs hg hr) _) (ownFrom_below (Nat.le_refl _) (by omega)))
    (fun c => Own.from (fun _ _ _ _ h _ _ => h) _)
    ⟨bL0, hB0⟩
    (fun x => { tmps := #[.pointer none, undef, .slice none 0 0, .pointer (some ⟨w.heap.size, 0, none⟩), .int .i64 x.1, .pointer none, .func (.func 36) #[] #[.pointer (some ⟨w.heap.size + 1, 0, none⟩), .pointer (some ⟨w.heap.size + 1 + 1, 0, none⟩)], .int .i64 x.1, undef, undef, undef, undef, undef], defers := [] }) ?assign ?body ?done ?stop
  case assign =>
    intro l x W K hK
    simp only [slV]
    gi_wp2
    exact hK
  case body =>
    intro l pre x W _ hlt
    exact absurd hlt (Nat.not_lt_zero _)
  case done =>
    rintro D ys W hD rfl ⟨hv, hB⟩ hK
    have hcv := hv.cell
    gi_wp2
    refine ⟨by simp, .inl ⟨_, _, rfl, run_takeDeferred hK, ?_⟩⟩
    refine ⟨.slice none 0 0, by simp [results, Try.f13, go_sem], rfl, hB.trans (belowK_b (w := w) (Nat.le_refl _) _ D _ _ (by omega) hK rfl rfl)⟩
  case stop =>
    rintro D c pre W hD hpre hf hK
    exact hpre.elim
theorem slots_nil (w : World) : Calls Try.prog 13 #[.pointer none] w fun e W' => e = .returned (.slice none 0 0) ∧ Below w.heap.size w W' :=
  (callsIn_wide (n := 5)).1 (slotsn_in w 5 (by omega))
set_option maxHeartbeats 1000000 in
theorem revoken_in (top : ByteArray) (w : World) (n : Nat) (hn : 5 ≤ n) :
    CallsIn Fence.wide n Try.prog 12 #[.pointer none, .string top] w fun e W' => e = .returned (.slice none 0 0) ∧ Below w.heap.size w W' := by
  have hw1 : 1 ≤ n := by omega
  have hro : Fence.wide.round = none := rfl
  refine callsIn_of_wp_marks Try.func12 rfl trivial ?_ rfl
  simp only [Try.ntmps12, List.size_toArray, List.length_cons, List.length_nil, Nat.reduceAdd, Nat.reduceSub, Array.replicate_succ, Array.replicate_zero, List.push_toArray, List.append_toArray, List.nil_append, List.cons_append]
  have bL := Boxed.new ((w.alloc (.cells #[.pointer none] 26)).alloc (.cells #[.string top] 9)) 38 (.slice none 0 0)
  have hB0 : Below w.heap.size w (((w.alloc (.cells #[.pointer none] 26)).alloc (.cells #[.string top] 9)).alloc (.cells #[.slice none 0 0] 38)) := (((Below.refl _ w).alloc (Nat.le_refl _) _).alloc (by simp) _).alloc (by simp; omega) _
  have hsz : (((w.alloc (.cells #[.pointer none] 26)).alloc (.cells #[.string top] 9)).alloc (.cells #[.slice none 0 0] 38)).heap.size = w.heap.size + 1 + 1 + 1 := by simp
  simp only [World.size_alloc] at bL
  gi_wp2_with (refine ⟨trivial, ?_⟩; gi_at_call 29; refine (those_in (n - 1) _ _ _ _ _).mono ?_; rintro e w' ⟨rfl, rfl⟩)
  have bV := Boxed.new (((w.alloc (.cells #[.pointer none] 26)).alloc (.cells #[.string top] 9)).alloc (.cells #[.slice none 0 0] 38)) 26 (.pointer none)
  rw [hsz] at bV
  have HB := (hB0.alloc hB0.size (.cells #[.pointer none] 26)).alloc (Nat.le_trans hB0.size (by simp)) (.cells #[.func (.func 30) #[] #[.pointer (some ⟨w.heap.size + 1, 0, none⟩)]] 41)
  have bL0 := (bL.alloc (.cells #[.pointer none] 26)).alloc (.cells #[.func (.func 30) #[] #[.pointer (some ⟨w.heap.size + 1, 0, none⟩)]] 41)
  have bV0 := bV.alloc (.cells #[.func (.func 30) #[] #[.pointer (some ⟨w.heap.size + 1, 0, none⟩)]] 41)
  clear bL bV hB0
  generalize ((((w.alloc (.cells #[.pointer none] 26)).alloc (.cells #[.string top] 9)).alloc (.cells #[.slice none 0 0] 38)).alloc (.cells #[.pointer none] 26)).alloc (.cells #[.func (.func 30) #[] #[.pointer (some ⟨w.heap.size + 1, 0, none⟩)]] 41) = W0 at *
  have hs0 := HB.size
  refine wpIn_rangeFunc_ownG hro hw1 (gf := 36) (lb := #[.pointer (some ⟨w.heap.size + 1 + 1 + 1, 0, none⟩), .pointer (some ⟨w.heap.size + 1 + 1 + 1 + 1, 0, none⟩)]) rfl trivial (enters_of Try.func36 (by kernel_rfl) rfl)
    (thosen_stops (n - 1) (w.heap.size + 1 + 1 + 1) (w.heap.size + 1 + 1 + 1 + 1) W0 bV0.lt bV0.cell) (fun _ _ => trivial) (fun _ _ _ _ _ _ _ _ => trivial) (Below.refl _ _) (fun _ => rfl)
    (fun pre W => Boxed W (w.heap.size + 1 + 1) 38 (.slice none 0 0) ∧ Below w.heap.size w W)
    (fun _ _ _ => True)
    (OwnFrom.and (Own.from (fun s A B row hs hg hr => box_kept hs hg hr) _) (ownFrom_below (Nat.le_refl _) hs0))
    (fun c => Own.from (fun _ _ _ _ h _ _ => h) _)
    ⟨bL0, HB⟩
    (fun x => { tmps := #[.pointer none, .string top, .pointer (some ⟨w.heap.size, 0, none⟩), .pointer (some ⟨w.heap.size + 1, 0, none⟩), .slice none 0 0, .pointer (some ⟨w.heap.size + 1 + 1, 0, none⟩), .int .i64 x.1, .pointer none, .func (.func 30) #[] #[.pointer (some ⟨w.heap.size + 1, 0, none⟩)], .func (.func 36) #[] #[.pointer (some ⟨w.heap.size + 1 + 1 + 1, 0, none⟩), .pointer (some ⟨w.heap.size + 1 + 1 + 1 + 1, 0, none⟩)], .int .i64 x.1, undef, undef, undef, undef, undef, undef, undef, undef, undef, undef, undef], defers := [] }) ?assign ?body ?done ?stop
  case assign =>
    intro l x W K hK
    simp only [slV]
    gi_wp2
    exact hK
  case body =>
    intro l pre x W _ hlt
    exact absurd hlt (Nat.not_lt_zero _)
  case done =>
    rintro D ys W hD rfl ⟨hv, hB⟩ hK
    have hcv := hv.cell
    gi_wp2
    refine ⟨by simp, .inl ⟨_, _, rfl, run_takeDeferred hK, ?_⟩⟩
    refine ⟨.slice none 0 0, by simp [results, Try.f12, go_sem], rfl, hB.trans (belowK_b (w := w) (Nat.le_refl _) _ D _ _ (by omega) hK rfl rfl)⟩
  case stop =>
    rintro D c pre W hD hpre hf hK
    exact hpre.elim
theorem revoke_nil (top : ByteArray) (w : World) : Calls Try.prog 12 #[.pointer none, .string top] w fun e W' => e = .returned (.slice none 0 0) ∧ Below w.heap.size w W' :=
  (callsIn_wide (n := 5)).1 (revoken_in top w 5 (by omega))
end Go.Proofs.Ytodociolchnpeab
