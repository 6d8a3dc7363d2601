/- The program's calls of none that go over extents. -/
import Derived.Test.YtmepnnlmhlndmabExY
import Derived.BigRegionIn
import Derived.Sort.QuietIn
namespace Go.Proofs.Ytmepnnlmhlndmab
open Go.RowKit Go.Shelf Go.Maps
set_option linter.unusedVariables false
set_option maxRecDepth 100000
attribute [local go_sem] Oper.semAt_some
def emV (e : Empty) : Array Value := e.elim
theorem alln_any (w : World) : Calls Try.prog 33 #[.pointer none] w fun e w' => e = .returned (.func (.func 40) #[] #[]) ∧ w' = w := by
  go_enter Try.func33, Try.ntmps33
  go_wp2
  go_ret
  exact ⟨rfl, rfl⟩
theorem nil1_in (n : Nat) (l : Nat) (J Jx : List Empty → World → Prop) (W : World) (h0 : J [] W) :
    CallsIn Fence.wide n Try.prog 40 #[.func (.yield l) #[] #[]] W fun e W' => (∃ v, e = .returned v) ∧
      ((∃ ys, ys = [] ∧ J ys W') ∨ (∃ pre, False ∧ Jx pre W')) := by
  refine callsIn_of_wp Try.func40 rfl trivial ?_ rfl
  simp only [Try.ntmps40, List.size_toArray, List.length_cons, List.length_nil, Nat.reduceAdd, Nat.reduceSub, Array.replicate_succ, Array.replicate_zero, List.push_toArray, List.append_toArray, List.nil_append, List.cons_append]
  gi_wp2
  exact ⟨rfl, _, results_none rfl _ _ _, ⟨_, rfl⟩, .inl ⟨[], rfl, h0⟩⟩
theorem nil_stops (n : Nat) (w : World) :
    SeqStopsK Fence.wide n Try.prog 40 #[] emV (fun _ _ => True) (fun ys => ys = []) (fun pre => False) 0 w := fun l J Jx W hW hJ hJx hY h0 =>
  nil1_in n l J Jx W h0
set_option maxHeartbeats 1000000 in
theorem listn_in (n : Nat) (hn : 8 ≤ n)  (w : World) :
    CallsIn Fence.wide n Try.prog 14 #[.pointer none] w fun e W' => e = .returned (.slice none 0 0) ∧ Below w.heap.size w W' := by
  have hro : Fence.wide.round = none := rfl
  have cG := fun w => (callsIn_wide (n := n - 1)).2 (alln_any w)
  refine callsIn_of_wp_marks Try.func14 rfl trivial ?_ rfl
  simp only [Try.ntmps14, List.size_toArray, List.length_cons, List.length_nil, Nat.reduceAdd, Nat.reduceSub, Array.replicate_succ, Array.replicate_zero, List.push_toArray, List.append_toArray, List.nil_append, List.cons_append]
  have hB0 : Below w.heap.size w (w.alloc (.cells #[.slice none 0 0] 44)) := (Below.refl _ w).alloc (Nat.le_refl _) _
  have bL := Boxed.new w 44 (.slice none 0 0)
  have hz : (w.alloc (.cells #[.slice none 0 0] 44)).heap.size = w.heap.size + 1 := by simp
  try simp only [World.size_alloc] at bL
  gi_wp2_with (refine ⟨trivial, fun _ => by omega, ?_⟩; refine (cG _).mono ?_; rintro e w' ⟨rfl, rfl⟩)
  generalize (w.alloc (.cells #[.slice none 0 0] 44)) = W0 at *
  refine wpIn_rangeFunc_ownG hro (by omega) (gf := 40) (lb := #[]) rfl trivial (enters_of Try.func40 (by kernel_rfl) rfl)
    (nil_stops (n - 1) W0) (fun _ _ => trivial) (fun _ _ _ _ _ _ _ _ => trivial) (Below.refl _ _) (fun x => x.elim)
    (fun pre W => Boxed W (w.heap.size) 44 (.slice none 0 0) ∧ Below w.heap.size w W)
    (fun _ _ _ => True)
    (OwnFrom.and (Own.from (fun s A B row hs hg hr => Cl.kept hs hg (fun r e => hr r e)) _) (ownFrom_below (Nat.le_refl _) (by omega)))
    (fun c => Own.from (fun _ _ _ _ h _ _ => h) _)
    ⟨bL, hB0⟩
    (fun x => x.elim) ?assign ?body ?done ?stop
  case assign =>
    intro l x
    exact x.elim
  case body =>
    intro l pre x
    exact x.elim
  case done =>
    rintro D ys W hD _ ⟨hv, hB⟩ hK
    have hcv := hv.cell
    gi_wp2
    refine ⟨by simp, .inl ⟨_, _, rfl, run_takeDeferred hK, ?_⟩⟩
    refine ⟨.slice none 0 0, by simp [results, Try.f14, go_sem], rfl, hB.trans (belowK_b (w := w) (Nat.le_refl _) _ D _ _ (by omega) hK rfl rfl)⟩
  case stop =>
    rintro D c pre W hD hpre hf hK
    exact hpre.elim
theorem list_nil  (w : World) : Calls Try.prog 14 #[.pointer none] w fun e W' => e = .returned (.slice none 0 0) ∧ Below w.heap.size w W' :=
  (callsIn_wide (n := 8)).1 (listn_in 8 (by decide) w)
set_option maxHeartbeats 1000000 in
theorem ownedn_in (n : Nat) (hn : 8 ≤ n) (o : Int) (w : World) :
    CallsIn Fence.wide n Try.prog 15 #[.pointer none, .int .u8 o] w fun e W' => e = .returned (.slice none 0 0) ∧ Below w.heap.size w W' := by
  have hro : Fence.wide.round = none := rfl
  have cG := fun w => (callsIn_wide (n := n - 1)).2 (alln_any w)
  refine callsIn_of_wp_marks Try.func15 rfl trivial ?_ rfl
  simp only [Try.ntmps15, List.size_toArray, List.length_cons, List.length_nil, Nat.reduceAdd, Nat.reduceSub, Array.replicate_succ, Array.replicate_zero, List.push_toArray, List.append_toArray, List.nil_append, List.cons_append]
  have hB0 : Below w.heap.size w ((w.alloc (.cells #[.int .u8 o] 5)).alloc (.cells #[.slice none 0 0] 46)) := ((Below.refl _ w).alloc (Nat.le_refl _) _).alloc (by simp) _
  have bL := Boxed.new (w.alloc (.cells #[.int .u8 o] 5)) 46 (.slice none 0 0)
  have hz : ((w.alloc (.cells #[.int .u8 o] 5)).alloc (.cells #[.slice none 0 0] 46)).heap.size = w.heap.size + 1 + 1 := by simp
  try simp only [World.size_alloc] at bL
  gi_wp2_with (refine ⟨trivial, fun _ => by omega, ?_⟩; refine (cG _).mono ?_; rintro e w' ⟨rfl, rfl⟩)
  generalize ((w.alloc (.cells #[.int .u8 o] 5)).alloc (.cells #[.slice none 0 0] 46)) = W0 at *
  refine wpIn_rangeFunc_ownG hro (by omega) (gf := 40) (lb := #[]) rfl trivial (enters_of Try.func40 (by kernel_rfl) rfl)
    (nil_stops (n - 1) W0) (fun _ _ => trivial) (fun _ _ _ _ _ _ _ _ => trivial) (Below.refl _ _) (fun x => x.elim)
    (fun pre W => Boxed W (w.heap.size + 1) 46 (.slice none 0 0) ∧ Below w.heap.size w W)
    (fun _ _ _ => True)
    (OwnFrom.and (Own.from (fun s A B row hs hg hr => Cl.kept hs hg (fun r e => hr r e)) _) (ownFrom_below (Nat.le_refl _) (by omega)))
    (fun c => Own.from (fun _ _ _ _ h _ _ => h) _)
    ⟨bL, hB0⟩
    (fun x => x.elim) ?assign ?body ?done ?stop
  case assign =>
    intro l x
    exact x.elim
  case body =>
    intro l pre x
    exact x.elim
  case done =>
    rintro D ys W hD _ ⟨hv, hB⟩ hK
    have hcv := hv.cell
    gi_wp2
    refine ⟨by simp, .inl ⟨_, _, rfl, run_takeDeferred hK, ?_⟩⟩
    refine ⟨.slice none 0 0, by simp [results, Try.f15, go_sem], rfl, hB.trans (belowK_b (w := w) (Nat.le_refl _) _ D _ _ (by omega) hK rfl rfl)⟩
  case stop =>
    rintro D c pre W hD hpre hf hK
    exact hpre.elim
theorem owned_nil (o : Int) (w : World) : Calls Try.prog 15 #[.pointer none, .int .u8 o] w fun e W' => e = .returned (.slice none 0 0) ∧ Below w.heap.size w W' :=
  (callsIn_wide (n := 8)).1 (ownedn_in 8 (by decide) o w)
set_option maxHeartbeats 2000000 in
theorem firstn_in (n : Nat) (hn : 8 ≤ n) (g : Fn) (r c : Array Value) (w : World) :
    CallsIn Fence.wide n Try.prog 27 #[.pointer none, .func g r c] w fun e w' =>
      e = .returned (.tuple #[exV zEx, .bool false]) ∧ Below w.heap.size w w' := by
  have hro : Fence.wide.round = none := rfl
  have cG := fun w => (callsIn_wide (n := n - 1)).2 (alln_any w)
  have a1 := Boxed.new w 58 (.func g r c)
  have a2 := Cl.new (w.alloc (.cells #[.func g r c] 58)) 33 [.int .u32 0, .int .i64 0, .int .i64 0, .int .u8 0, .string ⟨#[]⟩, .int .u8 0]
  have a3 := Boxed.new ((w.alloc (.cells #[.func g r c] 58)).alloc (.cells #[.int .u32 0, .int .i64 0, .int .i64 0, .int .u8 0, .string ⟨#[]⟩, .int .u8 0] 33)) 4 (.bool false)
  have hB3 : Below w.heap.size w (((w.alloc (.cells #[.func g r c] 58)).alloc (.cells #[.int .u32 0, .int .i64 0, .int .i64 0, .int .u8 0, .string ⟨#[]⟩, .int .u8 0] 33)).alloc (.cells #[.bool false] 4)) := (((Below.refl _ w).alloc (Nat.le_refl _) _).alloc (by simp) _).alloc (by simp; omega) _
  have b1 := (a1.alloc (.cells #[.int .u32 0, .int .i64 0, .int .i64 0, .int .u8 0, .string ⟨#[]⟩, .int .u8 0] 33)).alloc (.cells #[.bool false] 4)
  have b2 := a2.alloc (.cells #[.bool false] 4)
  have hz : (((w.alloc (.cells #[.func g r c] 58)).alloc (.cells #[.int .u32 0, .int .i64 0, .int .i64 0, .int .u8 0, .string ⟨#[]⟩, .int .u8 0] 33)).alloc (.cells #[.bool false] 4)).heap.size = w.heap.size + 1 + 1 + 1 := by simp
  simp only [World.size_alloc] at b2 a3
  clear a1 a2
  refine callsIn_of_wp_marks Try.func27 rfl trivial ?_ rfl
  simp only [Try.ntmps27, List.size_toArray, List.length_cons, List.length_nil, Nat.reduceAdd, Nat.reduceSub, Array.replicate_succ, Array.replicate_zero, List.push_toArray, List.append_toArray, List.nil_append, List.cons_append]
  gi_wp2_with (refine ⟨trivial, fun _ => by omega, ?_⟩; refine (cG _).mono ?_; rintro e w' ⟨rfl, rfl⟩)
  generalize (((w.alloc (.cells #[.func g r c] 58)).alloc (.cells #[.int .u32 0, .int .i64 0, .int .i64 0, .int .u8 0, .string ⟨#[]⟩, .int .u8 0] 33)).alloc (.cells #[.bool false] 4)) = W3 at *
  clear cG
  refine wpIn_rangeFunc_ownG hro (by omega) (gf := 40) (lb := #[]) rfl trivial (enters_of Try.func40 (by kernel_rfl) rfl)
    (nil_stops (n - 1) W3) (fun _ _ => trivial) (fun _ _ _ _ _ _ _ _ => trivial) (Below.refl _ _) (fun x => x.elim)
    (fun pre V => ((Boxed V w.heap.size 58 (.func g r c) ∧ Cl V (w.heap.size + 1) 33 [.int .u32 0, .int .i64 0, .int .i64 0, .int .u8 0, .string ⟨#[]⟩, .int .u8 0]) ∧ Boxed V (w.heap.size + 1 + 1) 4 (.bool false)) ∧ Below w.heap.size w V)
    (fun _ _ _ => True)
    (OwnFrom.and (OwnFrom.and (OwnFrom.and (Own.from (fun s A B row hs hg hr => Cl.kept hs hg (fun r e => hr r e)) _) (Own.from (fun s A B row hs hg hr => Cl.kept hs hg (fun r e => hr r e)) _)) (Own.from (fun s A B row hs hg hr => Cl.kept hs hg (fun r e => hr r e)) _)) (ownFrom_below (Nat.le_refl _) (by omega)))
    (fun c => Own.from (fun _ _ _ _ h _ _ => h) _)
    ⟨⟨⟨b1, b2⟩, a3⟩, hB3⟩
    (fun x => x.elim) ?assign ?body ?done ?stop
  case assign =>
    intro l x
    exact x.elim
  case body =>
    intro l pre x
    exact x.elim
  case done =>
    rintro D ys V hD _ ⟨⟨⟨h1, h2⟩, h3⟩, hbl⟩ hK
    have y0 := h2.cell 0
    have y1 := h2.cell 1
    have y2 := h2.cell 2
    have y3 := h2.cell 3
    have y4 := h2.cell 4
    have y5 := h2.cell 5
    have f0 := h2.thaw 0
    have f1 := h2.thaw 1
    have f2 := h2.thaw 2
    have f3 := h2.thaw 3
    have f4 := h2.thaw 4
    have f5 := h2.thaw 5
    have g0 := h3.cell
    have g1 := h3.frozen
    have hl2 := h2.lt
    have hl3 := h3.lt
    simp only [List.getElem?_cons_zero, List.getElem?_cons_succ] at y0 y1 y2 y3 y4 y5
    have hne : w.heap.size + 1 ≠ w.heap.size + 1 + 1 := by omega
    have hne2 : w.heap.size + 1 + 1 ≠ w.heap.size + 1 := by omega
    have HE : Hid3 (Below w.heap.size w V ∧ Cl V (w.heap.size + 1) 33 [.int .u32 0, .int .i64 0, .int .i64 0, .int .u8 0, .string ⟨#[]⟩, .int .u8 0] ∧ Boxed V (w.heap.size + 1 + 1) 4 (.bool false) ∧ V.heap[D]? = some (.deferred (some []))) := ⟨hbl, h2, h3, hK⟩
    clear h1 h2 h3 hbl hK
    gi_wp2
    obtain ⟨hbl, h2, h3, hK⟩ := HE.out
    have q2 := (Cl.fill (a0 := .int .u32 0) (a1 := .int .i64 0) (a2 := .int .i64 0) (a3 := .int .u8 0) (a4 := .string ⟨#[]⟩) (a5 := .int .u8 0) h2).other (d := w.heap.size + 1 + 1) (by omega) 0 (.bool false)
    have q3 := Boxed.of_fill (i := w.heap.size + 1) (a0 := .int .u32 0) (a1 := .int .i64 0) (a2 := .int .i64 0) (a3 := .int .u8 0) (a4 := .string ⟨#[]⟩) (a5 := .int .u8 0) (v' := .bool false) h3 (by omega)
    have qa := ((Apart.refl (fun k => k = w.heap.size + 1 ∨ k = w.heap.size + 1 + 1) V).fill (i := w.heap.size + 1) (a0 := .int .u32 0) (a1 := .int .i64 0) (a2 := .int .i64 0) (a3 := .int .u8 0) (a4 := .string ⟨#[]⟩) (a5 := .int .u8 0) (.inl rfl)).trans (Apart.at _ (w.heap.size + 1 + 1) 0 (.bool false) (.inr rfl))
    have hK2 := (qa.block D (Array.getElem?_eq_some_iff.1 hK).1 (by omega)).trans hK
    have hbl2 := hbl.trans (qa.below _ (by rintro k (rfl | rfl) <;> omega) hbl.size)
    generalize (((((((V.setCell ⟨w.heap.size + 1, 0, none⟩ (.int .u32 0)).setCell ⟨w.heap.size + 1, 1, none⟩ (.int .i64 0)).setCell ⟨w.heap.size + 1, 2, none⟩ (.int .i64 0)).setCell ⟨w.heap.size + 1, 3, none⟩ (.int .u8 0)).setCell ⟨w.heap.size + 1, 4, none⟩ (.string ⟨#[]⟩)).setCell ⟨w.heap.size + 1, 5, none⟩ (.int .u8 0)).setCell ⟨w.heap.size + 1 + 1, 0, none⟩ (.bool false)) = V2 at *
    have hp := below_put (B := w.heap.size + 3) (W := V2) (l := D) (.deferred none) (by omega)
    have j2 : Cl (V2.putObj D (.deferred none)) _ _ _ := (hp.block _ (by omega)).trans q2
    have j3 : Boxed (V2.putObj D (.deferred none)) _ _ _ := (hp.block _ (by omega)).trans q3
    have k0 := j2.cell 0
    have k1 := j2.cell 1
    have k2 := j2.cell 2
    have k3 := j2.cell 3
    have k4 := j2.cell 4
    have k5 := j2.cell 5
    have k6 := j3.cell
    simp only [List.getElem?_cons_zero, List.getElem?_cons_succ] at k0 k1 k2 k3 k4 k5
    refine ⟨by simp, .inl ⟨_, _, rfl, run_takeDeferred hK2, ?_⟩⟩
    exact ⟨.tuple #[exV zEx, .bool false], by simp [results, Try.f27, go_sem, k0, k1, k2, k3, k4, k5, k6, exV, zEx], rfl, hbl2.trans (hp.mono (by omega))⟩
  case stop =>
    rintro D c pre W hD hpre hf hK
    exact hpre.elim
set_option maxHeartbeats 1000000 in
theorem get_nil (v : Int) (w : World) : Calls Try.prog 6 #[.pointer none, .int .u32 v] w fun e w' => e = .returned (.tuple #[exV zEx, .bool false]) ∧ Below w.heap.size w w' := by
  have hB : Below w.heap.size w ((w.alloc (.cells #[.int .u32 v] 22)).alloc (.cells #[.int .u32 0, .int .i64 0, .int .i64 0, .int .u8 0, .string ⟨#[]⟩, .int .u8 0] 33)) := ((Below.refl _ w).alloc (Nat.le_refl _) _).alloc (by simp) _
  have hb1 := (Boxed.new w 22 (.int .u32 v)).alloc (.cells #[.int .u32 0, .int .i64 0, .int .i64 0, .int .u8 0, .string ⟨#[]⟩, .int .u8 0] 33)
  have hb2 := Cl.new (w.alloc (.cells #[.int .u32 v] 22)) 33 [.int .u32 0, .int .i64 0, .int .i64 0, .int .u8 0, .string ⟨#[]⟩, .int .u8 0]
  rw [World.size_alloc] at hb2
  have cF := (callsIn_wide (n := 8)).1 (firstn_in 8 (by decide) (.func 28) #[] #[.pointer (some ⟨w.heap.size, 0, none⟩)] ((w.alloc (.cells #[.int .u32 v] 22)).alloc (.cells #[.int .u32 0, .int .i64 0, .int .i64 0, .int .u8 0, .string ⟨#[]⟩, .int .u8 0] 33)))
  obtain ⟨x, hx⟩ : ∃ x : Ex, zEx = x := ⟨_, rfl⟩
  rw [hx] at cF ⊢
  have HB := Hid3.mk hB
  have HB2 := Hid3.mk hb2
  clear hx hB hb1 hb2
  unfold exV at cF ⊢
  go_enter Try.func6, Try.ntmps6
  go_wp2_with fail
  refine cF.mono ?_
  rintro e W2 ⟨rfl, hB2⟩
  have s2 := HB2.out.below hB2
  have HB3 := Hid3.mk (HB.out.trans (hB2.mono HB.out.size))
  have y0 := s2.cell 0
  have y1 := s2.cell 1
  have y2 := s2.cell 2
  have y3 := s2.cell 3
  have y4 := s2.cell 4
  have y5 := s2.cell 5
  have f0 := s2.thaw 0
  have f1 := s2.thaw 1
  have f2 := s2.thaw 2
  have f3 := s2.thaw 3
  have f4 := s2.thaw 4
  have f5 := s2.thaw 5
  have hl2 := s2.lt
  have HS := Hid3.mk s2
  simp only [List.getElem?_cons_zero, List.getElem?_cons_succ] at y0 y1 y2 y3 y4 y5
  clear s2 hB2 cF HB HB2
  go_wp2
  have q2 := Cl.fill (a0 := .int .u32 x.id) (a1 := .int .i64 x.st) (a2 := .int .i64 x.ln) (a3 := .int .u8 x.ow) (a4 := .string x.nm) (a5 := .int .u8 x.rt.toNat) HS.out
  have qa := (Apart.refl (fun k => k = w.heap.size + 1) W2).fill (i := w.heap.size + 1) (a0 := .int .u32 x.id) (a1 := .int .i64 x.st) (a2 := .int .i64 x.ln) (a3 := .int .u8 x.ow) (a4 := .string x.nm) (a5 := .int .u8 x.rt.toNat) rfl
  have hB4 := HB3.out.trans (qa.below w.heap.size (fun k e => by omega) HB3.out.size)
  generalize ((((((W2.setCell ⟨w.heap.size + 1, 0, none⟩ (.int .u32 x.id)).setCell ⟨w.heap.size + 1, 1, none⟩ (.int .i64 x.st)).setCell ⟨w.heap.size + 1, 2, none⟩ (.int .i64 x.ln)).setCell ⟨w.heap.size + 1, 3, none⟩ (.int .u8 x.ow)).setCell ⟨w.heap.size + 1, 4, none⟩ (.string x.nm)).setCell ⟨w.heap.size + 1, 5, none⟩ (.int .u8 x.rt.toNat)) = W3 at *
  have k0 := q2.cell 0
  have k1 := q2.cell 1
  have k2 := q2.cell 2
  have k3 := q2.cell 3
  have k4 := q2.cell 4
  have k5 := q2.cell 5
  simp only [List.getElem?_cons_zero, List.getElem?_cons_succ] at k0 k1 k2 k3 k4 k5
  refine bodyPost_ret (v := .tuple #[.agg #[.int .u32 x.id, .int .i64 x.st, .int .i64 x.ln, .int .u8 x.ow, .string x.nm, .int .u8 x.rt.toNat], .bool false]) (by simp [results, Try.f6, go_sem, k0, k1, k2, k3, k4, k5]) rfl ?_
  exact ⟨rfl, hB4⟩
set_option maxHeartbeats 1000000 in
theorem at_nil (v : Int) (w : World) : Calls Try.prog 7 #[.pointer none, .int .i64 v] w fun e w' => e = .returned (.tuple #[exV zEx, .bool false]) ∧ Below w.heap.size w w' := by
  have hB : Below w.heap.size w ((w.alloc (.cells #[.int .i64 v] 3)).alloc (.cells #[.int .u32 0, .int .i64 0, .int .i64 0, .int .u8 0, .string ⟨#[]⟩, .int .u8 0] 33)) := ((Below.refl _ w).alloc (Nat.le_refl _) _).alloc (by simp) _
  have hb1 := (Boxed.new w 3 (.int .i64 v)).alloc (.cells #[.int .u32 0, .int .i64 0, .int .i64 0, .int .u8 0, .string ⟨#[]⟩, .int .u8 0] 33)
  have hb2 := Cl.new (w.alloc (.cells #[.int .i64 v] 3)) 33 [.int .u32 0, .int .i64 0, .int .i64 0, .int .u8 0, .string ⟨#[]⟩, .int .u8 0]
  rw [World.size_alloc] at hb2
  have cF := (callsIn_wide (n := 8)).1 (firstn_in 8 (by decide) (.func 29) #[] #[.pointer (some ⟨w.heap.size, 0, none⟩)] ((w.alloc (.cells #[.int .i64 v] 3)).alloc (.cells #[.int .u32 0, .int .i64 0, .int .i64 0, .int .u8 0, .string ⟨#[]⟩, .int .u8 0] 33)))
  obtain ⟨x, hx⟩ : ∃ x : Ex, zEx = x := ⟨_, rfl⟩
  rw [hx] at cF ⊢
  have HB := Hid3.mk hB
  have HB2 := Hid3.mk hb2
  clear hx hB hb1 hb2
  unfold exV at cF ⊢
  go_enter Try.func7, Try.ntmps7
  go_wp2_with fail
  refine cF.mono ?_
  rintro e W2 ⟨rfl, hB2⟩
  have s2 := HB2.out.below hB2
  have HB3 := Hid3.mk (HB.out.trans (hB2.mono HB.out.size))
  have y0 := s2.cell 0
  have y1 := s2.cell 1
  have y2 := s2.cell 2
  have y3 := s2.cell 3
  have y4 := s2.cell 4
  have y5 := s2.cell 5
  have f0 := s2.thaw 0
  have f1 := s2.thaw 1
  have f2 := s2.thaw 2
  have f3 := s2.thaw 3
  have f4 := s2.thaw 4
  have f5 := s2.thaw 5
  have hl2 := s2.lt
  have HS := Hid3.mk s2
  simp only [List.getElem?_cons_zero, List.getElem?_cons_succ] at y0 y1 y2 y3 y4 y5
  clear s2 hB2 cF HB HB2
  go_wp2
  have q2 := Cl.fill (a0 := .int .u32 x.id) (a1 := .int .i64 x.st) (a2 := .int .i64 x.ln) (a3 := .int .u8 x.ow) (a4 := .string x.nm) (a5 := .int .u8 x.rt.toNat) HS.out
  have qa := (Apart.refl (fun k => k = w.heap.size + 1) W2).fill (i := w.heap.size + 1) (a0 := .int .u32 x.id) (a1 := .int .i64 x.st) (a2 := .int .i64 x.ln) (a3 := .int .u8 x.ow) (a4 := .string x.nm) (a5 := .int .u8 x.rt.toNat) rfl
  have hB4 := HB3.out.trans (qa.below w.heap.size (fun k e => by omega) HB3.out.size)
  generalize ((((((W2.setCell ⟨w.heap.size + 1, 0, none⟩ (.int .u32 x.id)).setCell ⟨w.heap.size + 1, 1, none⟩ (.int .i64 x.st)).setCell ⟨w.heap.size + 1, 2, none⟩ (.int .i64 x.ln)).setCell ⟨w.heap.size + 1, 3, none⟩ (.int .u8 x.ow)).setCell ⟨w.heap.size + 1, 4, none⟩ (.string x.nm)).setCell ⟨w.heap.size + 1, 5, none⟩ (.int .u8 x.rt.toNat)) = W3 at *
  have k0 := q2.cell 0
  have k1 := q2.cell 1
  have k2 := q2.cell 2
  have k3 := q2.cell 3
  have k4 := q2.cell 4
  have k5 := q2.cell 5
  simp only [List.getElem?_cons_zero, List.getElem?_cons_succ] at k0 k1 k2 k3 k4 k5
  refine bodyPost_ret (v := .tuple #[.agg #[.int .u32 x.id, .int .i64 x.st, .int .i64 x.ln, .int .u8 x.ow, .string x.nm, .int .u8 x.rt.toNat], .bool false]) (by simp [results, Try.f7, go_sem, k0, k1, k2, k3, k4, k5]) rfl ?_
  exact ⟨rfl, hB4⟩
end Go.Proofs.Ytmepnnlmhlndmab
