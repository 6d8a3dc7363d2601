/- The program's table: first, Find, Room, Opens. -/
import Derived.Test.YtedknoadcdnioaaCaH
namespace Go.Proofs.Ytedknoadcdnioaa
open Go.RowKit Go.Shelf Go.Maps
set_option linter.unusedVariables false
set_option maxRecDepth 100000
attribute [local go_sem] Oper.semAt_some
def firstO (q : Fin 12 → Bool) (we : Int) : Int × Int := match thL q 12 with
  | [] => (0, we)
  | k :: _ => (k.1, 0)
/-- What is held by who is asked stays. -/
def CB (bx : Nat) (w W : World) : Prop := (∀ v, w.cell? ⟨bx, 0, none⟩ = some v → W.cell? ⟨bx, 0, none⟩ = some v) ∧ ∀ v, w.cell? ⟨bx, 1, none⟩ = some v → W.cell? ⟨bx, 1, none⟩ = some v
theorem boxOff {W : World} {b d j : Nat} {t : TypeId} {v : Value} (h : Boxed W b t v) (hne : b ≠ d) (u : Value) : Boxed (W.setCell ⟨d, j, none⟩ u) b t v := (Below.heap_setCell W ⟨d, j, none⟩ u b hne).trans h
theorem CB.of {bf bx : Nat} {w W0 W : World} (h : Below w.heap.size w W0) (k : KB bf bx W0 W) : CB bx w W :=
  ⟨fun v hv => k.2 _ _ (.inr (.inl rfl)) ((h.cell (p := ⟨bx, 0, none⟩) (World.block_lt_of_cell? w _ hv)).trans hv), fun v hv => k.2 _ _ (.inr (.inr rfl)) ((h.cell (p := ⟨bx, 1, none⟩) (World.block_lt_of_cell? w _ hv)).trans hv)⟩
set_option maxHeartbeats 1000000 in
theorem first_in (B b bx : Nat) (F : FuncId) (cs : Array Value) (hF : ∀ args w, (callFunc F args).run Try.prog w = .ok (.enter F args) w) (s : Sl) (q : Fin 12 → Bool) (we : Int) (w : World) (h : Tb 44 B w b s)
    (hA : ∀ (k : Fin 12) W', CB bx w W' → Calls Try.prog F (#[.agg #[.string (slF s k).1, .int .u8 (slF s k).2.toNat]] ++ cs) W' fun e W'' => e = .returned (.bool (q k)) ∧ Below W'.heap.size W' W'') (n : Nat) (hn : 5 ≤ n) :
    CallsIn Fence.wide n Try.prog 27 #[.pointer (some ⟨b, 0, none⟩), .func (.func F) #[] cs, .int .i64 we] w fun e W' => e = .returned (.tuple #[.int .i64 (firstO q we).1, .int .i64 (firstO q we).2]) ∧ Below w.heap.size w W' := by
  have hw1 : 1 ≤ n := by omega
  have hro : Fence.wide.round = none := rfl
  refine callsIn_of_wp_marks Try.func27 rfl trivial ?_ rfl
  simp only [Try.ntmps27, List.size_toArray, List.length_cons, List.length_nil, Nat.reduceAdd, Nat.reduceSub, Array.replicate_succ, Array.replicate_zero, List.push_toArray, List.append_toArray, List.nil_append, List.cons_append]
  have b1 := Boxed.new w 3 (.int .i64 0)
  have b2 := Boxed.new (w.alloc (.cells #[.int .i64 0] 3)) 28 (.int .i64 0)
  have bV := Boxed.new ((w.alloc (.cells #[.int .i64 0] 3)).alloc (.cells #[.int .i64 0] 28)) 24 (.pointer (some ⟨b, 0, none⟩))
  have bF := Boxed.new (((w.alloc (.cells #[.int .i64 0] 3)).alloc (.cells #[.int .i64 0] 28)).alloc (.cells #[.pointer (some ⟨b, 0, none⟩)] 24)) 33 (.func (.func F) #[] cs)
  simp only [World.size_alloc] at b1 b2 bV bF
  have hB0 : Below w.heap.size w ((((w.alloc (.cells #[.int .i64 0] 3)).alloc (.cells #[.int .i64 0] 28)).alloc (.cells #[.pointer (some ⟨b, 0, none⟩)] 24)).alloc (.cells #[.func (.func F) #[] cs] 33)) := ((((Below.refl _ w).alloc (Nat.le_refl _) _).alloc (by simp) _).alloc (by simp; omega) _).alloc (by simp; omega) _
  have c1 := ((b1.alloc (.cells #[.int .i64 0] 28)).alloc (.cells #[.pointer (some ⟨b, 0, none⟩)] 24)).alloc (.cells #[.func (.func F) #[] cs] 33)
  have c2 := (b2.alloc (.cells #[.pointer (some ⟨b, 0, none⟩)] 24)).alloc (.cells #[.func (.func F) #[] cs] 33)
  have bV0 := bV.alloc (.cells #[.func (.func F) #[] cs] 33)
  clear b1 b2 bV
  gi_wp2_with (refine ⟨trivial, ?_⟩; gi_at_call 19; refine (those_in (n - 1) _ _ _ _ _).mono ?_; rintro e w' ⟨rfl, rfl⟩)
  generalize ((((w.alloc (.cells #[.int .i64 0] 3)).alloc (.cells #[.int .i64 0] 28)).alloc (.cells #[.pointer (some ⟨b, 0, none⟩)] 24)).alloc (.cells #[.func (.func F) #[] cs] 33)) = W0 at *
  have h0 := h.below hB0
  have hs0 := hB0.size
  clear h
  refine wpIn_rangeFunc_ownG hro hw1 (gf := 30) (lb := #[.pointer (some ⟨w.heap.size + 1 + 1, 0, none⟩), .pointer (some ⟨w.heap.size + 1 + 1 + 1, 0, none⟩)]) rfl trivial (enters_of Try.func30 (by kernel_rfl) rfl)
    (th_stops (n - 1) (by omega) B (w.heap.size + 1 + 1) (w.heap.size + 1 + 1 + 1) bx b F cs hF s q W0 bV0.cell bF.cell h0 (fun k W' hk => callsIn_wide.2 (hA k W' (CB.of hB0 hk)))) kpC_t kpC_b (Below.refl _ _) (fun _ => rfl)
    (fun pre W => (pre = [] ∧ Boxed W w.heap.size 3 (.int .i64 0) ∧ Boxed W (w.heap.size + 1) 28 (.int .i64 0)) ∧ Below w.heap.size w W)
    (fun c pre W => (c = .ret ∧ ∃ x : Fin 12, pre = [x] ∧ Boxed W w.heap.size 3 (.int .i64 x.1) ∧ Boxed W (w.heap.size + 1) 28 (.int .i64 0)) ∧ Below w.heap.size w W)
    (OwnFrom.and (Own.from (fun s A B row hs hg hr => ⟨hs.1, box_kept hs.2.1 hg hr, box_kept hs.2.2 hg hr⟩) _) (ownFrom_below (Nat.le_refl _) hs0))
    (fun c => OwnFrom.and (Own.from (fun s A B row hs hg hr => by
      obtain ⟨k0, x, k1, k2, k3⟩ := hs
      exact ⟨k0, x, k1, box_kept k2 hg hr, box_kept k3 hg hr⟩) _) (ownFrom_below (Nat.le_refl _) hs0))
    ⟨⟨rfl, c1, c2⟩, hB0⟩
    (fun x => { tmps := #[.pointer (some ⟨b, 0, none⟩), .func (.func F) #[] cs, .int .i64 we, undef, undef, undef, .pointer (some ⟨w.heap.size, 0, none⟩), .pointer (some ⟨w.heap.size + 1, 0, none⟩), .int .i64 x.1, .pointer (some ⟨b, 0, none⟩), .bool false, .pointer (some ⟨b, 0, none⟩), .func (.func F) #[] cs, .func (.func 30) #[] #[.pointer (some ⟨w.heap.size + 1 + 1, 0, none⟩), .pointer (some ⟨w.heap.size + 1 + 1 + 1, 0, none⟩)], .int .i64 x.1, undef, undef], defers := [] }) ?assign ?body ?done ?stop
  case assign =>
    intro l x W K hK
    simp only [slV]
    gi_wp2
    exact hK
  case body =>
    rintro l pre x W ⟨⟨rfl, f1, f2⟩, hB⟩ hlt
    have k1 := f1.cell
    have k2 := f2.cell
    have g1 := f1.frozen
    have g2 := f2.frozen
    have HB : Hid (Below w.heap.size w ((W.setCell ⟨w.heap.size, 0, none⟩ (.int .i64 x.1)).setCell ⟨w.heap.size + 1, 0, none⟩ (.int .i64 0))) := (hB.setCell (p := ⟨w.heap.size, 0, none⟩) (Nat.le_refl _) _).setCell (p := ⟨w.heap.size + 1, 0, none⟩) (by show w.heap.size ≤ w.heap.size + 1; omega) _
    have HB1 : Hid (Boxed ((W.setCell ⟨w.heap.size, 0, none⟩ (.int .i64 x.1)).setCell ⟨w.heap.size + 1, 0, none⟩ (.int .i64 0)) w.heap.size 3 (.int .i64 x.1)) := boxOff (f1.set _) (by omega) _
    have HB2 : Hid (Boxed ((W.setCell ⟨w.heap.size, 0, none⟩ (.int .i64 x.1)).setCell ⟨w.heap.size + 1, 0, none⟩ (.int .i64 0)) (w.heap.size + 1) 28 (.int .i64 0)) := (boxOff (j := 0) f2 (d := w.heap.size) (by omega) (.int .i64 x.1)).set _
    gi_wp2
    exact ⟨((KeepsOthers.setCell _ _ _).trans (KeepsOthers.setCell _ _ _)).from _, ⟨rfl, x, rfl, HB1.out, HB2.out⟩, HB.out⟩
  case done =>
    rintro D ys W hD hys ⟨⟨hnil, f1, f2⟩, hB⟩ hK
    have k1 := f1.cell
    have k2 := f2.cell
    have g1 := f1.frozen
    have g2 := f2.frozen
    gi_wp2
    have hK' := ((KeepsOthers.setCell W ⟨w.heap.size, 0, none⟩ (.int .i64 0)).trans (KeepsOthers.setCell _ ⟨w.heap.size + 1, 0, none⟩ (.int .i64 we))).same D _ hK rfl
    have hB2 := (hB.setCell (p := ⟨w.heap.size, 0, none⟩) (Nat.le_refl _) (.int .i64 0)).setCell (p := ⟨w.heap.size + 1, 0, none⟩) (by show w.heap.size ≤ w.heap.size + 1; omega) (.int .i64 we)
    have d1 := boxOff (j := 0) (f1.set (.int .i64 0)) (d := w.heap.size + 1) (by omega) (.int .i64 we)
    have d2 := (boxOff (j := 0) f2 (d := w.heap.size) (by omega) (.int .i64 0)).set (.int .i64 we)
    have kept : ∀ r, some D = some r → ∃ o : Obj, ((W.setCell ⟨w.heap.size, 0, none⟩ (.int .i64 0)).setCell ⟨w.heap.size + 1, 0, none⟩ (.int .i64 we)).heap[r]? = some o ∧ o.isCells = false := fun r e => by cases e; exact ⟨_, hK', rfl⟩
    have j1 := (box_kept d1 (grownBy_putObj' _ D (.deferred none)) kept).cell
    have j2 := (box_kept d2 (grownBy_putObj' _ D (.deferred none)) kept).cell
    have hgo : firstO q we = (0, we) := by unfold firstO; rw [← hys, hnil]
    refine ⟨by simp, .inl ⟨_, _, rfl, run_takeDeferred hK', ?_⟩⟩
    refine ⟨.tuple #[.int .i64 0, .int .i64 we], by simp [results, Try.f27, go_sem, j1, j2], by rw [hgo], hB2.trans (belowK_b (w := w) (Nat.le_refl _) _ D _ _ (by omega) hK' rfl rfl)⟩
  case stop =>
    rintro D c pre W hD hpre ⟨⟨rfl, x, rfl, f1, f2⟩, hB⟩ hK
    gi_wp2
    have kept : ∀ r, some D = some r → ∃ o : Obj, W.heap[r]? = some o ∧ o.isCells = false := fun r e => by cases e; exact ⟨_, hK, rfl⟩
    have j1 := (box_kept f1 (grownBy_putObj' _ D (.deferred none)) kept).cell
    have j2 := (box_kept f2 (grownBy_putObj' _ D (.deferred none)) kept).cell
    have hgo : firstO q we = ((x.1 : Int), 0) := by
      obtain ⟨r, hr⟩ := hpre
      unfold firstO
      rw [← hr]
      rfl
    refine ⟨by simp, .inl ⟨_, _, rfl, run_takeDeferred hK, ?_⟩⟩
    refine ⟨.tuple #[.int .i64 x.1, .int .i64 0], by simp [results, Try.f27, go_sem, j1, j2], by rw [hgo], hB.trans (belowK_b (w := w) (Nat.le_refl _) _ D _ _ (by omega) hK rfl rfl)⟩
theorem first_any (B b bx : Nat) (F : FuncId) (cs : Array Value) (hF : ∀ args w, (callFunc F args).run Try.prog w = .ok (.enter F args) w) (s : Sl) (q : Fin 12 → Bool) (we : Int) (w : World) (h : Tb 44 B w b s)
    (hA : ∀ (k : Fin 12) W', CB bx w W' → Calls Try.prog F (#[.agg #[.string (slF s k).1, .int .u8 (slF s k).2.toNat]] ++ cs) W' fun e W'' => e = .returned (.bool (q k)) ∧ Below W'.heap.size W' W'') :
    Calls Try.prog 27 #[.pointer (some ⟨b, 0, none⟩), .func (.func F) #[] cs, .int .i64 we] w fun e W' => e = .returned (.tuple #[.int .i64 (firstO q we).1, .int .i64 (firstO q we).2]) ∧ Below w.heap.size w W' :=
  (callsIn_wide (n := 5)).1 (first_in B b bx F cs hF s q we w h hA 5 (by omega))
theorem hFfind : ∀ args w, (callFunc 28 args).run Try.prog w = .ok (.enter 28 args) w := enters_fn Try.func28 (by kernel_rfl) rfl
def roomO (s : Sl) : Int × Int := firstO (fun k => !(s k).isSome) 4
def findO (s : Sl) (g : Cp) : Int × Int := firstO (fun k => opensB (slF s k).1.data.toList (slF s k).2 g.1.data.toList g.2) 7
theorem slF_size (s : Sl) (k : Fin 12) : (slF s k).1.size ≤ 300 := by
  unfold slF
  cases s k with
  | none => decide
  | some c => exact c.2.2
theorem find_any (B b : Nat) (s : Sl) (g : Cp) (hg : g.1.size ≤ 1000) (w : World) (h : Tb 44 B w b s) : Calls Try.prog 18 #[.pointer (some ⟨b, 0, none⟩), .agg #[.string g.1, .int .u8 g.2.toNat]] w fun r w' => r = .returned (.tuple #[.int .i64 (findO s g).1, .int .i64 (findO s g).2]) ∧ Below w.heap.size w w' := by
  have hX := below_new w (.cells #[.string g.1, .int .u8 g.2.toNat] 27)
  have hT := Two.new w 27 (.string g.1) (.int .u8 g.2.toNat)
  have cF := first_any B b w.heap.size _ #[.pointer (some ⟨w.heap.size, 0, none⟩)] hFfind s (fun k => opensB (slF s k).1.data.toList (slF s k).2 g.1.data.toList g.2) 7 _ (h.below hX) (fun k W' hk => find1_any (slF s k) g w.heap.size W' (Nat.le_trans (slF_size s k) (by omega)) hg (hk.1 _ hT.c0) (hk.2 _ hT.c1))
  unfold findO
  generalize firstO (fun k => opensB (slF s k).1.data.toList (slF s k).2 g.1.data.toList g.2) 7 = o at *
  clear hT h
  go_enter Try.func18, Try.ntmps18
  go_wp2_with fail
  refine cF.mono ?_
  rintro r W ⟨rfl, hB⟩
  have HX : Hid (Below w.heap.size w W) := hX.trans (hB.mono hX.size)
  clear hB cF hX
  go_wp2
  go_ret2
  exact ⟨rfl, HX.out⟩
theorem topens_any (B b : Nat) (s : Sl) (g : Cp) (hg : g.1.size ≤ 1000) (w : World) (h : Tb 44 B w b s) : Calls Try.prog 9 #[.pointer (some ⟨b, 0, none⟩), .agg #[.string g.1, .int .u8 g.2.toNat]] w fun r w' => r = .returned (.bool ((findO s g).2 == 0)) ∧ Below w.heap.size w w' := by
  have hX := below_new w (.cells #[.string g.1, .int .u8 g.2.toNat] 27)
  have cF := find_any B b s g hg _ (h.below hX)
  generalize findO s g = o at *
  clear h hg
  go_enter Try.func9, Try.ntmps9
  go_wp2_with fail
  refine cF.mono ?_
  rintro r W ⟨rfl, hB⟩
  have HX : Hid (Below w.heap.size w W) := hX.trans (hB.mono hX.size)
  clear hB cF hX
  go_wp2
  go_ret
  exact ⟨rfl, HX.out⟩
end Go.Proofs.Ytedknoadcdnioaa
