/- The program's table: none, there, Get, Put, Drop, New. -/
import Derived.Test.YtioinppclejbhaaDoorCaA
import Derived.StillTail
import Derived.StillTactics
import Derived.Lib.QuietBelow
namespace Go.Proofs.YtioinppclejbhaaDoor
open Go.RowKit Go.Maps Go.Sort
set_option linter.unusedVariables false
set_option maxRecDepth 100000
theorem none_any (w : World) : Calls Tryd.prog 40 #[] w fun r w' => r = .returned (.agg #[.string ⟨#[]⟩, .int .u8 0]) ∧ Below w.heap.size w w' := by
  have HB : Hid (Below w.heap.size w (w.alloc (.cells #[.string ⟨#[]⟩, .int .u8 0] 31))) := below_new w _
  go_enter Tryd.func40, Tryd.ntmps40
  go_wp2
  exact bodyPost_ret (v := .agg #[.string ⟨#[]⟩, .int .u8 0]) (by simp [results, Tryd.results40, go_sem]) rfl ⟨rfl, HB.out⟩
theorem there_ok (b : Nat) (k : Fin 12) (w : World) : Calls Tryd.prog 48 #[.pointer (some ⟨b, 0, none⟩), .int .i64 k.1] w fun r w' => r = .returned (.int .i64 0) ∧ w' = w := by
  obtain ⟨k, hk⟩ := k
  have h2 : ¬ (k : Int) < 0 := by omega
  have h3 : ¬ (12 : Int) ≤ (k : Int) := by omega
  go_enter Tryd.func48, Tryd.ntmps48
  go_wp2
  go_ret
  exact ⟨rfl, rfl⟩
theorem there_bad (b : Nat) (k : Int) (w : World) (hb : k < 0 ∨ 12 ≤ k) : Calls Tryd.prog 48 #[.pointer (some ⟨b, 0, none⟩), .int .i64 k] w fun r w' => r = .returned (.int .i64 2) ∧ w' = w := by
  by_cases h2 : k < 0
  · clear hb
    go_enter Tryd.func48, Tryd.ntmps48
    go_wp2
    go_ret
    exact ⟨rfl, rfl⟩
  · have h3 : (12 : Int) ≤ k := by omega
    clear hb
    go_enter Tryd.func48, Tryd.ntmps48
    go_wp2
    go_ret
    exact ⟨rfl, rfl⟩
theorem there_nil (k : Int) (w : World) : Calls Tryd.prog 48 #[.pointer none, .int .i64 k] w fun r w' => r = .returned (.int .i64 1) ∧ w' = w := by
  go_enter Tryd.func48, Tryd.ntmps48
  go_wp2
  go_ret
  exact ⟨rfl, rfl⟩
def getE (o : Option Rc) : Int := if o.isSome then 0 else 5
set_option maxHeartbeats 2000000 in
theorem get_ok (B b : Nat) (s : Sl) (k : Fin 12) (w : World) (h : Tb 71 B w b s) : Calls Tryd.prog 21 #[.pointer (some ⟨b, 0, none⟩), .int .i64 k.1] w fun r w' => r = .returned (.tuple #[cpV (slotC (s k)), .int .i64 (getE (s k))]) ∧ Below w.heap.size w w' := by
  have hX := below_new w (.cells #[.string ⟨#[]⟩, .int .u8 0] 31)
  have hT := Two.new w 31 (.string ⟨#[]⟩) (.int .u8 0)
  have hs : w.heap.size < (w.alloc (.cells #[.string ⟨#[]⟩, .int .u8 0] 31)).heap.size := by simp
  have h0 := h.below hX
  have eG := eqGuardC
  have eM := fun w => eqC w (slotC (s k)).1 ⟨#[]⟩ (slotC (s k)).2.toNat 0
  have e0 : ((slotC (s k)).1.toList == (⟨#[]⟩ : ByteArray).toList && ((slotC (s k)).2.toNat : Int) == 0) = !(s k).isSome := slot_none (s k)
  rw [e0] at eM
  clear e0 h
  have hz : Hid ((s k).isSome = false → (slotC (s k)).1 = ⟨#[]⟩ ∧ ((slotC (s k)).2.toNat : Int) = 0) := by
    cases s k with
    | none => exact fun _ => ⟨rfl, rfl⟩
    | some c => exact fun h => by cases h
  unfold getE cpV
  obtain ⟨⟨c0, c1⟩, f0, f1⟩ := h0.at k
  have hlt := h0.c.lt
  clear h0
  generalize (slotC (s k)).1 = n at *
  generalize ((slotC (s k)).2.toNat : Int) = r at *
  generalize (s k).isSome = z at *
  obtain ⟨k, hk⟩ := k
  simp only at c0 c1 f0 f1 ⊢
  have h2 : (k : Int) < 12 := by omega
  have cT := fun w => there_ok b ⟨k, hk⟩ w
  go_enter Tryd.func21, Tryd.ntmps21
  go_wp2_with fail
  generalize (w.alloc (.cells #[.string ⟨#[]⟩, .int .u8 0] 31)) = W0 at *
  refine (cT W0).mono ?_
  rintro r W ⟨rfl, rfl⟩
  have g0 := fun d os => cell_regrown c0 d os
  have g1 := fun d os => cell_regrown c1 d os
  have dN := fun d os => Calls.regrown_of (none_any (grow (redrawn W d) os))
  go_wp2_with fail
  refine wp_region_quiet_below (by kernel_rfl) (by kernel_rfl) ?_
  repeat (quiet_step (exact dN _ _))
  refine wpQuiet_nil ?_
  intro _ hw'
  obtain ⟨⟨dq, osq⟩, hw''⟩ := hw'
  subst hw''
  have hR := below_regrown W dq osq
  have x0 := g0 dq osq
  have x1 := g1 dq osq
  clear g0 g1 dN c0 c1 f0 f1 eM eG
  generalize grow (redrawn W dq) osq = W1 at *
  have hT1 := hT.below hR hs
  have HX1 : Hid (Below w.heap.size w W1) := hX.trans (hR.mono hX.size)
  have hs1 : w.heap.size < W1.heap.size := Nat.lt_of_lt_of_le hs hR.size
  clear hX hR hT hs hlt
  cases z with
  | false =>
    obtain ⟨hn, hr⟩ := hz.out rfl
    clear x0 x1 hz
    subst hn
    subst hr
    go_wp2_with fail
    refine (none_any W1).mono ?_
    rintro r W2 ⟨rfl, hB2⟩
    have hT2 := hT1.below hB2 hs1
    have HX2 : Hid (Below w.heap.size w W2) := HX1.out.trans (hB2.mono HX1.out.size)
    clear hT1 hB2 hs1
    have y0 := hT2.f 0
    have y1 := hT2.f 1
    have y2 := hT2.c0
    have y3 := hT2.c1
    have z0 := (hT2.set0 (.string ⟨#[]⟩)).c1
    have z1 := (hT2.set0 (.string ⟨#[]⟩)).f 1
    go_wp2
    have hT3 := (hT2.set0 (.string ⟨#[]⟩)).set1 (.int .u8 0)
    exact bodyPost_ret (v := .tuple #[.agg #[.string ⟨#[]⟩, .int .u8 0], .int .i64 5]) (by simp [results, Tryd.results21, go_sem, hT3.c0, hT3.c1]) rfl ⟨rfl, Below.set2 HX2.out (Nat.le_refl _) _ _⟩
  | true =>
    clear hz
    have y0 := hT1.f 0
    have y1 := hT1.f 1
    have y2 := hT1.c0
    have y3 := hT1.c1
    have z0 := (hT1.set0 (.string n)).c1
    have z1 := (hT1.set0 (.string n)).f 1
    go_wp2
    have hT3 := (hT1.set0 (.string n)).set1 (.int .u8 r)
    exact bodyPost_ret (v := .tuple #[.agg #[.string n, .int .u8 r], .int .i64 0]) (by simp [results, Tryd.results21, go_sem, hT3.c0, hT3.c1]) rfl ⟨rfl, Below.set2 HX1.out (Nat.le_refl _) _ _⟩
set_option maxHeartbeats 2000000 in
theorem get_off (p : Value) (k e : Int) (he : (e == 0) = false) (w : World) (hT : ∀ w, Calls Tryd.prog 48 #[p, .int .i64 k] w fun r w' => r = .returned (.int .i64 e) ∧ w' = w) : Calls Tryd.prog 21 #[p, .int .i64 k] w fun r w' => r = .returned (.tuple #[.agg #[.string ⟨#[]⟩, .int .u8 0], .int .i64 e]) ∧ Below w.heap.size w w' := by
  have hX := below_new w (.cells #[.string ⟨#[]⟩, .int .u8 0] 31)
  have hT := Two.new w 31 (.string ⟨#[]⟩) (.int .u8 0)
  have hs : w.heap.size < (w.alloc (.cells #[.string ⟨#[]⟩, .int .u8 0] 31)).heap.size := by simp
  rename_i hC
  go_enter Tryd.func21, Tryd.ntmps21
  go_wp2_with fail
  generalize (w.alloc (.cells #[.string ⟨#[]⟩, .int .u8 0] 31)) = W0 at *
  refine (hC W0).mono ?_
  rintro r W ⟨rfl, rfl⟩
  go_wp2_with fail
  refine (none_any W).mono ?_
  rintro r W2 ⟨rfl, hB2⟩
  have hT2 := hT.below hB2 hs
  have HX2 : Hid (Below w.heap.size w W2) := hX.trans (hB2.mono hX.size)
  clear hX hT hB2 hs hC
  have y0 := hT2.f 0
  have y1 := hT2.f 1
  have y2 := hT2.c0
  have y3 := hT2.c1
  have z0 := (hT2.set0 (.string ⟨#[]⟩)).c1
  have z1 := (hT2.set0 (.string ⟨#[]⟩)).f 1
  go_wp2
  have hT3 := (hT2.set0 (.string ⟨#[]⟩)).set1 (.int .u8 0)
  exact bodyPost_ret (v := .tuple #[.agg #[.string ⟨#[]⟩, .int .u8 0], .int .i64 e]) (by simp [results, Tryd.results21, go_sem, hT3.c0, hT3.c1]) rfl ⟨rfl, Below.set2 HX2.out (Nat.le_refl _) _ _⟩
end Go.Proofs.YtioinppclejbhaaDoor
