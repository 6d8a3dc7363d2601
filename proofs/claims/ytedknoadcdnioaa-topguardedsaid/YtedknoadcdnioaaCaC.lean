/- The program's table: Put, New. -/
import Derived.Test.YtedknoadcdnioaaCaB
namespace Go.Proofs.Ytedknoadcdnioaa
open Go.RowKit Go.Maps Go.Sort
set_option linter.unusedVariables false
set_option maxRecDepth 100000
theorem put_off (p : Value) (k e : Int) (c : Cp) (he : (e == 0) = false) (w : World) (hC : ∀ w, Calls Try.prog 15 #[p, .int .i64 k] w fun r w' => r = .returned (.int .i64 e) ∧ w' = w) : Calls Try.prog 7 #[p, .int .i64 k, cpV c] w fun r w' => r = .returned (.int .i64 e) ∧ Below w.heap.size w w' := by
  unfold cpV
  have hX : Hid (Below w.heap.size w (w.alloc (.cells #[.string c.1, .int .u8 c.2.toNat] 27))) := below_new w _
  go_enter Try.func7, Try.ntmps7
  go_wp2_with fail
  refine (hC _).mono ?_
  rintro r W ⟨rfl, rfl⟩
  clear hC
  go_wp2
  go_ret
  exact ⟨rfl, hX.out⟩
set_option maxHeartbeats 2000000 in
theorem put_wrong (b : Nat) (k : Fin 12) (c : Cp) (w : World) (hc : rightB c.1.data.toList c.2.toNat = false) (hn : c.1.size ≤ 1000) : Calls Try.prog 7 #[.pointer (some ⟨b, 0, none⟩), .int .i64 k.1, cpV c] w fun r w' => r = .returned (.int .i64 3) ∧ Below w.heap.size w w' := by
  unfold cpV
  have hX := below_new w (.cells #[.string c.1, .int .u8 c.2.toNat] 27)
  have hT := Two.new w 27 (.string c.1) (.int .u8 c.2.toNat)
  have cT := fun w => there_ok b k w
  have cR := fun w => right_any c.1 c.2.toNat w hn
  unfold capV at cR
  rw [hc] at cR
  clear hc hn
  obtain ⟨n, r⟩ := c
  simp only at *
  generalize (r.toNat : Int) = r at *
  go_enter Try.func7, Try.ntmps7
  go_wp2_with fail
  generalize (w.alloc (.cells #[.string n, .int .u8 r] 27)) = W0 at *
  refine (cT W0).mono ?_
  rintro e W ⟨rfl, rfl⟩
  clear cT
  have y2 := hT.c0
  have y3 := hT.c1
  go_wp2_with fail
  refine (cR W).mono ?_
  rintro e W1 ⟨rfl, hB⟩
  have HX : Hid (Below w.heap.size w W1) := hX.trans (hB.mono hX.size)
  clear cR y2 y3 hX hT hB
  go_wp2
  go_ret
  exact ⟨rfl, HX.out⟩
def putE (s : Sl) (k : Fin 12) : Int := if (s k).isSome then 6 else 0
def putS (s : Sl) (k : Fin 12) (c : Rc) : Sl := if (s k).isSome then s else upd s k (some c)
set_option maxHeartbeats 4000000 in
theorem put_right (B b : Nat) (s : Sl) (k : Fin 12) (c : Rc) (w : World) (h : Tb 44 B w b s) : Calls Try.prog 7 #[.pointer (some ⟨b, 0, none⟩), .int .i64 k.1, cpV c.1] w fun r w' => r = .returned (.int .i64 (putE s k)) ∧ TStp 44 B w w' b (putS s k c) := by
  have hX := below_new w (.cells #[.string c.1.1, .int .u8 c.1.2.toNat] 27)
  have hT := Two.new w 27 (.string c.1.1) (.int .u8 c.1.2.toNat)
  have hs : w.heap.size < (w.alloc (.cells #[.string c.1.1, .int .u8 c.1.2.toNat] 27)).heap.size := by simp
  have hne : b ≠ w.heap.size := Nat.ne_of_lt h.c.lt
  have h0 := h.below hX
  have cT := fun w => there_ok b k w
  have cR := fun w => right_any c.1.1 c.1.2.toNat w (by have := c.2.2; omega)
  rw [c.2.1] at cR
  unfold capV at cR
  have eG := eqGuardC
  have eM := fun w => eqC w (slotC (s k)).1 ⟨#[]⟩ (slotC (s k)).2.toNat 0
  have e0 : ((slotC (s k)).1.toList == (⟨#[]⟩ : ByteArray).toList && ((slotC (s k)).2.toNat : Int) == 0) = !(s k).isSome := slot_none (s k)
  rw [e0] at eM
  have HS : Hid (∀ W, Below w.heap.size w W → Tb 44 B W b s → TStp 44 B w ((W.setCell ⟨b, k.1 * 2, none⟩ (.string c.1.1)).setCell ⟨b, k.1 * 2 + 1, none⟩ (.int .u8 c.1.2.toNat)).drew b (upd s k (some c))) := fun W hB hW => ((TStp.slot hW k (some c)).pre hB).drew
  have HK : Hid (∀ W, Below w.heap.size w W → TStp 44 B w W b s) := fun W hB => TStp.same h hB
  have HA : Hid (∀ W, Tb 44 B W b s → (W.cell? ⟨b, k.1 * 2, none⟩ = some (.string (slotC (s k)).1) ∧ W.cell? ⟨b, k.1 * 2 + 1, none⟩ = some (.int .u8 (slotC (s k)).2.toNat)) ∧ (W.frozen? ⟨b, k.1 * 2, none⟩ = false ∧ W.frozen? ⟨b, k.1 * 2 + 1, none⟩ = false)) := fun W hW => hW.at k
  clear e0 h
  unfold putE putS cpV
  generalize (slotC (s k)).1 = n at *
  generalize ((slotC (s k)).2.toNat : Int) = r at *
  generalize (s k).isSome = z at *
  generalize c.1.1 = cn at *
  generalize (c.1.2.toNat : Int) = cr at *
  obtain ⟨k, hk⟩ := k
  simp only at *
  have h2 : (k : Int) < 12 := by omega
  generalize hup : upd s ⟨k, hk⟩ (some c) = s' at *
  clear hup
  go_enter Try.func7, Try.ntmps7
  go_wp2_with fail
  generalize (w.alloc (.cells #[.string cn, .int .u8 cr] 27)) = W0 at *
  refine (cT W0).mono ?_
  rintro e W ⟨rfl, rfl⟩
  clear cT
  have y2 := hT.c0
  have y3 := hT.c1
  go_wp2_with fail
  refine (cR W).mono ?_
  rintro e W1 ⟨rfl, hB⟩
  have hX1 := hX.trans (hB.mono hX.size)
  have h1 := h0.below hB
  have hT1 := hT.below hB hs
  have hs1 : w.heap.size < W1.heap.size := Nat.lt_of_lt_of_le hs hB.size
  clear cR y2 y3 hX hT hB h0 hs
  obtain ⟨⟨c0, c1⟩, f0, f1⟩ := HA.out W1 h1
  have g0 := fun d os => cell_regrown c0 d os
  have g1 := fun d os => cell_regrown c1 d os
  have dN := fun d os => Calls.regrown_of (none_any (grow (redrawn W1 d) os))
  go_wp2_with fail
  refine wp_region_quiet_below (by kernel_rfl) (by kernel_rfl) ?_
  repeat (quiet_step (exact dN _ _))
  refine wpQuiet_nil ?_
  intro _ hw'
  obtain ⟨⟨dq, osq⟩, hw''⟩ := hw'
  subst hw''
  have hR := below_regrown W1 dq osq
  clear g0 g1 dN c0 c1 f0 f1 eM eG
  generalize grow (redrawn W1 dq) osq = W2 at *
  have hX2 := hX1.trans (hR.mono hX1.size)
  have h3 := h1.below hR
  have hT2 := hT1.below hR hs1
  clear hX1 h1 hT1 hR hs1
  cases z with
  | true =>
    have HQ : Hid (TStp 44 B w W2 b s) := HK.out W2 hX2
    clear hX2 h3 hT2 HS HK HA hne
    go_wp2
    go_ret
    exact ⟨rfl, HQ.out⟩
  | false =>
    have HQ := HS.out W2 hX2 h3
    have HQ' : Hid (TStp 44 B w ((W2.setCell ⟨b, k * 2, none⟩ (.string cn)).setCell ⟨b, k * 2 + 1, none⟩ (.int .u8 cr)).drew b s') := HQ
    obtain ⟨⟨c0, c1⟩, f0, f1⟩ := HA.out W2 h3
    have hlt := h3.c.lt
    have y2 := hT2.c0
    have y3 := hT2.c1
    clear HQ HS HK HA hX2 h3 hT2
    go_wp2
    go_region
    go_wp2
    go_ret
    exact ⟨rfl, HQ'.out⟩
theorem new_any (w : World) (B : Nat) (hB : B ≤ w.heap.size) : Calls Try.prog 5 #[] w fun r w' => r = .returned (.pointer (some ⟨w.heap.size, 0, none⟩)) ∧ Tb 44 B w' w.heap.size (fun _ => none) ∧ Below w.heap.size w w' := by
  have H : Hid (Tb 44 B (w.alloc (.cells (csCs (slF fun _ => none)).toArray 44)) w.heap.size (fun _ => none) ∧ Below w.heap.size w (w.alloc (.cells (csCs (slF fun _ => none)).toArray 44))) := ⟨⟨hB, Cl.new w _ _⟩, below_new w _⟩
  go_enter Try.func5, Try.ntmps5
  go_wp2
  go_ret
  exact ⟨rfl, H.out⟩
end Go.Proofs.Ytedknoadcdnioaa
