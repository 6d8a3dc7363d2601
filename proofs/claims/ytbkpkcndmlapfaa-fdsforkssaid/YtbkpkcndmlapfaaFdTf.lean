/- Copy, of both tables: the walks. -/
import Derived.Test.YtbkpkcndmlapfaaFdTe
namespace Go.Proofs.Ytbkpkcndmlapfaa
open Go.RowKit Go.Maps
set_option linter.unusedVariables false
set_option maxRecDepth 100000
theorem idx6 (v0 v1 v2 v3 v4 v5 : Value) : ∀ (p : Fin 6) (w : World), (Instr.index 71 (.agg #[v0, v1, v2, v3, v4, v5]) (.int .i64 ((p.1 : Nat) : Int))).run Try.prog w = .ok ([v0, v1, v2, v3, v4, v5].getD p.1 v0) w :=
  all6 (fun _ => by kernel_rfl) (fun _ => by kernel_rfl) (fun _ => by kernel_rfl) (fun _ => by kernel_rfl) (fun _ => by kernel_rfl) (fun _ => by kernel_rfl)
theorem tCs_getD (h : Fin 6 → Bool) (r : Fin 6 → Nat) (v : Value) : ∀ p : Fin 6, (tCs h r).getD p.1 v = ptr (h p) (r p) := all6 rfl rfl rfl rfl rfl rfl
theorem own_base {w : World} {B B' t size n : Nat} {v : Value} {xs : List Value} (h : w.ownsRow B t size v n xs) (hB : B' ≤ B) : w.ownsRow B' t size v n xs :=
  ⟨h.1, h.2.imp id (fun ⟨g, cap, cur, e1, e2, e3⟩ => ⟨g, cap, cur, e1, Nat.le_trans hB e2, e3⟩)⟩
set_option maxHeartbeats 2000000 in
theorem copy_any (B : Nat) (L : Lo) (s : Fs) (w : World) (h : Ft B w L s) : Calls Try.prog 24 #[.pointer (some ⟨L.t, 0, none⟩)] w fun r w' => ∃ L2, r = .returned (.pointer (some ⟨L2.t, 0, none⟩)) ∧ Ft w.heap.size w' L2 s ∧ (∀ k, XF L2 s k → w.heap.size ≤ k) ∧ Below w.heap.size w w' := by
  have cN := new_any w
  have hX : ∀ i, XF L s i → i < w.heap.size := fun i hi => (h.x hi).2.1
  have HH := Hid3.mk h
  have HXX := Hid3.mk hX
  have hlt := h.lt
  clear h hX
  go_enter Try.func24, Try.ntmps24
  go_wp2_with fail
  refine cN.mono ?_
  rintro r W0 ⟨rfl, ⟨L0, eL0, hF0, _⟩, hB0⟩
  have cT := twins_any W0
  have hFt := HH.out.below hB0
  have hBt : Below W0.heap.size W0 ((W0.alloc (.cells #[.slice none 0 0] 88)).alloc (.cells #[.slice none 0 0] 88)) := ((Below.refl _ _).alloc (Nat.le_refl _) _).alloc (by simp) _
  obtain ⟨V0, hV0⟩ : ∃ V0, (W0.alloc (.cells #[.slice none 0 0] 88)).alloc (.cells #[.slice none 0 0] 88) = V0 := ⟨_, rfl⟩
  have hTw := twins_tw L s W0
  have hI0 : CcI w.heap.size L s w V0 w.heap.size W0.heap.size (W0.heap.size + 1) (fun _ => 0) [] 0 := by
    have ht := hF0.t
    rw [eL0] at ht
    rw [hV0] at hBt hTw
    refine ⟨⟨hTw.rows.elim fun sv hs => hs.elim fun mv hm => ⟨sv, mv, hm.1, hm.2.1, own_base hm.2.2.1 hB0.size, own_base hm.2.2.2.1 hB0.size, hm.2.2.2.2⟩, hTw.nb, Nat.le_trans hB0.size hTw.g1, Nat.le_trans hB0.size hTw.g2, fun x hx => (by cases hx), List.nodup_nil, List.nodup_nil, Nat.zero_le _⟩, ht.below hBt, Nat.le_refl _, fun q hq => absurd hq (by omega), fun q q' hq => absurd hq (by omega), hB0.trans (hBt.mono hB0.size), Nat.zero_le _⟩
  have hsz : w.heap.size ≠ W0.heap.size ∧ w.heap.size ≠ W0.heap.size + 1 := by
    have := hF0.lt
    rw [eL0] at this
    omega
  rw [hV0] at cT
  have HI0 := Hid3.mk hI0
  have c0 := fun q => (HH.out.lo hI0.bl HXX.out).at q
  have t0 := c0 0
  have t1 := c0 1
  have t2 := c0 2
  have t3 := c0 3
  have t4 := c0 4
  have t5 := c0 5
  have lV : L.t < V0.heap.size := Nat.lt_of_lt_of_le hlt hI0.bl.size
  have HSz := Hid3.mk hsz
  clear cN hF0 eL0 hB0 hFt hBt hTw hI0 hsz hV0 c0
  generalize W0.heap.size = b1 at *
  change V0.cell? ⟨L.t, 0, none⟩ = _ at t0
  change V0.cell? ⟨L.t, 1, none⟩ = _ at t1
  change V0.cell? ⟨L.t, 2, none⟩ = _ at t2
  change V0.cell? ⟨L.t, 3, none⟩ = _ at t3
  change V0.cell? ⟨L.t, 4, none⟩ = _ at t4
  change V0.cell? ⟨L.t, 5, none⟩ = _ at t5
  have hix := idx6 (ptr (s.has 0) (L.r 0)) (ptr (s.has 1) (L.r 1)) (ptr (s.has 2) (L.r 2)) (ptr (s.has 3) (L.r 3)) (ptr (s.has 4) (L.r 4)) (ptr (s.has 5) (L.r 5))
  have HIX : Hid3 (∀ (p : Fin 6) (w : World), (Instr.index 71 (.agg #[ptr (s.has 0) (L.r 0), ptr (s.has 1) (L.r 1), ptr (s.has 2) (L.r 2), ptr (s.has 3) (L.r 3), ptr (s.has 4) (L.r 4), ptr (s.has 5) (L.r 5)]) (.int .i64 ((p.1 : Nat) : Int))).run Try.prog w = .ok (ptr (s.has p) (L.r p)) w) := ⟨fun p w => by
    rw [hix p w]
    congr 1
    exact tCs_getD s.has L.r _ p⟩
  clear hix
  generalize ptr (s.has 0) (L.r 0) = v0 at *
  generalize ptr (s.has 1) (L.r 1) = v1 at *
  generalize ptr (s.has 2) (L.r 2) = v2 at *
  generalize ptr (s.has 3) (L.r 3) = v3 at *
  generalize ptr (s.has 4) (L.r 4) = v4 at *
  generalize ptr (s.has 5) (L.r 5) = v5 at *
  go_wp2_with fail
  refine cT.mono ?_
  rintro r W1 ⟨rfl, hW1⟩
  rw [hW1]
  clear cT hW1
  go_wp2
  go_loopw [15] (fun i V => ∃ (P : Nat) (r2 : Fin 6 → Nat) (ps : List (Nat × Nat)), i = .int .i64 P ∧ P ≤ 6 ∧ Hid3 (CcI w.heap.size L s w V w.heap.size b1 (b1 + 1) r2 ps P)) (fun i _ => 6 - (intOf i).toNat)
  case atStart => exact ⟨0, _, _, rfl, Nat.zero_le _, HI0⟩
  case round =>
    obtain ⟨P, r2, ps, rfl, hP, HI⟩ := hrel
    by_cases hP6 : P < 6
    · have hPz : (P : Int) < 6 := by omega
      have hidx := HIX.out ⟨P, hP6⟩ wr
      simp only at hidx
      cases hh : s.has ⟨P, hP6⟩ with
      | false =>
        rw [hh] at hidx
        simp only [ptr] at hidx
        have HI2 := Hid3.mk (HI.out.skip hP6 hh)
        clear hh
        go_wp2
        go_roundw
        case rel => exact ⟨P + 1, r2, ps, by go_num, by omega, HI2⟩
        case measure => simp [intOf]; omega
      | true =>
        rw [hh] at hidx
        simp only [ptr] at hidx
        have hFw := HH.out.lo HI.out.bl HXX.out
        have cC := copied_twin w.heap.size B L s ⟨P, hP6⟩ wr.drew b1 (b1 + 1) ps (HI.out.tw.low (Below.refl _ _).drew) (hFw.below (Below.refl _ _).drew) HXX.out HI.out.bl.size hh (by have := HI.out.len; omega)
        have HNX : Hid3 (∀ V', (∃ ps', CtI w.heap.size L s ⟨P, hP6⟩ wr.drew V' b1 (b1 + 1) ps ps' 8) → ∃ r3 ps', (∃ u, V'.cell? ⟨w.heap.size, P, none⟩ = some u) ∧ V'.frozen? ⟨w.heap.size, P, none⟩ = false ∧ w.heap.size < V'.heap.size ∧ CcI w.heap.size L s w (V'.setCell ⟨w.heap.size, P, none⟩ (.pointer (some ⟨wr.heap.size, 0, none⟩))) w.heap.size b1 (b1 + 1) r3 ps' (P + 1)) := ⟨fun V' ⟨ps', T⟩ => by
          have T' : CtI w.heap.size L s ⟨P, hP6⟩ wr V' b1 (b1 + 1) ps ps' 8 := ⟨T.tw, T.row, T.sn, T.pre, ⟨T.bl.os, T.bl.tape, T.bl.output, T.bl.size, T.bl.block⟩, T.kp, T.len⟩
          obtain ⟨ht, hI⟩ := HI.out.next (Nat.le_refl _) hP6 hh HSz.out T'
          exact ⟨_, ps', ⟨_, (ht.cell P).trans (tCs_at _ _ ⟨P, hP6⟩)⟩, ht.thaw P, ht.lt, hI⟩⟩
        clear hh hFw
        go_wp2_with fail
        go_region_with (go_at_call 39; refine cC.mono ?_; rintro r W2 ⟨rfl, hT⟩; obtain ⟨r3, ps', ⟨u, cu⟩, fu, lu, hI⟩ := HNX.out W2 hT; have HI2 := Hid3.mk hI; clear hI hT)
        all_goals
          go_wp2
          go_roundw
          case rel => exact ⟨P + 1, _, _, by go_num, by omega, HI2⟩
          case measure => simp [intOf]; omega
    · have hPz : ¬ (P : Int) < 6 := by omega
      obtain rfl : P = 6 := by omega
      have HFin := Hid3.mk (And.intro (HI.out.fin HH.out.b.ok) HI.out.bl)
      go_wp2
      go_ret
      exact ⟨⟨w.heap.size, r2, o2 ps⟩, rfl, HFin.out.1.1, HFin.out.1.2, HFin.out.2⟩
end Go.Proofs.Ytbkpkcndmlapfaa
