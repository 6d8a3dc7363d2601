/- The document's pool: Owners, Frames, Room. -/
import Derived.Test.YtalhlbhhgddddaaDoorPlT
namespace Go.Proofs.YtalhlbhhgddddaaDoor
open Go.RowKit Go.Maps
set_option linter.unusedVariables false
set_option maxRecDepth 100000
theorem infoU1 : (Tryd.prog.info? 5).map (fun i => (i.zero, i.size, i.bytes)) = some (some (.int .u8 0), 1, 1) := by kernel_rfl
theorem info_parts1 {t : TypeId} {z : Value} {s b : Nat} (h : (Tryd.prog.info? t).map (fun i => (i.zero, i.size, i.bytes)) = some (some z, s, b)) : ∃ i, Tryd.prog.info? t = some i ∧ i.zero = some z ∧ i.size = s ∧ i.bytes = b := by
  cases hi : Tryd.prog.info? t with
  | none => rw [hi] at h; cases h
  | some i =>
    rw [hi] at h
    simp only [Option.map_some, Option.some.injEq, Prod.mk.injEq] at h
    exact ⟨i, rfl, h.1, h.2.1, h.2.2⟩
theorem filt_snoc (p : Nat → Bool) (k : Nat) : (List.range (k + 1)).filter p = (List.range k).filter p ++ (if p k then [k] else []) := by
  rw [List.range_succ, List.filter_append]
  simp only [List.filter_cons, List.filter_nil]
theorem filt_len (p : Nat → Bool) (k : Nat) : ((List.range k).filter p).length ≤ k := by
  have := List.length_filter_le p (List.range k)
  rwa [List.length_range] at this
/-- A row of numbers that is read alone. -/
structure NR (w w' : World) (v : Value) (L : List Nat) : Prop where
  own : w'.ownsRow w.heap.size 5 1 v L.length (L.map u8V)
  bl : Below w.heap.size w w'
set_option maxHeartbeats 4000000 in
theorem rowners_in (B b : Nat) (v : Value) (q : Ps) (f : Nat) (w : World) (h : Rl B w b v q) (hf : f < 8) : Calls Tryd.prog 32 #[.pointer (some ⟨b, 0, none⟩), .int .u8 f] w fun r w' => ∃ u, r = .returned u ∧ NR w w' u ((List.range 6).filter (fun i => (q.O f).testBit i)) := by
  have HV := Hid3.mk h
  have hb := h.c.l
  obtain ⟨i0, hi, hz0, hz1, hz2⟩ := info_parts1 infoU1
  clear h
  go_enter Tryd.func32, Tryd.ntmps32
  go_wp2_with fail
  go_loopw [5, 6] (fun s5 s6 wr => ∃ k : Nat, k ≤ 6 ∧ s6 = .int .u8 k ∧ wr.ownsRow w.heap.size 5 1 s5 ((List.range k).filter (fun i => (q.O f).testBit i)).length (((List.range k).filter (fun i => (q.O f).testBit i)).map u8V) ∧ Hid3 (Below w.heap.size w wr)) (fun _ s _ => 7 - (intOf s).toNat)
  case atStart => exact ⟨0, Nat.zero_le _, rfl, World.ownsRow_nil _ _ _ _, ⟨Below.refl _ _⟩⟩
  case round =>
    obtain ⟨k, hk, rfl, hown, HB⟩ := hrel
    have hsz := HB.out.size
    have cM := may_any b v q k f (by omega) wr (HV.out.low HB.out).c
    by_cases hlt : k < 6
    · have hltz : (k : Int) < 6 := by omega
      rw [thE_ok hlt hf] at cM
      have HN := Hid3.mk (filt_snoc (fun i => (q.O f).testBit i) k)
      have hlen := filt_len (fun i => (q.O f).testBit i) k
      have ch := (HV.out.low HB.out).c.ch f hf k hlt
      have HZ : Hid3 ((q.O f).testBit k = (q.O f).testBit k) := ⟨rfl⟩
      obtain ⟨z, hzz⟩ : ∃ z, z = (q.O f).testBit k := ⟨_, rfl⟩
      rw [← hzz] at ch HZ
      have HZ : Hid3 ((q.O f).testBit k = z) := ⟨hzz.symm⟩
      clear hzz
      generalize hx : (List.range (k + 1)).filter (fun i => (q.O f).testBit i) = N1 at *
      generalize (List.range k).filter (fun i => (q.O f).testBit i) = N0 at *
      obtain ⟨a0, cap0, hvf⟩ : ∃ a cap, u5 = .slice a N0.length cap := by
        rcases hown.2 with ⟨hv0, hk0⟩ | ⟨g, cap, cur, hv0, _⟩
        · exact ⟨none, 0, by rw [hk0]; exact hv0⟩
        · exact ⟨_, _, hv0⟩
      subst hvf
      have HX := Hid3.mk hx
      clear hx
      cases hz : z with
      | true =>
        subst hz
        have HN2 : Hid3 (N1 = N0 ++ [k]) := ⟨by rw [HN.out]; first | rfl | (rw [if_pos HZ.out]) ⟩
        clear HN
        go_wp2_with fail
        refine cM.mono ?_
        rintro r W0 ⟨rfl, hW⟩
        rw [hW]
        clear cM hW
        obtain ⟨W, hWW⟩ : ∃ W, W = wr := ⟨_, rfl⟩
        have hownW : W.ownsRow w.heap.size 5 1 (.slice a0 N0.length cap0) N0.length (N0.map u8V) := by rw [hWW]; exact hown
        have HBW : Hid3 (Below w.heap.size w W) := ⟨by rw [hWW]; exact HB.out⟩
        have hszW := HBW.out.size
        rw [← hWW]
        rw [← hWW] at ch
        clear hown HB hsz hWW
        go_wp2_with (at_builtin; refine wpList_append_own _ rfl _ _ 38 rfl w.heap.size 5 i0 (.int .u8 0) 1 1 Tryd.underlying38 hi hz0 hz1 hz2 rfl (by decide) _ _ _ rfl (hownW.alloc _) ⟨W.heap.size, 0, none⟩ 1 1 [u8V k] rfl rfl (cell_one_new _ _ _) (by simp [u8V, Value.oneCell']) (by unfold maxLen; omega) (by omega) (by simp; omega) ?_; intro v' w1 hown' hgrow _; obtain ⟨g', cap', rfl⟩ := ownsRow_succ hown')
        go_roundw
        case rel => exact ⟨k + 1, by omega, by go_num, by rw [HX.out, HN2.out, List.length_append, List.map_append]; exact hown', ⟨(HBW.out.alloc HBW.out.size _).grown hgrow (by have := HBW.out.size; simp; omega) (fun j ej => (hownW.lt j ej).1)⟩⟩
        case measure => simp [intOf]; omega
      | false =>
        subst hz
        have HN2 : Hid3 (N1 = N0) := ⟨by rw [HN.out]; first | (exact List.append_nil _) | (rw [if_neg (by rw [HZ.out]; decide), List.append_nil])⟩
        clear HN
        go_wp2_with fail
        refine cM.mono ?_
        rintro r W0 ⟨rfl, hW⟩
        rw [hW]
        clear cM hW
        obtain ⟨W, hWW⟩ : ∃ W, W = wr := ⟨_, rfl⟩
        have hownW : W.ownsRow w.heap.size 5 1 (.slice a0 N0.length cap0) N0.length (N0.map u8V) := by rw [hWW]; exact hown
        have HBW : Hid3 (Below w.heap.size w W) := ⟨by rw [hWW]; exact HB.out⟩
        have hszW := HBW.out.size
        rw [← hWW]
        rw [← hWW] at ch
        clear hown HB hsz hWW
        go_wp2
        go_roundw
        case rel => exact ⟨k + 1, by omega, by go_num, by rw [HX.out, HN2.out]; exact hownW, HBW⟩
        case measure => simp [intOf]; omega
    · obtain rfl : k = 6 := by omega
      rw [thE_bad (.inl (Nat.le_refl _))] at cM
      go_wp2_with fail
      refine cM.mono ?_
      rintro r W0 ⟨rfl, hW⟩
      rw [hW]
      clear cM hW
      go_wp2
      go_ret
      exact ⟨_, rfl, hown, HB.out⟩
set_option maxHeartbeats 4000000 in
theorem rframes_in (B b : Nat) (v : Value) (q : Ps) (e : Nat) (w : World) (h : Rl B w b v q) (he : e < 6) : Calls Tryd.prog 33 #[.pointer (some ⟨b, 0, none⟩), .int .u8 e] w fun r w' => ∃ u, r = .returned u ∧ NR w w' u ((List.range 8).filter (fun i => (q.O i).testBit e)) := by
  have HV := Hid3.mk h
  have hb := h.c.l
  obtain ⟨i0, hi, hz0, hz1, hz2⟩ := info_parts1 infoU1
  clear h
  go_enter Tryd.func33, Tryd.ntmps33
  go_wp2_with fail
  go_loopw [5, 6] (fun s5 s6 wr => ∃ k : Nat, k ≤ 8 ∧ s6 = .int .u8 k ∧ wr.ownsRow w.heap.size 5 1 s5 ((List.range k).filter (fun i => (q.O i).testBit e)).length (((List.range k).filter (fun i => (q.O i).testBit e)).map u8V) ∧ Hid3 (Below w.heap.size w wr)) (fun _ s _ => 9 - (intOf s).toNat)
  case atStart => exact ⟨0, Nat.zero_le _, rfl, World.ownsRow_nil _ _ _ _, ⟨Below.refl _ _⟩⟩
  case round =>
    obtain ⟨k, hk, rfl, hown, HB⟩ := hrel
    have hsz := HB.out.size
    have cM := may_any b v q e k (by omega) wr (HV.out.low HB.out).c
    by_cases hlt : k < 8
    · have hltz : (k : Int) < 8 := by omega
      rw [thE_ok he hlt] at cM
      have HN := Hid3.mk (filt_snoc (fun i => (q.O i).testBit e) k)
      have hlen := filt_len (fun i => (q.O i).testBit e) k
      have ch := (HV.out.low HB.out).c.ch k hlt e he
      obtain ⟨z, hzz⟩ : ∃ z, z = (q.O k).testBit e := ⟨_, rfl⟩
      rw [← hzz] at ch
      have HZ : Hid3 ((q.O k).testBit e = z) := ⟨hzz.symm⟩
      clear hzz
      generalize hx : (List.range (k + 1)).filter (fun i => (q.O i).testBit e) = N1 at *
      generalize (List.range k).filter (fun i => (q.O i).testBit e) = N0 at *
      obtain ⟨a0, cap0, hvf⟩ : ∃ a cap, u5 = .slice a N0.length cap := by
        rcases hown.2 with ⟨hv0, hk0⟩ | ⟨g, cap, cur, hv0, _⟩
        · exact ⟨none, 0, by rw [hk0]; exact hv0⟩
        · exact ⟨_, _, hv0⟩
      subst hvf
      have HX := Hid3.mk hx
      clear hx
      cases hz : z with
      | true =>
        subst hz
        have HN2 : Hid3 (N1 = N0 ++ [k]) := ⟨by rw [HN.out]; first | rfl | (rw [if_pos HZ.out]) ⟩
        clear HN
        go_wp2_with fail
        refine cM.mono ?_
        rintro r W0 ⟨rfl, hW⟩
        rw [hW]
        clear cM hW
        obtain ⟨W, hWW⟩ : ∃ W, W = wr := ⟨_, rfl⟩
        have hownW : W.ownsRow w.heap.size 5 1 (.slice a0 N0.length cap0) N0.length (N0.map u8V) := by rw [hWW]; exact hown
        have HBW : Hid3 (Below w.heap.size w W) := ⟨by rw [hWW]; exact HB.out⟩
        have hszW := HBW.out.size
        rw [← hWW]
        rw [← hWW] at ch
        clear hown HB hsz hWW
        go_wp2_with (at_builtin; refine wpList_append_own _ rfl _ _ 38 rfl w.heap.size 5 i0 (.int .u8 0) 1 1 Tryd.underlying38 hi hz0 hz1 hz2 rfl (by decide) _ _ _ rfl (hownW.alloc _) ⟨W.heap.size, 0, none⟩ 1 1 [u8V k] rfl rfl (cell_one_new _ _ _) (by simp [u8V, Value.oneCell']) (by unfold maxLen; omega) (by omega) (by simp; omega) ?_; intro v' w1 hown' hgrow _; obtain ⟨g', cap', rfl⟩ := ownsRow_succ hown')
        go_roundw
        case rel => exact ⟨k + 1, by omega, by go_num, by rw [HX.out, HN2.out, List.length_append, List.map_append]; exact hown', ⟨(HBW.out.alloc HBW.out.size _).grown hgrow (by have := HBW.out.size; simp; omega) (fun j ej => (hownW.lt j ej).1)⟩⟩
        case measure => simp [intOf]; omega
      | false =>
        subst hz
        have HN2 : Hid3 (N1 = N0) := ⟨by rw [HN.out]; first | (exact List.append_nil _) | (rw [if_neg (by rw [HZ.out]; decide), List.append_nil])⟩
        clear HN
        go_wp2_with fail
        refine cM.mono ?_
        rintro r W0 ⟨rfl, hW⟩
        rw [hW]
        clear cM hW
        obtain ⟨W, hWW⟩ : ∃ W, W = wr := ⟨_, rfl⟩
        have hownW : W.ownsRow w.heap.size 5 1 (.slice a0 N0.length cap0) N0.length (N0.map u8V) := by rw [hWW]; exact hown
        have HBW : Hid3 (Below w.heap.size w W) := ⟨by rw [hWW]; exact HB.out⟩
        have hszW := HBW.out.size
        rw [← hWW]
        rw [← hWW] at ch
        clear hown HB hsz hWW
        go_wp2
        go_roundw
        case rel => exact ⟨k + 1, by omega, by go_num, by rw [HX.out, HN2.out]; exact hownW, HBW⟩
        case measure => simp [intOf]; omega
    · obtain rfl : k = 8 := by omega
      rw [thE_bad (.inr (Nat.le_refl _))] at cM
      go_wp2_with fail
      refine cM.mono ?_
      rintro r W0 ⟨rfl, hW⟩
      rw [hW]
      clear cM hW
      go_wp2
      go_ret
      exact ⟨_, rfl, hown, HB.out⟩
theorem pop_zero6 : ∀ x : Nat, x < 64 → (pop9 x = 0 ↔ x = 0) := by decide +kernel
set_option maxHeartbeats 4000000 in
theorem rroom_in (B b : Nat) (v : Value) (q : Ps) (w : World) (h : Rl B w b v q) : Calls Tryd.prog 35 #[.pointer (some ⟨b, 0, none⟩)] w fun r w' => ∃ u, r = .returned u ∧ NR w w' u ((List.range 8).filter (fun i => decide (q.O i = 0))) := by
  have HV := Hid3.mk h
  have hb := h.c.l
  obtain ⟨i0, hi, hz0, hz1, hz2⟩ := info_parts1 infoU1
  clear h
  go_enter Tryd.func35, Tryd.ntmps35
  go_wp2_with fail
  go_loopw [3, 4] (fun s5 s6 wr => ∃ k : Nat, k ≤ 8 ∧ s6 = .int .u8 k ∧ wr.ownsRow w.heap.size 5 1 s5 ((List.range k).filter (fun i => decide (q.O i = 0))).length (((List.range k).filter (fun i => decide (q.O i = 0))).map u8V) ∧ Hid3 (Below w.heap.size w wr)) (fun _ s _ => 9 - (intOf s).toNat)
  case atStart => exact ⟨0, Nat.zero_le _, rfl, World.ownsRow_nil _ _ _ _, ⟨Below.refl _ _⟩⟩
  case round =>
    obtain ⟨k, hk, rfl, hown, HB⟩ := hrel
    have hsz := HB.out.size
    have cM := may_any b v q 0 k (by omega) wr (HV.out.low HB.out).c
    by_cases hlt : k < 8
    · have hltz : (k : Int) < 8 := by omega
      rw [thE_ok (by decide) hlt] at cM
      have HN := Hid3.mk (filt_snoc (fun i => decide (q.O i = 0)) k)
      have hlen := filt_len (fun i => decide (q.O i = 0)) k
      have cO := rowners_in B b v q k wr (HV.out.low HB.out) hlt
      have ho := (HV.out.low HB.out).o k hlt
      rw [bits6 _ ho] at cO
      obtain ⟨z, hzz⟩ : ∃ z, z = decide (q.O k = 0) := ⟨_, rfl⟩
      have HZ : Hid3 (decide (q.O k = 0) = z) := ⟨hzz.symm⟩
      have HL : Hid3 (((bitsL (q.O k)).length = 0) ↔ z = true) := ⟨by rw [bitsL_len _ (by omega), hzz]; simp only [decide_eq_true_eq]; exact pop_zero6 _ ho⟩
      have hll : (bitsL (q.O k)).length ≤ 9 := by rw [bitsL_len _ (by omega)]; exact pop_le _ (by omega)
      generalize bitsL (q.O k) = BL at *
      clear hzz ho
      generalize hx : (List.range (k + 1)).filter (fun i => decide (q.O i = 0)) = N1 at *
      generalize (List.range k).filter (fun i => decide (q.O i = 0)) = N0 at *
      obtain ⟨a0, cap0, hvf⟩ : ∃ a cap, u3 = .slice a N0.length cap := by
        rcases hown.2 with ⟨hv0, hk0⟩ | ⟨g, cap, cur, hv0, _⟩
        · exact ⟨none, 0, by rw [hk0]; exact hv0⟩
        · exact ⟨_, _, hv0⟩
      subst hvf
      have HX := Hid3.mk hx
      clear hx
      cases hz : z with
      | true =>
        subst hz
        have HN2 : Hid3 (N1 = N0 ++ [k]) := ⟨by rw [HN.out]; first | rfl | (rw [HZ.out]; rfl) ⟩
        clear HN
        go_wp2_with fail
        refine cM.mono ?_
        rintro r W0 ⟨rfl, hW⟩
        rw [hW]
        clear cM hW
        go_wp2_with fail
        refine cO.mono ?_
        rintro r W ⟨u, rfl, hNR⟩
        have hownW := own_low hown hNR.bl
        have HBW : Hid3 (Below w.heap.size w W) := ⟨HB.out.trans (hNR.bl.mono HB.out.size)⟩
        have hszW := HBW.out.size
        obtain ⟨ua, uc, huf⟩ : ∃ a cap, u = .slice a BL.length cap := by
          rcases hNR.own.2 with ⟨hv0, hk0⟩ | ⟨g, cap, cur, hv0, _⟩
          · exact ⟨none, 0, by rw [hk0]; exact hv0⟩
          · exact ⟨_, _, hv0⟩
        subst huf
        have hBz : (BL.length : Int) = 0 := by
          have h0 : BL.length = 0 := HL.out.2 (by simp)
          omega
        clear cO hNR hown HB hsz
        go_wp2_with (at_builtin; refine wpList_append_own _ rfl _ _ 38 rfl w.heap.size 5 i0 (.int .u8 0) 1 1 Tryd.underlying38 hi hz0 hz1 hz2 rfl (by decide) _ _ _ rfl (hownW.alloc _) ⟨W.heap.size, 0, none⟩ 1 1 [u8V k] rfl rfl (cell_one_new _ _ _) (by simp [u8V, Value.oneCell']) (by unfold maxLen; omega) (by omega) (by simp; omega) ?_; intro v' w1 hown' hgrow _; obtain ⟨g', cap', rfl⟩ := ownsRow_succ hown')
        go_roundw
        case rel => exact ⟨k + 1, by omega, by go_num, by rw [HX.out, HN2.out, List.length_append, List.map_append]; exact hown', ⟨(HBW.out.alloc HBW.out.size _).grown hgrow (by have := HBW.out.size; simp; omega) (fun j ej => (hownW.lt j ej).1)⟩⟩
        case measure => simp [intOf]; omega
      | false =>
        subst hz
        have HN2 : Hid3 (N1 = N0) := ⟨by rw [HN.out]; first | (exact List.append_nil _) | (rw [if_neg (by rw [HZ.out]; decide), List.append_nil])⟩
        clear HN
        go_wp2_with fail
        refine cM.mono ?_
        rintro r W0 ⟨rfl, hW⟩
        rw [hW]
        clear cM hW
        go_wp2_with fail
        refine cO.mono ?_
        rintro r W ⟨u, rfl, hNR⟩
        have hownW := own_low hown hNR.bl
        have HBW : Hid3 (Below w.heap.size w W) := ⟨HB.out.trans (hNR.bl.mono HB.out.size)⟩
        have hszW := HBW.out.size
        obtain ⟨ua, uc, huf⟩ : ∃ a cap, u = .slice a BL.length cap := by
          rcases hNR.own.2 with ⟨hv0, hk0⟩ | ⟨g, cap, cur, hv0, _⟩
          · exact ⟨none, 0, by rw [hk0]; exact hv0⟩
          · exact ⟨_, _, hv0⟩
        subst huf
        have hBz : ¬ (BL.length : Int) = 0 := by
          have h0 : ¬ BL.length = 0 := fun h => by have := HL.out.1 h; cases this
          omega
        clear cO hNR hown HB hsz
        go_wp2
        go_roundw
        case rel => exact ⟨k + 1, by omega, by go_num, by rw [HX.out, HN2.out]; exact hownW, HBW⟩
        case measure => simp [intOf]; omega
    · obtain rfl : k = 8 := by omega
      rw [thE_bad (.inr (Nat.le_refl _))] at cM
      go_wp2_with fail
      refine cM.mono ?_
      rintro r W0 ⟨rfl, hW⟩
      rw [hW]
      clear cM hW
      go_wp2
      go_ret
      exact ⟨_, rfl, hown, HB.out⟩
end Go.Proofs.YtalhlbhhgddddaaDoor
