/- CapsRight: the walk. -/
import Derived.Test.YtioinppclejbhaaDoorCaN
namespace Go.Proofs.YtioinppclejbhaaDoor
open Go.RowKit Go.Maps Go.Sort
set_option linter.unusedVariables false
set_option maxRecDepth 100000
attribute [local irreducible] wpQuiet
theorem thL_lt (q : Fin 12 → Bool) : ∀ (n : Nat), n ≤ 12 → (thL q n).Pairwise (fun a b => a.1 < b.1)
  | 0, _ => List.Pairwise.nil
  | n + 1, hn => by
    rw [thL_snoc q n (by omega), List.pairwise_append]
    refine ⟨thL_lt q n (by omega), by split <;> simp, fun x hx y hy => ?_⟩
    have h1 := ((thL_mem q n (by omega) x).1 hx).1
    split at hy
    · have : y = ⟨n, by omega⟩ := by simpa using hy
      subst this
      exact h1
    · cases hy
/-- The first slot is no later than one that is asked for. -/
theorem firstO_le (q : Fin 12 → Bool) (we : Int) (k : Fin 12) (hk : q k = true) : (firstO q we).2 = 0 ∧ (firstO q we).1 ≤ (k.1 : Int) := by
  have hm := (thL_mem q 12 (Nat.le_refl _) k).2 ⟨k.2, hk⟩
  have hp := thL_lt q 12 (Nat.le_refl _)
  unfold firstO
  cases h : thL q 12 with
  | nil => rw [h] at hm; cases hm
  | cons x rest =>
    rw [h] at hm hp
    refine ⟨rfl, ?_⟩
    show (x.1 : Int) ≤ (k.1 : Int)
    rcases List.mem_cons.1 hm with e | e
    · rw [e]; exact Int.le_refl _
    · have := (List.pairwise_cons.1 hp).1 k e
      omega
theorem findO_self (s : Sl) (k : Fin 12) (c : Rc) (hs : s k = some c) : (findO s c.1).2 = 0 ∧ (findO s c.1).1 ≤ (k.1 : Int) := by
  refine firstO_le _ 7 k ?_
  show opensB (slotC (s k)).1.data.toList (slotC (s k)).2 _ _ = true
  rw [hs]
  show opensB c.1.1.data.toList c.1.2 c.1.1.data.toList c.1.2 = true
  rw [opens_self]
  exact c.2.1
theorem slotsL_at (s : Sl) (i : Nat) (hi : i < (slotsL s).length) : ∃ (k : Fin 12) (c : Rc), (slotsL s)[i]? = some k ∧ s k = some c ∧ ∀ j, j < i → ∃ k' : Fin 12, (slotsL s)[j]? = some k' ∧ k'.1 < k.1 := by
  have hm : (slotsL s)[i] ∈ slotsL s := List.getElem_mem hi
  have h1 := (thL_mem (fun k => (s k).isSome) 12 (Nat.le_refl _) _).1 hm
  have hp := thL_lt (fun k => (s k).isSome) 12 (Nat.le_refl _)
  obtain ⟨c, hc⟩ := Option.isSome_iff_exists.1 h1.2
  refine ⟨(slotsL s)[i], c, List.getElem?_eq_getElem hi, hc, fun j hj => ⟨(slotsL s)[j], List.getElem?_eq_getElem (by omega), ?_⟩⟩
  exact List.pairwise_iff_getElem.1 hp j i (by show j < (slotsL s).length; omega) hi hj
/-- The program's table, a list of slots, and the world below as it was. -/
structure Ks (w W : World) (b rb : Nat) (s : Sl) (v : Value) (L : List Nat) : Prop where
  two : Tw w.heap.size W b rb s
  row : Ints W v L
  bl : Below w.heap.size w W
theorem Ks.low {w W W' : World} {b rb : Nat} {s : Sl} {v : Value} {L : List Nat} (h : Ks w W b rb s v L) (k : Below W.heap.size W W') : Ks w W' b rb s v L := ⟨h.two.low k, h.row.below k, h.bl.trans (k.mono h.bl.size)⟩
set_option maxHeartbeats 8000000 in
theorem right_law (v : Value) (l : List Dd) (w : World) (hd : Dds w v l) (hn : NTabs w) : Calls Tryd.prog 7 #[v] w fun e w' => e = .returned (.bool true) ∧ Below w.heap.size w w' := by
  have cP := play_any v l w hd hn
  clear hd hn
  go_enter Tryd.func7, Tryd.ntmps7
  go_wp2_with fail
  refine cP.mono ?_
  rintro r W1 ⟨b, rb, s, rfl, hT, hB⟩
  have HT1 := Hid3.mk hT
  have HB1 := Hid3.mk hB
  clear cP hT hB
  go_wp2_with fail
  refine (live_any _).mono ?_
  rintro r W2 ⟨rfl, hB⟩
  have HT2 := Hid3.mk (HT1.out.low hB)
  have HB2 := Hid3.mk (HB1.out.trans (hB.mono HB1.out.size))
  clear hB HT1 HB1
  go_wp2_with fail
  refine (slots_any _ b s W2 HT2.out.t).mono ?_
  rintro r W3 ⟨v1, rfl, hr1, hB⟩
  obtain ⟨a1, cap1, hv1, _⟩ := (slots_ints hr1).1
  have HK3 : Hid3 (Ks w W3 b rb s v1 ((slotsL s).map (·.1))) := ⟨⟨HT2.out.low hB, (slots_ints hr1).1, HB2.out.trans (hB.mono HB2.out.size)⟩⟩
  rw [List.length_map] at hv1
  have hlen : (slotsL s).length ≤ 12 := thL_len _ 12
  have HA : Hid3 (∀ i, i < (slotsL s).length → ∃ (k : Fin 12) (c : Rc), (slotsL s)[i]? = some k ∧ s k = some c ∧ ∀ j, j < i → ∃ k' : Fin 12, (slotsL s)[j]? = some k' ∧ k'.1 < k.1) := ⟨fun i hi => slotsL_at s i hi⟩
  generalize slotsL s = L at *
  subst hv1
  clear hr1 hB HT2 HB2
  have hlz : ((L.length : Nat) : Int) ≤ 12 := by omega
  go_wp2_with fail
  go_loopw [7] (fun s7 wr => ∃ i : Nat, i ≤ L.length ∧ s7 = .int .i64 i ∧ Hid3 (Ks w wr b rb s (.slice a1 L.length cap1) (L.map (·.1)))) (fun s7 _ => L.length - (intOf s7).toNat)
  case atStart => exact ⟨0, by omega, rfl, HK3⟩
  case round =>
    obtain ⟨i, hi, rfl, HK⟩ := hrel
    clear HK3
    by_cases hlt : i < L.length
    · have hltz : (i : Int) < (L.length : Int) := by omega
      obtain ⟨k, c, e1, e2, e3⟩ := HA.out i hlt
      obtain ⟨g, off, ea, ci⟩ : ∃ g off, a1 = some ⟨g, off, none⟩ ∧ wr.cell? ⟨g, off + i, none⟩ = some (.int .i64 (k.1 : Int)) := by
        obtain ⟨_, _, ev, hc⟩ := HK.out.row
        injection ev with ev1 ev2 ev3
        obtain ⟨g, off, ea, ci⟩ := hc i k.1 (by rw [List.getElem?_map, e1]; rfl)
        exact ⟨g, off, ev1.trans ea, ci⟩
      subst ea
      obtain ⟨f0, f1⟩ := findO_self s k c e2
      have hwi : IntKind.i64.wrap ((i : Int) + 1) = ((i + 1 : Nat) : Int) := by rw [IntKind.wrap_i64]; omega
      have cG := fun W (hW : Ks w W b rb s (.slice (some ⟨g, off, none⟩) L.length cap1) (L.map (·.1))) => get_ok w.heap.size b s k W hW.two.t
      rw [e2] at cG
      have hcs : c.1.1.size ≤ 1000 := Nat.le_trans c.2.2 (by omega)
      have cF := fun W (hW : Ks w W b rb s (.slice (some ⟨g, off, none⟩) L.length cap1) (L.map (·.1))) => find_any w.heap.size b s c.1 hcs W hW.two.t
      have cR := fun W => right_any c.1.1 c.1.2.toNat W hcs
      rw [c.2.1] at cR
      unfold capV at cR
      rw [f0] at cF
      have hge : getE (some c) = 0 := rfl
      have hsl : slotC (some c) = c.1 := rfl
      rw [hge, hsl] at cG
      unfold cpV at cG
      generalize (findO s c.1).1 = fo at *
      generalize c.1.1 = n at *
      generalize ((c.1.2.toNat : Nat) : Int) = r at *
      have hfo : ¬ (k.1 : Int) < fo := by omega
      have hfd : decide ((k.1 : Int) < fo) = false := by simpa using hfo
      have HC : Hid3 (∀ W, Ks w W b rb s (.slice (some ⟨g, off, none⟩) L.length cap1) (L.map (·.1)) → ∀ (j : Nat) (k' : Fin 12), L[j]? = some k' → W.cell? ⟨g, off + j, none⟩ = some (.int .i64 (k'.1 : Int))) := ⟨fun W hW j k' hj => by
        obtain ⟨_, _, ev, hc⟩ := hW.row
        injection ev with ev1 ev2 ev3
        obtain ⟨g', off', ea, ci⟩ := hc j k'.1 (by rw [List.getElem?_map, hj]; rfl)
        rw [← ev1] at ea
        injection ea with ea
        injection ea with ea1 ea2
        subst ea1 ea2
        exact ci⟩
      have HE1 := Hid3.mk e1
      have HE3 := Hid3.mk e3
      clear e1 e2 e3 f0 f1 hge hsl hcs
      obtain ⟨kz, hkz⟩ : ∃ kz, kz = (k.1 : Int) := ⟨_, rfl⟩
      have HKZ := Hid3.mk hkz
      rw [← hkz] at ci hfo hfd cG
      clear hkz
      go_wp2_with fail
      refine (cG _ HK.out).mono ?_
      rintro o W4 ⟨rfl, hB4⟩
      have hX4 := hB4.alloc hB4.size (.cells #[.string n, .int .u8 r] 31)
      have hT4 := Two.new W4 31 (.string n) (.int .u8 r)
      have HK4 := Hid3.mk (HK.out.low hX4)
      have hs4 : W4.heap.size < (W4.alloc (.cells #[.string n, .int .u8 r] 31)).heap.size := by simp
      have d0 := hT4.c0
      have d1 := hT4.c1
      clear hB4 hX4 cG ci HK
      go_wp2_with fail
      generalize (W4.alloc (.cells #[.string n, .int .u8 r] 31)) = V4 at *
      generalize W4.heap.size = z4 at *
      refine (cF _ HK4.out).mono ?_
      rintro o W5 ⟨rfl, hB5⟩
      have HK5 := Hid3.mk (HK4.out.low hB5)
      have hT5 := hT4.below hB5 hs4
      have c0 := hT5.c0
      have c1 := hT5.c1
      have ci : W5.cell? ⟨g, off + i, none⟩ = some (.int .i64 kz) := by rw [HKZ.out]; exact HC.out W5 HK5.out i k HE1.out
      have hgl : g < W5.heap.size := World.block_lt_of_cell? W5 _ ci
      have g0 := fun d os => cell_regrown c0 d os
      have g1 := fun d os => cell_regrown c1 d os
      have gi := fun d os => cell_regrown ci d os
      have dR := fun d os => Calls.regrown_of (cR (grow (redrawn W5 d) os))
      clear hB5 cF HK4 d0 d1 hT4 hs4 cR hT5
      by_cases hp : 0 < i
      · have hpz : (0 : Int) < (i : Int) := by omega
        have hpd : decide ((0 : Int) < (i : Int)) = true := by simpa using hpz
        obtain ⟨j, hj1, hj2⟩ : ∃ j, j + 1 ≤ i ∧ i ≤ j + 1 := ⟨i - 1, by omega, by omega⟩
        have hwj : IntKind.i64.wrap ((i : Int) - 1) = (j : Int) := by rw [IntKind.wrap_i64]; omega
        have hjz : (j : Int) < (L.length : Int) := by omega
        obtain ⟨k', e4, e5⟩ := HE3.out j (by omega)
        have cj := HC.out W5 HK5.out j k' e4
        have gj := fun d os => cell_regrown cj d os
        have hle : ¬ kz ≤ (k'.1 : Int) := by rw [HKZ.out]; omega
        have hled : decide (kz ≤ (k'.1 : Int)) = false := by simpa using hle
        clear e4 e5
        generalize (k'.1 : Int) = kj at *
        go_wp2_with fail
        refine wp_region_quiet_below (by kernel_rfl) (by kernel_rfl) ?_
        repeat (quiet_step (exact dR _ _))
        refine wpQuiet_nil ?_
        intro _ hw'
        obtain ⟨⟨dq, osq⟩, hw''⟩ := hw'
        subst hw''
        have HK6 := Hid3.mk (HK5.out.low (below_regrown W5 dq osq))
        clear g0 g1 gi gj dR c0 c1 ci cj HK5
        go_wp2
        go_roundw
        case rel => exact ⟨i + 1, by omega, by go_num, HK6⟩
        case measure => simp [intOf]; omega
      · have hpz : ¬ (0 : Int) < (i : Int) := by omega
        have hpd : decide ((0 : Int) < (i : Int)) = false := by simpa using hpz
        go_wp2_with fail
        refine wp_region_quiet_below (by kernel_rfl) (by kernel_rfl) ?_
        repeat (quiet_step (exact dR _ _))
        refine wpQuiet_nil ?_
        intro _ hw'
        obtain ⟨⟨dq, osq⟩, hw''⟩ := hw'
        subst hw''
        have HK6 := Hid3.mk (HK5.out.low (below_regrown W5 dq osq))
        clear g0 g1 gi dR c0 c1 ci HK5
        go_wp2
        go_roundw
        case rel => exact ⟨i + 1, by omega, by go_num, HK6⟩
        case measure => simp [intOf]; omega
    · have hltz : ¬ (i : Int) < (L.length : Int) := by omega
      go_wp2
      go_ret
      exact ⟨rfl, HK.out.bl⟩
end Go.Proofs.YtioinppclejbhaaDoor
