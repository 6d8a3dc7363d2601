/- The document's table: Slots. -/
import Derived.Test.YtioinppclejbhaaDoorCaU
namespace Go.Proofs.YtioinppclejbhaaDoor
open Go.RowKit Go.Maps
set_option linter.unusedVariables false
set_option maxRecDepth 100000
theorem thL_snoc (q : Fin 12 → Bool) (k : Nat) (hk : k < 12) : thL q (k + 1) = thL q k ++ (if q ⟨k, hk⟩ then [⟨k, hk⟩] else []) := by simp [thL, hk]
set_option maxHeartbeats 1000000 in
theorem rslots_any (B b : Nat) (s : Sl) (w : World) (h : Tb 61 B w b s) : Calls Tryd.prog 33 #[.pointer (some ⟨b, 0, none⟩)] w fun r w' => ∃ v, r = .returned v ∧ w'.ownsRow w.heap.size 3 1 v (slotsL s).length ((slotsL s).map slI) ∧ Below w.heap.size w w' := by
  have HA : Hid (∀ W, Below w.heap.size w W → ∀ k : Fin 12, W.cell? ⟨b, k.1 * 2, none⟩ = some (.string (slotC (s k)).1)) := fun W hW k => ((h.below hW).at k).1.1
  have HN : Hid (∀ k : Fin 12, ((slotC (s k)).1.toList == ([] : List UInt8)) = !(s k).isSome) := fun k => slot_name (s k)
  obtain ⟨i0, hi, hz0, hz1, hz2⟩ := info_parts infoI
  clear h
  unfold slotsL
  generalize hq : (fun k => (s k).isSome) = q at *
  have HQ : Hid (∀ k : Fin 12, (s k).isSome = q k) := fun k => by rw [← hq]
  clear hq
  go_enter Tryd.func33, Tryd.ntmps33
  go_wp2_with fail
  go_loopw [3, 4] (fun s3 s4 wr => ∃ k : Nat, k ≤ 12 ∧ s4 = .int .i64 k ∧ wr.ownsRow w.heap.size 3 1 s3 (thL q k).length ((thL q k).map slI) ∧ Hid (Below w.heap.size w wr)) (fun _ s _ => 12 - (intOf s).toNat)
  case atStart => exact ⟨0, Nat.zero_le _, rfl, World.ownsRow_nil _ _ _ _, Below.refl _ _⟩
  case round =>
    obtain ⟨k, hk, rfl, hown, HB⟩ := hrel
    by_cases hlt : k < 12
    · have hltz : (k : Int) < 12 := by omega
      have HS : Hid (thL q (k + 1) = thL q k ++ (if q ⟨k, hlt⟩ then [⟨k, hlt⟩] else [])) := thL_snoc q k hlt
      have hlen := thL_len q k
      have c0 := HA.out wr HB.out ⟨k, hlt⟩
      have hn := HN.out ⟨k, hlt⟩
      rw [HQ.out ⟨k, hlt⟩] at hn
      have hsz := HB.out.size
      simp only at c0
      generalize (slotC (s ⟨k, hlt⟩)).1 = n at *
      generalize hx : thL q (k + 1) = N1 at *
      generalize thL q k = N0 at *
      obtain ⟨a0, cap0, hvf⟩ : ∃ a cap, u3 = .slice a N0.length cap := by
        rcases hown.2 with ⟨hv0, hk0⟩ | ⟨g, cap, cur, hv0, _⟩
        · exact ⟨none, 0, by rw [hk0]; exact hv0⟩
        · exact ⟨_, _, hv0⟩
      subst hvf
      have HX : Hid (thL q (k + 1) = N1) := hx
      clear HA HN HQ hx
      cases hq : q ⟨k, hlt⟩ with
      | true =>
        rw [hq] at hn
        have HN2 : Hid (N1 = N0 ++ [⟨k, hlt⟩]) := by show N1 = _; rw [HS.out, hq]; rfl
        clear HS hq
        go_wp2_with (at_builtin; refine wpList_append_own _ rfl _ _ 40 rfl w.heap.size 3 i0 (.int .i64 0) 1 8 Tryd.underlying40 hi hz0 hz1 hz2 rfl (by decide) _ _ _ rfl (hown.alloc _) ⟨wr.heap.size, 0, none⟩ 1 1 [slI ⟨k, hlt⟩] rfl rfl (cell_one_new _ _ _) (by simp [slI, Value.oneCell']) (by unfold maxLen; omega) (by omega) (by simp; omega) ?_; intro v' w1 hown' hgrow _; obtain ⟨g', cap', rfl⟩ := ownsRow_succ hown')
        go_roundw
        case rel => exact ⟨k + 1, by omega, by go_num, by rw [HX.out, HN2.out, List.length_append, List.map_append]; exact hown', (HB.out.alloc HB.out.size _).grown hgrow (by have := HB.out.size; simp; omega) (fun j ej => (hown.lt j ej).1)⟩
        case measure => simp [intOf]; omega
      | false =>
        rw [hq] at hn
        have HN2 : Hid (N1 = N0) := by show N1 = _; rw [HS.out, hq]; simp
        clear HS hq
        go_wp2
        go_roundw
        case rel => exact ⟨k + 1, by omega, by go_num, by rw [HX.out, HN2.out]; exact hown, HB.out⟩
        case measure => simp [intOf]; omega
    · obtain rfl : k = 12 := by omega
      clear HA HN HQ
      go_wp2
      go_ret
      exact ⟨_, rfl, hown, HB.out⟩
end Go.Proofs.YtioinppclejbhaaDoor
