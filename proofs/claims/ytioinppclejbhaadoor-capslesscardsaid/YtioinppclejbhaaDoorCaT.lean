/- The document's table: Room, Find, Slots, Fork. -/
import Derived.Test.YtioinppclejbhaaDoorCaS
namespace Go.Proofs.YtioinppclejbhaaDoor
open Go.RowKit Go.Maps
set_option linter.unusedVariables false
set_option maxRecDepth 100000
theorem firstO_at (q : Fin 12 → Bool) (we : Int) (k : Nat) (hk : k < 12) (h : thL q k = []) (hq : q ⟨k, hk⟩ = true) : firstO q we = ((k : Int), 0) := by
  have h1 : thL q (k + 1) = [⟨k, hk⟩] := by simp [thL, h, hk, hq]
  obtain ⟨r, hr⟩ := thL_pre q (k + 1) 12 (by omega)
  unfold firstO
  rw [← hr, h1]
  rfl
theorem thL_no (q : Fin 12 → Bool) (k : Nat) (hk : k < 12) (h : thL q k = []) (hq : q ⟨k, hk⟩ = false) : thL q (k + 1) = [] := by simp [thL, h, hk, hq]
theorem firstO_no (q : Fin 12 → Bool) (we : Int) (h : thL q 12 = []) : firstO q we = (0, we) := by unfold firstO; rw [h]
set_option maxHeartbeats 2000000 in
theorem rroom_any (B b : Nat) (s : Sl) (w : World) (h : Tb 61 B w b s) : Calls Tryd.prog 31 #[.pointer (some ⟨b, 0, none⟩)] w fun r w' => r = .returned (.tuple #[.int .i64 (roomO s).1, .int .i64 (roomO s).2]) ∧ Below w.heap.size w w' := by
  have HA : Hid (∀ k : Fin 12, w.cell? ⟨b, k.1 * 2, none⟩ = some (.string (slotC (s k)).1)) := fun k => (h.at k).1.1
  have HN : Hid (∀ k : Fin 12, ((slotC (s k)).1.toList == ([] : List UInt8)) = !(s k).isSome) := fun k => slot_name (s k)
  have HB : Hid (Below w.heap.size w w) := Below.refl _ _
  clear h
  unfold roomO
  generalize hq : (fun k => !(s k).isSome) = q at *
  have HQ : Hid (∀ k : Fin 12, (!(s k).isSome) = q k) := fun k => by rw [← hq]
  clear hq
  go_enter Tryd.func31, Tryd.ntmps31
  go_wp2
  go_loopw [4] (fun i W => ∃ k : Nat, i = .int .i64 k ∧ k ≤ 12 ∧ W = w ∧ Hid (thL q k = [])) (fun i _ => 12 - (intOf i).toNat)
  case atStart => exact ⟨0, rfl, Nat.zero_le _, rfl, rfl⟩
  case round =>
    obtain ⟨k, rfl, hk, rfl, hT⟩ := hrel
    by_cases hk8 : k < 12
    · have hkz : (k : Int) < 12 := by omega
      have c0 := HA.out ⟨k, hk8⟩
      have hn := HN.out ⟨k, hk8⟩
      rw [HQ.out ⟨k, hk8⟩] at hn
      simp only at c0
      generalize (slotC (s ⟨k, hk8⟩)).1 = n at *
      cases hq : q ⟨k, hk8⟩ with
      | true =>
        rw [hq] at hn
        have HF : Hid (firstO q 4 = ((k : Int), 0)) := firstO_at q 4 k hk8 hT.out hq
        clear HA HN HQ hq
        go_wp2
        go_ret2
        exact ⟨by rw [HF.out]; rfl, HB.out⟩
      | false =>
        rw [hq] at hn
        have HF : Hid (thL q (k + 1) = []) := thL_no q k hk8 hT.out hq
        clear HN HQ hq
        go_wp2
        go_roundw
        case rel => exact ⟨k + 1, by go_num, by omega, by trivial, HF.out⟩
        case measure => simp [intOf]; omega
    · have hkz : ¬ (k : Int) < 12 := by omega
      obtain rfl : k = 12 := by omega
      have HF : Hid (firstO q 4 = (0, 4)) := firstO_no q 4 hT.out
      clear HA HN HQ
      go_wp2
      go_ret2
      exact ⟨by rw [HF.out]; rfl, HB.out⟩
end Go.Proofs.YtioinppclejbhaaDoor
