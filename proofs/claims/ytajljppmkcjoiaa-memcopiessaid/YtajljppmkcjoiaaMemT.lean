/- The document's memory: frames that are zeroed, copied, filled; a new one; a word. -/
import Derived.Test.YtajljppmkcjoiaaMemS
namespace Go.Proofs.Ytajljppmkcjoiaa
open Go.RowKit Go.Maps
set_option linter.unusedVariables false
set_option maxRecDepth 100000
theorem putL_snoc {L vs : List Int} {k i : Nat} (h : k + vs.length ≤ L.length) (hi : i < vs.length) : putL (putL L k (vs.take i)) (k + i) [vs.getD i 0] = putL L k (vs.take (i + 1)) := by
  have e := putL_take (L := L) (vs := vs) (K := k) (d := i) (m := 1) h (by omega)
  rw [← e]
  congr 1
  rw [List.drop_eq_getElem_cons hi, List.getD_eq_getElem?_getD, List.getElem?_eq_getElem hi]
  rfl
set_option maxHeartbeats 2000000 in
theorem rzero_any (rb g K N : Nat) (f : Int) (L : List Int) (w : World) (h : RMem w rb g K L) (hK : K = 32 * N) : Calls Try.prog 44 #[.pointer (some ⟨rb, 0, none⟩), .int .i64 f] w fun e w' => e = .returned (.int .i64 (inE N f 0 1)) ∧ RMem w' rb g K (zrL N L f) ∧ Only g w w' := by
  have c1 := may_any rb g K N f 0 1 L w h hK (by decide)
  unfold inE at *
  unfold zrL
  by_cases q : inB N f 0 1 = true
  · rw [if_pos q] at c1 ⊢
    rw [if_pos q]
    obtain ⟨h1, h2, h3, h4⟩ := inB_t q
    obtain ⟨F, rfl⟩ := Int.eq_ofNat_of_zero_le h1
    rw [Int.toNat_natCast]
    have hh := h.hi
    have hK1 : F * 32 + 32 ≤ K := by omega
    have hF64 : (F : Int) < 64 := by omega
    obtain ⟨Z, hZ⟩ : ∃ Z : List Int, Z = List.replicate 32 0 := ⟨_, rfl⟩
    rw [← hZ]
    have HZ : Hid3 (Z.length = 32 ∧ ∀ i, Z.getD i 0 = 0) := ⟨by rw [hZ]; exact List.length_replicate, fun i => by
      rw [hZ, List.getD_eq_getElem?_getD, List.getElem?_replicate]
      split <;> rfl⟩
    clear q h4 hZ hK
    go_enter Try.func44, Try.ntmps44
    go_wp2_with fail
    refine c1.mono ?_
    rintro e W1 ⟨rfl, rfl⟩
    clear c1
    go_wp2
    go_loopw [6] (fun s6 wr => ∃ i : Nat, i ≤ 32 ∧ s6 = .int .i64 i ∧ RMem wr rb g K (putL L (F * 32) (Z.take i)) ∧ Only g W1 wr) (fun s6 _ => 32 - (intOf s6).toNat)
    case atStart => exact ⟨0, by omega, rfl, by rw [List.take_zero, putL_nil]; exact h, Only.refl _ _⟩
    case round =>
      obtain ⟨i, hi, rfl, hM, hO⟩ := hrel
      by_cases hlt : i < 32
      · have hltz : (i : Int) < 32 := by omega
        obtain ⟨C, hC, hc⟩ := hM.c
        obtain ⟨p, hp⟩ : ∃ p : Nat, p = F * 32 + i := ⟨_, rfl⟩
        have hp1 : (F : Int) * 32 + (i : Int) = (p : Int) := by omega
        have hpK : (p : Int) < (K : Int) := by omega
        have hx := hM.byte p (by omega)
        have hfr := hM.free p
        have k1 := hM.set1 p (by omega) 0
        have k2 := putL_snoc (L := L) (vs := Z) (k := F * 32) (i := i) (by rw [HZ.out.1, h.len]; omega) (by rw [HZ.out.1]; exact hlt)
        rw [HZ.out.2, ← hp] at k2
        rw [k2] at k1
        have HM : Hid3 (RMem (wr.setCell ⟨g, p, none⟩ (.int .u8 0)) rb g K (putL L (F * 32) (Z.take (i + 1)))) := ⟨k1⟩
        clear k1 k2 hp hM
        go_wp2
        go_roundw
        case rel => exact ⟨i + 1, by omega, by go_num, HM.out, hO.trans (Only.cell1 _ _ _ _)⟩
        case measure => simp [intOf]; omega
      · have hltz : ¬ (i : Int) < 32 := by omega
        go_wp2
        go_ret
        refine ⟨rfl, ?_, hO⟩
        rw [List.take_of_length_le (by rw [HZ.out.1]; omega)] at hM
        exact hM
  · rw [if_neg q] at c1 ⊢
    rw [if_neg q]
    clear q
    go_enter Try.func44, Try.ntmps44
    go_wp2_with fail
    refine c1.mono ?_
    rintro e W1 ⟨rfl, rfl⟩
    go_wp2
    go_ret
    exact ⟨rfl, h, Only.refl _ _⟩
set_option maxHeartbeats 4000000 in
theorem rcopy_any (rb g K N : Nat) (t f : Int) (L : List Int) (w : World) (h : RMem w rb g K L) (hK : K = 32 * N) : Calls Try.prog 45 #[.pointer (some ⟨rb, 0, none⟩), .int .i64 t, .int .i64 f] w fun e w' => e = .returned (.int .i64 (cpE N t f)) ∧ RMem w' rb g K (cpL N L t f) ∧ Only g w w' := by
  have c1 := may_any rb g K N t 0 1 L w h hK (by decide)
  have c2 := may_any rb g K N f 0 1 L w h hK (by decide)
  unfold inE at *
  unfold cpL cpE cpB
  by_cases q : inB N t 0 1 = true
  · rw [if_pos q] at c1
    rw [q]
    by_cases q2 : inB N f 0 1 = true
    · rw [if_pos q2] at c2
      rw [q2, if_pos (by rfl), if_pos (by rfl)]
      obtain ⟨h1, h2, h3, h4⟩ := inB_t q
      obtain ⟨h5, h6, h7, h8⟩ := inB_t q2
      obtain ⟨T, rfl⟩ := Int.eq_ofNat_of_zero_le h1
      obtain ⟨F, rfl⟩ := Int.eq_ofNat_of_zero_le h5
      rw [Int.toNat_natCast, Int.toNat_natCast]
      have hh := h.hi
      have hK1 : T * 32 + 32 ≤ K := by omega
      have hK2 : F * 32 + 32 ≤ K := by omega
      have hT64 : (T : Int) < 64 := by omega
      have hF64 : (F : Int) < 64 := by omega
      obtain ⟨Z, hZ⟩ : ∃ Z : List Int, Z = frL L F := ⟨_, rfl⟩
      rw [← hZ]
      have HZ : Hid3 (Z.length = 32 ∧ ∀ i, i < 32 → Z.getD i 0 = L.getD (F * 32 + i) 0) := ⟨by rw [hZ]; exact frL_len h.len (by omega), fun i hi => by
        rw [hZ, frL, List.getD_eq_getElem?_getD, List.getD_eq_getElem?_getD, List.getElem?_take, if_pos hi, List.getElem?_drop]⟩
      clear q q2 h4 h8 hZ hK h3 h7
      go_enter Try.func45, Try.ntmps45
      go_wp2_with fail
      refine c1.mono ?_
      rintro e W1 ⟨rfl, rfl⟩
      clear c1
      go_wp2_with fail
      refine c2.mono ?_
      rintro e W1 ⟨rfl, rfl⟩
      clear c2
      go_wp2
      go_loopw [9] (fun s9 wr => ∃ i : Nat, i ≤ 32 ∧ s9 = .int .i64 i ∧ RMem wr rb g K (putL L (T * 32) (Z.take i)) ∧ Only g W1 wr) (fun s9 _ => 32 - (intOf s9).toNat)
      case atStart => exact ⟨0, by omega, rfl, by rw [List.take_zero, putL_nil]; exact h, Only.refl _ _⟩
      case round =>
        obtain ⟨i, hi, rfl, hM, hO⟩ := hrel
        by_cases hlt : i < 32
        · have hltz : (i : Int) < 32 := by omega
          obtain ⟨C, hC, hc⟩ := hM.c
          obtain ⟨p, hp⟩ : ∃ p : Nat, p = T * 32 + i := ⟨_, rfl⟩
          obtain ⟨r, hr⟩ : ∃ r : Nat, r = F * 32 + i := ⟨_, rfl⟩
          have hp1 : (T : Int) * 32 + (i : Int) = (p : Int) := by omega
          have hr1 : (F : Int) * 32 + (i : Int) = (r : Int) := by omega
          have hpK : (p : Int) < (K : Int) := by omega
          have hrK : (r : Int) < (K : Int) := by omega
          have hx := hM.byte p (by omega)
          have hy := hM.byte r (by omega)
          have eI : (Z.take i).length = i := by rw [List.length_take, HZ.out.1]; omega
          rw [putL_out (by rw [eI, h.len]; omega) (by rw [eI]; omega), hr, ← HZ.out.2 i hlt, ← hr] at hy
          have hfr := hM.free p
          have k1 := hM.set1 p (by omega) (Z.getD i 0)
          have k2 := putL_snoc (L := L) (vs := Z) (k := T * 32) (i := i) (by rw [HZ.out.1, h.len]; omega) (by rw [HZ.out.1]; exact hlt)
          rw [← hp] at k2
          rw [k2] at k1
          generalize Z.getD i 0 = X at *
          generalize (putL L (T * 32) (Z.take i)).getD p 0 = Y at *
          have HM : Hid3 (RMem (wr.setCell ⟨g, p, none⟩ (.int .u8 X)) rb g K (putL L (T * 32) (Z.take (i + 1)))) := ⟨k1⟩
          clear k1 k2 hp hr hM eI
          go_wp2_with fail
          go_region
          all_goals
            go_wp2
            go_roundw
            case rel => exact ⟨i + 1, by omega, by go_num, HM.out.below (Below.refl _ _).drew, (hO.trans (Only.cell1 _ _ _ _)).trans (Only.of_below (Below.refl _ _).drew)⟩
            case measure => simp [intOf]; omega
        · have hltz : ¬ (i : Int) < 32 := by omega
          go_wp2
          go_ret
          refine ⟨rfl, ?_, hO⟩
          rw [List.take_of_length_le (by rw [HZ.out.1]; omega)] at hM
          exact hM
    · rw [if_neg q2] at c2
      have e2 : inB N f 0 1 = false := by simpa using q2
      rw [e2, if_neg (by decide), if_neg (by decide)]
      clear q q2 e2
      go_enter Try.func45, Try.ntmps45
      go_wp2_with fail
      refine c1.mono ?_
      rintro e W1 ⟨rfl, rfl⟩
      go_wp2_with fail
      refine c2.mono ?_
      rintro e W1 ⟨rfl, rfl⟩
      go_wp2
      go_ret
      exact ⟨rfl, h, Only.refl _ _⟩
  · rw [if_neg q] at c1
    have e1 : inB N t 0 1 = false := by simpa using q
    rw [e1, if_neg (by simp), if_neg (by simp)]
    clear q e1 c2
    go_enter Try.func45, Try.ntmps45
    go_wp2_with fail
    refine c1.mono ?_
    rintro e W1 ⟨rfl, rfl⟩
    go_wp2
    go_ret
    exact ⟨rfl, h, Only.refl _ _⟩
end Go.Proofs.Ytajljppmkcjoiaa
