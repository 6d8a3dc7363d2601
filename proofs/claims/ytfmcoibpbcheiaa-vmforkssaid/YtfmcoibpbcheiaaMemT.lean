/- The document's memory: a row of bytes. The document's memory: what is read and written. The document's memory: frames that are zeroed, copied, filled; a new one; a word. -/
import Derived.Test.YtfmcoibpbcheiaaMemI
import Derived.BigRegion
namespace Go.Proofs.Ytfmcoibpbcheiaa
open Go.RowKit Go.Maps
set_option linter.unusedVariables false
set_option maxRecDepth 100000
structure RMem (w : World) (rb g K : Nat) (L : List Int) : Prop where
  blk : ∃ C, K ≤ C ∧ w.heap[rb]? = some (.cells #[.slice (some ⟨g, 0, none⟩) K C] 96)
  row : ∃ rest, w.heap[g]? = some (.cells ((L.take K).map (Value.int .u8) ++ rest).toArray 5)
  len : L.length = 2048
  ne : rb ≠ g
  hi : K ≤ 2048
theorem RMem.lt {w : World} {rb g K : Nat} {L : List Int} (h : RMem w rb g K L) : rb < w.heap.size := by
  obtain ⟨C, _, e⟩ := h.blk
  exact (Array.getElem?_eq_some_iff.1 e).1
theorem RMem.ltg {w : World} {rb g K : Nat} {L : List Int} (h : RMem w rb g K L) : g < w.heap.size := by
  obtain ⟨_, e⟩ := h.row
  exact (Array.getElem?_eq_some_iff.1 e).1
theorem RMem.keep {w w' : World} {rb g K : Nat} {L : List Int} (h : RMem w rb g K L) (h1 : w'.heap[rb]? = w.heap[rb]?) (h2 : w'.heap[g]? = w.heap[g]?) : RMem w' rb g K L := by
  obtain ⟨C, hC, e⟩ := h.blk
  obtain ⟨r, e2⟩ := h.row
  exact ⟨⟨C, hC, h1.trans e⟩, ⟨r, h2.trans e2⟩, h.len, h.ne, h.hi⟩
theorem RMem.only {w w' : World} {b rb g K : Nat} {L : List Int} (h : RMem w rb g K L) (k : Only b w w') (h1 : rb ≠ b) (h2 : g ≠ b) : RMem w' rb g K L := h.keep (k.block rb h.lt h1) (k.block g h.ltg h2)
theorem RMem.below {w w' : World} {rb g K : Nat} {L : List Int} (h : RMem w rb g K L) (k : Below w.heap.size w w') : RMem w' rb g K L := h.keep (k.block rb h.lt) (k.block g h.ltg)
theorem RMem.c {w : World} {rb g K : Nat} {L : List Int} (h : RMem w rb g K L) : ∃ C : Nat, K ≤ C ∧ w.cell? ⟨rb, 0, none⟩ = some (.slice (some ⟨g, 0, none⟩) K C) := by
  obtain ⟨C, hC, e⟩ := h.blk
  refine ⟨C, hC, ?_⟩
  rw [cell_of_row w rb _ _ _ _ e]
  rfl
theorem RMem.byte {w : World} {rb g K : Nat} {L : List Int} (h : RMem w rb g K L) (k : Nat) (hk : k < K) : w.cell? ⟨g, k, none⟩ = some (.int .u8 (L.getD k 0)) := by
  obtain ⟨r, e⟩ := h.row
  rw [cell_of_row w g _ _ _ _ e]
  have h2 : k < L.length := by rw [h.len]; have := h.hi; omega
  rw [List.getElem?_toArray, List.getElem?_append_left (by rw [List.length_map, List.length_take]; omega)]
  simp only [List.getElem?_map, List.getElem?_take, if_pos hk, List.getD_eq_getElem?_getD, List.getElem?_eq_getElem h2, Option.map_some, Option.getD_some]
theorem RMem.free {w : World} {rb g K : Nat} {L : List Int} (h : RMem w rb g K L) (k : Nat) : w.frozen? ⟨g, k, none⟩ = false := by
  obtain ⟨r, e⟩ := h.row
  simp [World.frozen?, e]
theorem RMem.set1 {w : World} {rb g K : Nat} {L : List Int} (h : RMem w rb g K L) (k : Nat) (hk : k < K) (x : Int) : RMem (w.setCell ⟨g, k, none⟩ (.int .u8 x)) rb g K (putL L k [x]) := by
  have hh := h.hi
  have hl := h.len
  have hk2 : k < L.length := by omega
  obtain ⟨C, hC, eb⟩ := h.blk
  obtain ⟨r, er⟩ := h.row
  refine ⟨⟨C, hC, (Below.heap_setCell w ⟨g, k, none⟩ _ rb h.ne).trans eb⟩, ⟨r, ?_⟩, by rw [putL_length (by simp; omega)]; exact h.len, h.ne, h.hi⟩
  rw [putL_one x hk2]
  have hlt := h.ltg
  rw [Array.getElem?_eq_getElem hlt] at er
  injection er with er
  have e2 : (((L.take K).map (Value.int .u8)) ++ r).set k (.int .u8 x) = (((L.set k x).take K).map (Value.int .u8)) ++ r := by
    rw [List.set_append_left _ _ (by rw [List.length_map, List.length_take]; omega), List.take_set, List.map_set]
  rw [← e2]
  simp [World.setCell, Array.getElem_modify, er, hlt]
theorem Only.cell1 (w : World) (g k : Nat) (v : Value) : Only g w (w.setCell ⟨g, k, none⟩ v) := Only.set1 w ⟨g, k, none⟩ v

theorem rsize_any (rb g K N : Nat) (L : List Int) (w : World) (h : RMem w rb g K L) (hK : K = 32 * N) : Calls Try.prog 64 #[.pointer (some ⟨rb, 0, none⟩)] w fun e w' => e = .returned (.int .i64 N) ∧ w' = w := by
  obtain ⟨C, hC, hc⟩ := h.c
  have hq : (K : Int).tdiv 32 = (N : Int) := by rw [Int.tdiv_eq_ediv_of_nonneg (by omega)]; omega
  have hh := h.hi
  have hN : (N : Int) ≤ 64 := by omega
  clear hK
  go_enter Try.func64, Try.ntmps64
  go_wp2
  go_ret
  exact ⟨rfl, rfl⟩
set_option maxHeartbeats 1000000 in
theorem may_any (rb g K N : Nat) (f o m : Int) (L : List Int) (w : World) (h : RMem w rb g K L) (hK : K = 32 * N) (hm : 0 ≤ m ∧ m ≤ 32) : Calls Try.prog 82 #[.pointer (some ⟨rb, 0, none⟩), .int .i64 f, .int .i64 o, .int .i64 m] w fun e w' => e = .returned (.int .i64 (inE N f o m)) ∧ w' = w := by
  have c1 := rsize_any rb g K N L w h hK
  have hh := h.hi
  have hN : (N : Int) ≤ 64 := by omega
  clear hK h
  unfold inE
  by_cases q : inB N f o m = true
  · rw [if_pos q]
    obtain ⟨h1, h2, h3, h4⟩ := inB_t q
    have g1 : ¬ f < 0 := by omega
    have g2 : ¬ (N : Int) ≤ f := by omega
    have g3 : ¬ o < 0 := by omega
    have g4 : ¬ 32 - m < o := by omega
    clear q
    go_enter Try.func82, Try.ntmps82
    go_wp2_with fail
    refine c1.mono ?_
    rintro e W1 ⟨rfl, rfl⟩
    go_wp2
    go_ret
    exact ⟨rfl, rfl⟩
  · rw [if_neg q]
    have hq := inB_f q
    clear q
    by_cases g1 : f < 0
    · clear hq
      go_enter Try.func82, Try.ntmps82
      go_wp2
      go_ret
      exact ⟨rfl, rfl⟩
    by_cases g2 : (N : Int) ≤ f
    · clear hq
      go_enter Try.func82, Try.ntmps82
      go_wp2_with fail
      refine c1.mono ?_
      rintro e W1 ⟨rfl, rfl⟩
      go_wp2
      go_ret
      exact ⟨rfl, rfl⟩
    by_cases g3 : o < 0
    · clear hq
      go_enter Try.func82, Try.ntmps82
      go_wp2_with fail
      refine c1.mono ?_
      rintro e W1 ⟨rfl, rfl⟩
      go_wp2
      go_ret
      exact ⟨rfl, rfl⟩
    · have g4 : 32 - m < o := by omega
      clear hq
      go_enter Try.func82, Try.ntmps82
      go_wp2_with fail
      refine c1.mono ?_
      rintro e W1 ⟨rfl, rfl⟩
      go_wp2
      go_ret
      exact ⟨rfl, rfl⟩
set_option maxHeartbeats 1000000 in
theorem rsetbyte_any (rb g K N : Nat) (f o x : Int) (L : List Int) (w : World) (h : RMem w rb g K L) (hK : K = 32 * N) : Calls Try.prog 78 #[.pointer (some ⟨rb, 0, none⟩), .int .i64 f, .int .i64 o, .int .u8 x] w fun e w' => e = .returned (.int .i64 (inE N f o 1)) ∧ RMem w' rb g K (sbL N L f o x) ∧ Only g w w' := by
  have c1 := may_any rb g K N f o 1 L w h hK (by decide)
  unfold inE at *
  unfold sbL
  by_cases q : inB N f o 1 = true
  · rw [if_pos q] at c1 ⊢
    rw [if_pos q]
    obtain ⟨h1, h2, h3, h4⟩ := inB_t q
    have hh := h.hi
    obtain ⟨p, hp⟩ : ∃ p : Nat, p = plc f o := ⟨_, rfl⟩
    rw [← hp]
    have hp1 : f * 32 + o = (p : Int) := by unfold plc at hp; omega
    have hpK : p < K := by omega
    have hpz : (p : Int) < (K : Int) := by omega
    have hx := h.byte p hpK
    have hfr := h.free p
    obtain ⟨C, hC, hc⟩ := h.c
    have hf64 : f < 64 := by omega
    have ho32 : o < 32 := by omega
    clear q h4 hp hK
    go_enter Try.func78, Try.ntmps78
    go_wp2_with fail
    refine c1.mono ?_
    rintro e W1 ⟨rfl, rfl⟩
    clear c1
    go_wp2
    go_ret
    exact ⟨rfl, h.set1 p hpK x, Only.cell1 _ _ _ _⟩
  · rw [if_neg q] at c1 ⊢
    rw [if_neg q]
    clear q
    go_enter Try.func78, Try.ntmps78
    go_wp2_with fail
    refine c1.mono ?_
    rintro e W1 ⟨rfl, rfl⟩
    go_wp2
    go_ret
    exact ⟨rfl, h, Only.refl _ _⟩
end Go.Proofs.Ytfmcoibpbcheiaa
namespace Go.Proofs.Ytfmcoibpbcheiaa
open Go.RowKit Go.Maps
set_option linter.unusedVariables false
set_option maxRecDepth 100000
set_option maxHeartbeats 1000000 in
theorem rbyte_any (rb g K N : Nat) (f o : Int) (L : List Int) (w : World) (h : RMem w rb g K L) (hK : K = 32 * N) : Calls Try.prog 63 #[.pointer (some ⟨rb, 0, none⟩), .int .i64 f, .int .i64 o] w fun e w' => e = .returned (.tuple #[.int .u8 (if inB N f o 1 = true then L.getD (plc f o) 0 else 0), .int .i64 (inE N f o 1)]) ∧ w' = w := by
  have c1 := may_any rb g K N f o 1 L w h hK (by decide)
  unfold inE at *
  by_cases q : inB N f o 1 = true
  · rw [if_pos q] at c1 ⊢
    rw [if_pos q]
    obtain ⟨h1, h2, h3, h4⟩ := inB_t q
    have hh := h.hi
    obtain ⟨p, hp⟩ : ∃ p : Nat, p = plc f o := ⟨_, rfl⟩
    rw [← hp]
    have hp1 : f * 32 + o = (p : Int) := by unfold plc at hp; omega
    have hpK : p + 1 ≤ K := by omega
    obtain ⟨C, hC, hc⟩ := h.c
    have hf64 : f < 64 := by omega
    have ho32 : o < 32 := by omega
    have hpz : (p : Int) < (K : Int) := by omega
    have hx := h.byte p (by omega)
    generalize L.getD p 0 = X at *
    clear q h4 hp hK h
    go_enter Try.func63, Try.ntmps63
    go_wp2_with fail
    refine c1.mono ?_
    rintro e W1 ⟨rfl, rfl⟩
    clear c1
    go_wp2
    go_ret2
    exact ⟨rfl, rfl⟩
  · rw [if_neg q] at c1 ⊢
    rw [if_neg q]
    clear q
    go_enter Try.func63, Try.ntmps63
    go_wp2_with fail
    refine c1.mono ?_
    rintro e W1 ⟨rfl, rfl⟩
    go_wp2
    go_ret2
    exact ⟨rfl, rfl⟩
end Go.Proofs.Ytfmcoibpbcheiaa
namespace Go.Proofs.Ytfmcoibpbcheiaa
open Go.RowKit Go.Maps
set_option linter.unusedVariables false
set_option maxRecDepth 100000
theorem putL_snoc {L vs : List Int} {k i : Nat} (h : k + vs.length ≤ L.length) (hi : i < vs.length) : putL (putL L k (vs.take i)) (k + i) [vs.getD i 0] = putL L k (vs.take (i + 1)) := by
  have e := putL_take (L := L) (vs := vs) (K := k) (d := i) (m := 1) h (by omega)
  rw [← e]
  congr 1
  rw [List.drop_eq_getElem_cons hi, List.getD_eq_getElem?_getD, List.getElem?_eq_getElem hi]
  rfl
set_option maxHeartbeats 2000000 in
theorem rzero_any (rb g K N : Nat) (f : Int) (L : List Int) (w : World) (h : RMem w rb g K L) (hK : K = 32 * N) : Calls Try.prog 76 #[.pointer (some ⟨rb, 0, none⟩), .int .i64 f] w fun e w' => e = .returned (.int .i64 (inE N f 0 1)) ∧ RMem w' rb g K (zrL N L f) ∧ Only g w w' := by
  have c1 := may_any rb g K N f 0 1 L w h hK (by decide)
  unfold inE at *
  unfold zrL
  by_cases q : inB N f 0 1 = true
  · rw [if_pos q] at c1 ⊢
    rw [if_pos q]
    obtain ⟨h1, h2, h3, h4⟩ := inB_t q
    obtain ⟨F, rfl⟩ := Int.eq_ofNat_of_zero_le h1
    rw [Int.toNat_natCast]
    have hh := h.hi
    have hK1 : F * 32 + 32 ≤ K := by omega
    have hF64 : (F : Int) < 64 := by omega
    obtain ⟨Z, hZ⟩ : ∃ Z : List Int, Z = List.replicate 32 0 := ⟨_, rfl⟩
    rw [← hZ]
    have HZ : Hid3 (Z.length = 32 ∧ ∀ i, Z.getD i 0 = 0) := ⟨by rw [hZ]; exact List.length_replicate, fun i => by
      rw [hZ, List.getD_eq_getElem?_getD, List.getElem?_replicate]
      split <;> rfl⟩
    clear q h4 hZ hK
    go_enter Try.func76, Try.ntmps76
    go_wp2_with fail
    refine c1.mono ?_
    rintro e W1 ⟨rfl, rfl⟩
    clear c1
    go_wp2
    go_loopw [6] (fun s6 wr => ∃ i : Nat, i ≤ 32 ∧ s6 = .int .i64 i ∧ RMem wr rb g K (putL L (F * 32) (Z.take i)) ∧ Only g W1 wr) (fun s6 _ => 32 - (intOf s6).toNat)
    case atStart => exact ⟨0, by omega, rfl, by rw [List.take_zero, putL_nil]; exact h, Only.refl _ _⟩
    case round =>
      obtain ⟨i, hi, rfl, hM, hO⟩ := hrel
      by_cases hlt : i < 32
      · have hltz : (i : Int) < 32 := by omega
        obtain ⟨C, hC, hc⟩ := hM.c
        obtain ⟨p, hp⟩ : ∃ p : Nat, p = F * 32 + i := ⟨_, rfl⟩
        have hp1 : (F : Int) * 32 + (i : Int) = (p : Int) := by omega
        have hpK : (p : Int) < (K : Int) := by omega
        have hx := hM.byte p (by omega)
        have hfr := hM.free p
        have k1 := hM.set1 p (by omega) 0
        have k2 := putL_snoc (L := L) (vs := Z) (k := F * 32) (i := i) (by rw [HZ.out.1, h.len]; omega) (by rw [HZ.out.1]; exact hlt)
        rw [HZ.out.2, ← hp] at k2
        rw [k2] at k1
        have HM : Hid3 (RMem (wr.setCell ⟨g, p, none⟩ (.int .u8 0)) rb g K (putL L (F * 32) (Z.take (i + 1)))) := ⟨k1⟩
        clear k1 k2 hp hM
        go_wp2
        go_roundw
        case rel => exact ⟨i + 1, by omega, by go_num, HM.out, hO.trans (Only.cell1 _ _ _ _)⟩
        case measure => simp [intOf]; omega
      · have hltz : ¬ (i : Int) < 32 := by omega
        go_wp2
        go_ret
        refine ⟨rfl, ?_, hO⟩
        rw [List.take_of_length_le (by rw [HZ.out.1]; omega)] at hM
        exact hM
  · rw [if_neg q] at c1 ⊢
    rw [if_neg q]
    clear q
    go_enter Try.func76, Try.ntmps76
    go_wp2_with fail
    refine c1.mono ?_
    rintro e W1 ⟨rfl, rfl⟩
    go_wp2
    go_ret
    exact ⟨rfl, h, Only.refl _ _⟩
set_option maxHeartbeats 4000000 in
theorem rcopy_any (rb g K N : Nat) (t f : Int) (L : List Int) (w : World) (h : RMem w rb g K L) (hK : K = 32 * N) : Calls Try.prog 77 #[.pointer (some ⟨rb, 0, none⟩), .int .i64 t, .int .i64 f] w fun e w' => e = .returned (.int .i64 (cpE N t f)) ∧ RMem w' rb g K (cpL N L t f) ∧ Only g w w' := by
  have c1 := may_any rb g K N t 0 1 L w h hK (by decide)
  have c2 := may_any rb g K N f 0 1 L w h hK (by decide)
  unfold inE at *
  unfold cpL cpE cpB
  by_cases q : inB N t 0 1 = true
  · rw [if_pos q] at c1
    rw [q]
    by_cases q2 : inB N f 0 1 = true
    · rw [if_pos q2] at c2
      rw [q2, if_pos (by rfl), if_pos (by rfl)]
      obtain ⟨h1, h2, h3, h4⟩ := inB_t q
      obtain ⟨h5, h6, h7, h8⟩ := inB_t q2
      obtain ⟨T, rfl⟩ := Int.eq_ofNat_of_zero_le h1
      obtain ⟨F, rfl⟩ := Int.eq_ofNat_of_zero_le h5
      rw [Int.toNat_natCast, Int.toNat_natCast]
      have hh := h.hi
      have hK1 : T * 32 + 32 ≤ K := by omega
      have hK2 : F * 32 + 32 ≤ K := by omega
      have hT64 : (T : Int) < 64 := by omega
      have hF64 : (F : Int) < 64 := by omega
      obtain ⟨Z, hZ⟩ : ∃ Z : List Int, Z = frL L F := ⟨_, rfl⟩
      rw [← hZ]
      have HZ : Hid3 (Z.length = 32 ∧ ∀ i, i < 32 → Z.getD i 0 = L.getD (F * 32 + i) 0) := ⟨by rw [hZ]; exact frL_len h.len (by omega), fun i hi => by
        rw [hZ, frL, List.getD_eq_getElem?_getD, List.getD_eq_getElem?_getD, List.getElem?_take, if_pos hi, List.getElem?_drop]⟩
      clear q q2 h4 h8 hZ hK h3 h7
      go_enter Try.func77, Try.ntmps77
      go_wp2_with fail
      refine c1.mono ?_
      rintro e W1 ⟨rfl, rfl⟩
      clear c1
      go_wp2_with fail
      refine c2.mono ?_
      rintro e W1 ⟨rfl, rfl⟩
      clear c2
      go_wp2
      go_loopw [9] (fun s9 wr => ∃ i : Nat, i ≤ 32 ∧ s9 = .int .i64 i ∧ RMem wr rb g K (putL L (T * 32) (Z.take i)) ∧ Only g W1 wr) (fun s9 _ => 32 - (intOf s9).toNat)
      case atStart => exact ⟨0, by omega, rfl, by rw [List.take_zero, putL_nil]; exact h, Only.refl _ _⟩
      case round =>
        obtain ⟨i, hi, rfl, hM, hO⟩ := hrel
        by_cases hlt : i < 32
        · have hltz : (i : Int) < 32 := by omega
          obtain ⟨C, hC, hc⟩ := hM.c
          obtain ⟨p, hp⟩ : ∃ p : Nat, p = T * 32 + i := ⟨_, rfl⟩
          obtain ⟨r, hr⟩ : ∃ r : Nat, r = F * 32 + i := ⟨_, rfl⟩
          have hp1 : (T : Int) * 32 + (i : Int) = (p : Int) := by omega
          have hr1 : (F : Int) * 32 + (i : Int) = (r : Int) := by omega
          have hpK : (p : Int) < (K : Int) := by omega
          have hrK : (r : Int) < (K : Int) := by omega
          have hx := hM.byte p (by omega)
          have hy := hM.byte r (by omega)
          have eI : (Z.take i).length = i := by rw [List.length_take, HZ.out.1]; omega
          rw [putL_out (by rw [eI, h.len]; omega) (by rw [eI]; omega), hr, ← HZ.out.2 i hlt, ← hr] at hy
          have hfr := hM.free p
          have k1 := hM.set1 p (by omega) (Z.getD i 0)
          have k2 := putL_snoc (L := L) (vs := Z) (k := T * 32) (i := i) (by rw [HZ.out.1, h.len]; omega) (by rw [HZ.out.1]; exact hlt)
          rw [← hp] at k2
          rw [k2] at k1
          generalize Z.getD i 0 = X at *
          generalize (putL L (T * 32) (Z.take i)).getD p 0 = Y at *
          have HM : Hid3 (RMem (wr.setCell ⟨g, p, none⟩ (.int .u8 X)) rb g K (putL L (T * 32) (Z.take (i + 1)))) := ⟨k1⟩
          clear k1 k2 hp hr hM eI
          go_wp2_with fail
          go_region
          all_goals
            go_wp2
            go_roundw
            case rel => exact ⟨i + 1, by omega, by go_num, HM.out.below (Below.refl _ _).drew, (hO.trans (Only.cell1 _ _ _ _)).trans (Only.of_below (Below.refl _ _).drew)⟩
            case measure => simp [intOf]; omega
        · have hltz : ¬ (i : Int) < 32 := by omega
          go_wp2
          go_ret
          refine ⟨rfl, ?_, hO⟩
          rw [List.take_of_length_le (by rw [HZ.out.1]; omega)] at hM
          exact hM
    · rw [if_neg q2] at c2
      have e2 : inB N f 0 1 = false := by simpa using q2
      rw [e2, if_neg (by decide), if_neg (by decide)]
      clear q q2 e2
      go_enter Try.func77, Try.ntmps77
      go_wp2_with fail
      refine c1.mono ?_
      rintro e W1 ⟨rfl, rfl⟩
      go_wp2_with fail
      refine c2.mono ?_
      rintro e W1 ⟨rfl, rfl⟩
      go_wp2
      go_ret
      exact ⟨rfl, h, Only.refl _ _⟩
  · rw [if_neg q] at c1
    have e1 : inB N t 0 1 = false := by simpa using q
    rw [e1, if_neg (by simp), if_neg (by simp)]
    clear q e1 c2
    go_enter Try.func77, Try.ntmps77
    go_wp2_with fail
    refine c1.mono ?_
    rintro e W1 ⟨rfl, rfl⟩
    go_wp2
    go_ret
    exact ⟨rfl, h, Only.refl _ _⟩
end Go.Proofs.Ytfmcoibpbcheiaa
