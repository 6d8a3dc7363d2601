/- The document's memory: a row of bytes. The document's memory: what is read and written. The document's memory: frames that are zeroed, copied, filled; a new one; a word. -/
import Derived.Test.YtdmahmolhdbegaaMemI
import Derived.BigRegion
namespace Go.Proofs.Ytdmahmolhdbegaa
open Go.RowKit Go.Maps
set_option linter.unusedVariables false
set_option maxRecDepth 100000
structure RMem (w : World) (rb g K : Nat) (L : List Int) : Prop where
  blk : ∃ C, K ≤ C ∧ w.heap[rb]? = some (.cells #[.slice (some ⟨g, 0, none⟩) K C] 117)
  row : ∃ rest, w.heap[g]? = some (.cells ((L.take K).map (Value.int .u8) ++ rest).toArray 5)
  len : L.length = 2048
  ne : rb ≠ g
  hi : K ≤ 2048
theorem RMem.lt {w : World} {rb g K : Nat} {L : List Int} (h : RMem w rb g K L) : rb < w.heap.size := by
  obtain ⟨C, _, e⟩ := h.blk
  exact (Array.getElem?_eq_some_iff.1 e).1
theorem RMem.ltg {w : World} {rb g K : Nat} {L : List Int} (h : RMem w rb g K L) : g < w.heap.size := by
  obtain ⟨_, e⟩ := h.row
  exact (Array.getElem?_eq_some_iff.1 e).1
theorem RMem.keep {w w' : World} {rb g K : Nat} {L : List Int} (h : RMem w rb g K L) (h1 : w'.heap[rb]? = w.heap[rb]?) (h2 : w'.heap[g]? = w.heap[g]?) : RMem w' rb g K L := by
  obtain ⟨C, hC, e⟩ := h.blk
  obtain ⟨r, e2⟩ := h.row
  exact ⟨⟨C, hC, h1.trans e⟩, ⟨r, h2.trans e2⟩, h.len, h.ne, h.hi⟩
theorem RMem.only {w w' : World} {b rb g K : Nat} {L : List Int} (h : RMem w rb g K L) (k : Only b w w') (h1 : rb ≠ b) (h2 : g ≠ b) : RMem w' rb g K L := h.keep (k.block rb h.lt h1) (k.block g h.ltg h2)
theorem RMem.below {w w' : World} {rb g K : Nat} {L : List Int} (h : RMem w rb g K L) (k : Below w.heap.size w w') : RMem w' rb g K L := h.keep (k.block rb h.lt) (k.block g h.ltg)
theorem RMem.c {w : World} {rb g K : Nat} {L : List Int} (h : RMem w rb g K L) : ∃ C : Nat, K ≤ C ∧ w.cell? ⟨rb, 0, none⟩ = some (.slice (some ⟨g, 0, none⟩) K C) := by
  obtain ⟨C, hC, e⟩ := h.blk
  refine ⟨C, hC, ?_⟩
  rw [cell_of_row w rb _ _ _ _ e]
  rfl
theorem RMem.byte {w : World} {rb g K : Nat} {L : List Int} (h : RMem w rb g K L) (k : Nat) (hk : k < K) : w.cell? ⟨g, k, none⟩ = some (.int .u8 (L.getD k 0)) := by
  obtain ⟨r, e⟩ := h.row
  rw [cell_of_row w g _ _ _ _ e]
  have h2 : k < L.length := by rw [h.len]; have := h.hi; omega
  rw [List.getElem?_toArray, List.getElem?_append_left (by rw [List.length_map, List.length_take]; omega)]
  simp only [List.getElem?_map, List.getElem?_take, if_pos hk, List.getD_eq_getElem?_getD, List.getElem?_eq_getElem h2, Option.map_some, Option.getD_some]
theorem RMem.free {w : World} {rb g K : Nat} {L : List Int} (h : RMem w rb g K L) (k : Nat) : w.frozen? ⟨g, k, none⟩ = false := by
  obtain ⟨r, e⟩ := h.row
  simp [World.frozen?, e]
theorem RMem.set1 {w : World} {rb g K : Nat} {L : List Int} (h : RMem w rb g K L) (k : Nat) (hk : k < K) (x : Int) : RMem (w.setCell ⟨g, k, none⟩ (.int .u8 x)) rb g K (putL L k [x]) := by
  have hh := h.hi
  have hl := h.len
  have hk2 : k < L.length := by omega
  obtain ⟨C, hC, eb⟩ := h.blk
  obtain ⟨r, er⟩ := h.row
  refine ⟨⟨C, hC, (Below.heap_setCell w ⟨g, k, none⟩ _ rb h.ne).trans eb⟩, ⟨r, ?_⟩, by rw [putL_length (by simp; omega)]; exact h.len, h.ne, h.hi⟩
  rw [putL_one x hk2]
  have hlt := h.ltg
  rw [Array.getElem?_eq_getElem hlt] at er
  injection er with er
  have e2 : (((L.take K).map (Value.int .u8)) ++ r).set k (.int .u8 x) = (((L.set k x).take K).map (Value.int .u8)) ++ r := by
    rw [List.set_append_left _ _ (by rw [List.length_map, List.length_take]; omega), List.take_set, List.map_set]
  rw [← e2]
  simp [World.setCell, Array.getElem_modify, er, hlt]
theorem Only.cell1 (w : World) (g k : Nat) (v : Value) : Only g w (w.setCell ⟨g, k, none⟩ v) := Only.set1 w ⟨g, k, none⟩ v

theorem rsize_any (rb g K N : Nat) (L : List Int) (w : World) (h : RMem w rb g K L) (hK : K = 32 * N) : Calls Try.prog 40 #[.pointer (some ⟨rb, 0, none⟩)] w fun e w' => e = .returned (.int .i64 N) ∧ w' = w := by
  obtain ⟨C, hC, hc⟩ := h.c
  have hq : (K : Int).tdiv 32 = (N : Int) := by rw [Int.tdiv_eq_ediv_of_nonneg (by omega)]; omega
  have hh := h.hi
  have hN : (N : Int) ≤ 64 := by omega
  clear hK
  go_enter Try.func40, Try.ntmps40
  go_wp2
  go_ret
  exact ⟨rfl, rfl⟩
set_option maxHeartbeats 1000000 in
theorem may_any (rb g K N : Nat) (f o m : Int) (L : List Int) (w : World) (h : RMem w rb g K L) (hK : K = 32 * N) (hm : 0 ≤ m ∧ m ≤ 32) : Calls Try.prog 64 #[.pointer (some ⟨rb, 0, none⟩), .int .i64 f, .int .i64 o, .int .i64 m] w fun e w' => e = .returned (.int .i64 (inE N f o m)) ∧ w' = w := by
  have c1 := rsize_any rb g K N L w h hK
  have hh := h.hi
  have hN : (N : Int) ≤ 64 := by omega
  clear hK h
  unfold inE
  by_cases q : inB N f o m = true
  · rw [if_pos q]
    obtain ⟨h1, h2, h3, h4⟩ := inB_t q
    have g1 : ¬ f < 0 := by omega
    have g2 : ¬ (N : Int) ≤ f := by omega
    have g3 : ¬ o < 0 := by omega
    have g4 : ¬ 32 - m < o := by omega
    clear q
    go_enter Try.func64, Try.ntmps64
    go_wp2_with fail
    refine c1.mono ?_
    rintro e W1 ⟨rfl, rfl⟩
    go_wp2
    go_ret
    exact ⟨rfl, rfl⟩
  · rw [if_neg q]
    have hq := inB_f q
    clear q
    by_cases g1 : f < 0
    · clear hq
      go_enter Try.func64, Try.ntmps64
      go_wp2
      go_ret
      exact ⟨rfl, rfl⟩
    by_cases g2 : (N : Int) ≤ f
    · clear hq
      go_enter Try.func64, Try.ntmps64
      go_wp2_with fail
      refine c1.mono ?_
      rintro e W1 ⟨rfl, rfl⟩
      go_wp2
      go_ret
      exact ⟨rfl, rfl⟩
    by_cases g3 : o < 0
    · clear hq
      go_enter Try.func64, Try.ntmps64
      go_wp2_with fail
      refine c1.mono ?_
      rintro e W1 ⟨rfl, rfl⟩
      go_wp2
      go_ret
      exact ⟨rfl, rfl⟩
    · have g4 : 32 - m < o := by omega
      clear hq
      go_enter Try.func64, Try.ntmps64
      go_wp2_with fail
      refine c1.mono ?_
      rintro e W1 ⟨rfl, rfl⟩
      go_wp2
      go_ret
      exact ⟨rfl, rfl⟩
set_option maxHeartbeats 1000000 in
theorem rsetbyte_any (rb g K N : Nat) (f o x : Int) (L : List Int) (w : World) (h : RMem w rb g K L) (hK : K = 32 * N) : Calls Try.prog 62 #[.pointer (some ⟨rb, 0, none⟩), .int .i64 f, .int .i64 o, .int .u8 x] w fun e w' => e = .returned (.int .i64 (inE N f o 1)) ∧ RMem w' rb g K (sbL N L f o x) ∧ Only g w w' := by
  have c1 := may_any rb g K N f o 1 L w h hK (by decide)
  unfold inE at *
  unfold sbL
  by_cases q : inB N f o 1 = true
  · rw [if_pos q] at c1 ⊢
    rw [if_pos q]
    obtain ⟨h1, h2, h3, h4⟩ := inB_t q
    have hh := h.hi
    obtain ⟨p, hp⟩ : ∃ p : Nat, p = plc f o := ⟨_, rfl⟩
    rw [← hp]
    have hp1 : f * 32 + o = (p : Int) := by unfold plc at hp; omega
    have hpK : p < K := by omega
    have hpz : (p : Int) < (K : Int) := by omega
    have hx := h.byte p hpK
    have hfr := h.free p
    obtain ⟨C, hC, hc⟩ := h.c
    have hf64 : f < 64 := by omega
    have ho32 : o < 32 := by omega
    clear q h4 hp hK
    go_enter Try.func62, Try.ntmps62
    go_wp2_with fail
    refine c1.mono ?_
    rintro e W1 ⟨rfl, rfl⟩
    clear c1
    go_wp2
    go_ret
    exact ⟨rfl, h.set1 p hpK x, Only.cell1 _ _ _ _⟩
  · rw [if_neg q] at c1 ⊢
    rw [if_neg q]
    clear q
    go_enter Try.func62, Try.ntmps62
    go_wp2_with fail
    refine c1.mono ?_
    rintro e W1 ⟨rfl, rfl⟩
    go_wp2
    go_ret
    exact ⟨rfl, h, Only.refl _ _⟩
end Go.Proofs.Ytdmahmolhdbegaa
namespace Go.Proofs.Ytdmahmolhdbegaa
open Go.RowKit Go.Maps
set_option linter.unusedVariables false
set_option maxRecDepth 100000
end Go.Proofs.Ytdmahmolhdbegaa
namespace Go.Proofs.Ytdmahmolhdbegaa
open Go.RowKit Go.Maps
set_option linter.unusedVariables false
set_option maxRecDepth 100000
theorem putL_snoc {L vs : List Int} {k i : Nat} (h : k + vs.length ≤ L.length) (hi : i < vs.length) : putL (putL L k (vs.take i)) (k + i) [vs.getD i 0] = putL L k (vs.take (i + 1)) := by
  have e := putL_take (L := L) (vs := vs) (K := k) (d := i) (m := 1) h (by omega)
  rw [← e]
  congr 1
  rw [List.drop_eq_getElem_cons hi, List.getD_eq_getElem?_getD, List.getElem?_eq_getElem hi]
  rfl
end Go.Proofs.Ytdmahmolhdbegaa
