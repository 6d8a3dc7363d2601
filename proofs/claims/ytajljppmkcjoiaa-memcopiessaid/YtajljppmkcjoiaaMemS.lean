/- The document's memory: what is read and written. -/
import Derived.Test.YtajljppmkcjoiaaMemR
namespace Go.Proofs.Ytajljppmkcjoiaa
open Go.RowKit Go.Maps
set_option linter.unusedVariables false
set_option maxRecDepth 100000
theorem rbytes2_any (x : Int) (w : World) (h0 : 0 ≤ x) (h1 : x ≤ 65535) :
    Calls Try.prog 47 #[.int .u16 x] w fun e w' => e = .returned (.agg #[.int .u8 (x / 256), .int .u8 (x % 256)]) ∧ Below w.heap.size w w' := by
  go_enter Try.func47, Try.ntmps47
  go_wp2
  exact bodyPost_ret (v := .agg #[.int .u8 (x / 256), .int .u8 (x % 256)]) (by simp [results, Try.results47, go_sem]) rfl ⟨rfl, (Below.refl _ _).alloc (Nat.le_refl _) _⟩
set_option maxHeartbeats 1000000 in
theorem rbyte_any (rb g K N : Nat) (f o : Int) (L : List Int) (w : World) (h : RMem w rb g K L) (hK : K = 32 * N) : Calls Try.prog 15 #[.pointer (some ⟨rb, 0, none⟩), .int .i64 f, .int .i64 o] w fun e w' => e = .returned (.tuple #[.int .u8 (if inB N f o 1 = true then L.getD (plc f o) 0 else 0), .int .i64 (inE N f o 1)]) ∧ w' = w := by
  have c1 := may_any rb g K N f o 1 L w h hK (by decide)
  unfold inE at *
  by_cases q : inB N f o 1 = true
  · rw [if_pos q] at c1 ⊢
    rw [if_pos q]
    obtain ⟨h1, h2, h3, h4⟩ := inB_t q
    have hh := h.hi
    obtain ⟨p, hp⟩ : ∃ p : Nat, p = plc f o := ⟨_, rfl⟩
    rw [← hp]
    have hp1 : f * 32 + o = (p : Int) := by unfold plc at hp; omega
    have hpK : p + 1 ≤ K := by omega
    obtain ⟨C, hC, hc⟩ := h.c
    have hf64 : f < 64 := by omega
    have ho32 : o < 32 := by omega
    have hpz : (p : Int) < (K : Int) := by omega
    have hx := h.byte p (by omega)
    generalize L.getD p 0 = X at *
    clear q h4 hp hK h
    go_enter Try.func15, Try.ntmps15
    go_wp2_with fail
    refine c1.mono ?_
    rintro e W1 ⟨rfl, rfl⟩
    clear c1
    go_wp2
    go_ret2
    exact ⟨rfl, rfl⟩
  · rw [if_neg q] at c1 ⊢
    rw [if_neg q]
    clear q
    go_enter Try.func15, Try.ntmps15
    go_wp2_with fail
    refine c1.mono ?_
    rintro e W1 ⟨rfl, rfl⟩
    go_wp2
    go_ret2
    exact ⟨rfl, rfl⟩
set_option maxHeartbeats 2000000 in
theorem rsetword_any (rb g K N : Nat) (f o x : Int) (L : List Int) (w : World) (h : RMem w rb g K L) (hK : K = 32 * N) (hx : 0 ≤ x ∧ x ≤ 65535) : Calls Try.prog 41 #[.pointer (some ⟨rb, 0, none⟩), .int .i64 f, .int .i64 o, .int .u16 x] w fun e w' => e = .returned (.int .i64 (inE N f o 2)) ∧ RMem w' rb g K (swL N L f o x) ∧ Only g w w' := by
  have c1 := may_any rb g K N f o 2 L w h hK (by decide)
  unfold inE at *
  unfold swL
  by_cases q : inB N f o 2 = true
  · rw [if_pos q] at c1 ⊢
    rw [if_pos q]
    obtain ⟨h1, h2, h3, h4⟩ := inB_t q
    have hh := h.hi
    obtain ⟨p, hp⟩ : ∃ p : Nat, p = plc f o := ⟨_, rfl⟩
    rw [← hp]
    have hp1 : f * 32 + o = (p : Int) := by unfold plc at hp; omega
    have hpK : p + 2 ≤ K := by omega
    obtain ⟨C, hC, hc⟩ := h.c
    have hf64 : f < 64 := by omega
    have ho32 : o < 32 := by omega
    have hpz : (p : Int) < (K : Int) := by omega
    have hpz2 : (p : Int) + 1 < (K : Int) := by omega
    have c2 := rbytes2_any x w hx.1 hx.2
    clear q h4 hp hK
    go_enter Try.func41, Try.ntmps41
    go_wp2_with fail
    refine c1.mono ?_
    rintro e W1 ⟨rfl, rfl⟩
    clear c1
    go_wp2_with fail
    refine c2.mono ?_
    rintro e W2 ⟨rfl, hB2⟩
    clear c2
    go_wp2_with fail
    have hB3 := hB2.alloc hB2.size (.cells #[.int .u8 (x / 256), .int .u8 (x % 256)] 42)
    have hR3 := h.below hB3
    have y0 : (W2.alloc (.cells #[.int .u8 (x / 256), .int .u8 (x % 256)] 42)).cell? ⟨W2.heap.size, 0, none⟩ = some (.int .u8 (x / 256)) := by rw [cell_of_row _ _ _ _ _ _ (heap_alloc_last W2 _)]; rfl
    have y1 : (W2.alloc (.cells #[.int .u8 (x / 256), .int .u8 (x % 256)] 42)).cell? ⟨W2.heap.size, 1, none⟩ = some (.int .u8 (x % 256)) := by rw [cell_of_row _ _ _ _ _ _ (heap_alloc_last W2 _)]; rfl
    have hg : g < W2.heap.size := Nat.lt_of_lt_of_le h.ltg hB2.size
    have hne : W2.heap.size ≠ g := by omega
    have hrg := h.ne
    have hO3 : Only g W1 (W2.alloc (.cells #[.int .u8 (x / 256), .int .u8 (x % 256)] 42)) := Only.of_below hB3
    clear hB2 hB3 hc hC h
    generalize W2.alloc (.cells #[.int .u8 (x / 256), .int .u8 (x % 256)] 42) = W3 at *
    obtain ⟨C, hC, hc⟩ := hR3.c
    have b0 := hR3.byte p (by omega)
    have b1 := hR3.byte (p + 1) (by omega)
    have f0 := hR3.free p
    have f1 := hR3.free (p + 1)
    generalize W2.heap.size = xb at *
    have fin : RMem ((W3.setCell ⟨g, p, none⟩ (.int .u8 (x / 256))).setCell ⟨g, p + 1, none⟩ (.int .u8 (x % 256))) rb g K (putL L p [x / 256, x % 256]) := by
      have k := (hR3.set1 p (by omega) (x / 256)).set1 (p + 1) (by omega) (x % 256)
      have e := putL_putL (L := L) (u := [x / 256]) (v := [x % 256]) (k := p) (by rw [hR3.len]; simp; omega)
      simp only [List.length_singleton, List.singleton_append] at e
      rw [e] at k
      exact k
    have HF : Hid3 (RMem ((W3.setCell ⟨g, p, none⟩ (.int .u8 (x / 256))).setCell ⟨g, p + 1, none⟩ (.int .u8 (x % 256))) rb g K (putL L p [x / 256, x % 256]) ∧ Only g W1 ((W3.setCell ⟨g, p, none⟩ (.int .u8 (x / 256))).setCell ⟨g, p + 1, none⟩ (.int .u8 (x % 256)))) := ⟨fin, (hO3.trans (Only.cell1 _ _ _ _)).trans (Only.cell1 _ _ _ _)⟩
    clear fin hO3 hR3
    go_region
    all_goals
      go_wp2
      go_ret
      exact ⟨rfl, HF.out.1.below (Below.refl _ _).drew, HF.out.2.trans (Only.of_below (Below.refl _ _).drew)⟩
  · rw [if_neg q] at c1 ⊢
    rw [if_neg q]
    clear q
    go_enter Try.func41, Try.ntmps41
    go_wp2_with fail
    refine c1.mono ?_
    rintro e W1 ⟨rfl, rfl⟩
    go_wp2
    go_ret
    exact ⟨rfl, h, Only.refl _ _⟩
end Go.Proofs.Ytajljppmkcjoiaa
