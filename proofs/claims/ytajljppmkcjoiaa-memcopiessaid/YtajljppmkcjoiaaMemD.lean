/- A memory: a word is written. -/
import Derived.Test.YtajljppmkcjoiaaMemC
namespace Go.Proofs.Ytajljppmkcjoiaa
open Go.RowKit Go.Maps
set_option linter.unusedVariables false
set_option maxRecDepth 100000

theorem mbytes_any (x : Int) (w : World) (h0 : 0 ≤ x) (h1 : x < 65536) :
    Calls Try.prog 39 #[.int .u16 x] w fun e w' => e = .returned (.agg #[.int .u8 (x / 256), .int .u8 (x % 256)]) ∧ Below w.heap.size w w' := by
  go_enter Try.func39, Try.ntmps39
  go_wp2
  exact bodyPost_ret (v := .agg #[.int .u8 (x / 256), .int .u8 (x % 256)]) (by simp [results, Try.results39, go_sem]) rfl ⟨rfl, (Below.refl _ _).alloc (Nat.le_refl _) _⟩
set_option maxHeartbeats 1000000 in
theorem setword_ok (b f o : Nat) (n x : Int) (L : List Int) (w : World) (h : Mem w b n L) (h1 : (f : Int) < n) (h2 : o + 2 ≤ 32) (hx0 : 0 ≤ x) (hx1 : x < 65536) : Calls Try.prog 17 #[.pointer (some ⟨b, 0, none⟩), .int .i64 f, .int .i64 o, .int .u16 x] w fun e w' => e = .returned (.int .i64 0) ∧ Mem w' b n (putL L (f * 32 + o) [x / 256, x % 256]) ∧ Only b w w' := by
  have c1 := cut_ok b f o 2 n L w h h1 (by omega) (by omega)
  have hhi := h.hi
  go_enter Try.func17, Try.ntmps17
  go_wp2_with fail
  refine c1.mono ?_
  rintro e W1 ⟨rfl, rfl⟩
  have c2 := mbytes_any x W1 hx0 hx1
  clear c1
  go_wp2_with fail
  refine c2.mono ?_
  rintro e W2 ⟨rfl, hB2⟩
  clear c2
  have hM := (h.below hB2).below ((Below.refl _ W2).alloc (Nat.le_refl _) (.cells #[.int .u8 (x / 256), .int .u8 (x % 256)] 42))
  have hsrc : ∀ j y, [x / 256, x % 256][j]? = some y → (W2.alloc (.cells #[.int .u8 (x / 256), .int .u8 (x % 256)] 42)).cell? ⟨W2.heap.size, 0 + j, none⟩ = some (.int .u8 y) := by
    intro j y hj
    match j, hj with
    | 0, hj => cases hj; rw [cell_of_row _ _ _ _ _ _ (heap_alloc_last W2 _)]; rfl
    | 1, hj => cases hj; rw [cell_of_row _ _ _ _ _ _ (heap_alloc_last W2 _)]; rfl
    | j + 2, hj => cases hj
  have hO : Only b W1 (W2.alloc (.cells #[.int .u8 (x / 256), .int .u8 (x % 256)] 42)) := Only.of_below (hB2.alloc hB2.size _)
  go_wp2_with (refine wpList_copy_mem rfl _ _ rfl b (f * 32 + o) n L hM [x / 256, x % 256] 2 2 2 2 W2.heap.size 0 rfl rfl rfl hsrc (by simp; omega) ?_; intro W3 hM3 hO3)
  go_ret
  exact ⟨rfl, hM3, hO.trans hO3⟩
set_option maxHeartbeats 1000000 in
theorem setbyte_ok (b f o : Nat) (n x : Int) (L : List Int) (w : World) (h : Mem w b n L) (h1 : (f : Int) < n) (h2 : o < 32) : Calls Try.prog 42 #[.pointer (some ⟨b, 0, none⟩), .int .i64 f, .int .i64 o, .int .u8 x] w fun e w' => e = .returned (.int .i64 0) ∧ Mem w' b n (putL L (f * 32 + o) [x]) ∧ Only b w w' := by
  have c1 := cut_ok b f o 1 n L w h h1 (by omega) (by omega)
  have hhi := h.hi
  have hx := h.byte (f * 32 + o) (by omega)
  have hf := h.free (1 + (f * 32 + o))
  go_enter Try.func42, Try.ntmps42
  go_wp2_with fail
  refine c1.mono ?_
  rintro e W1 ⟨rfl, rfl⟩
  go_wp2
  go_ret
  refine ⟨rfl, h.set1 (f * 32 + o) (by omega) x, Only.set1 W1 ⟨b, 1 + (f * 32 + o), none⟩ _⟩
/-- Is it in a slice that bytes lie? -/
structure Src (w : World) (b : Nat) (g p : Nat) (vs : List Int) : Prop where
  ne : g ≠ b
  lt : g < w.heap.size
  at_ : ∀ j x, vs[j]? = some x → w.cell? ⟨g, p + j, none⟩ = some (.int .u8 x)
theorem Src.only {w w' : World} {b g p : Nat} {vs : List Int} (h : Src w b g p vs) (k : Only b w w') : Src w' b g p vs :=
  ⟨h.ne, Nat.lt_of_lt_of_le h.lt k.size, fun j x hj => (k.cell g (p + j) h.lt h.ne).trans (h.at_ j x hj)⟩
end Go.Proofs.Ytajljppmkcjoiaa
