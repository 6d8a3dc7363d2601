/- A memory: a word is written. -/
import Derived.Test.YtdmahmolhdbegaaMemC
namespace Go.Proofs.Ytdmahmolhdbegaa
open Go.RowKit Go.Maps
set_option linter.unusedVariables false
set_option maxRecDepth 100000

set_option maxHeartbeats 1000000 in
theorem setbyte_ok (b f o : Nat) (n x : Int) (L : List Int) (w : World) (h : Mem w b n L) (h1 : (f : Int) < n) (h2 : o < 32) : Calls Try.prog 36 #[.pointer (some ⟨b, 0, none⟩), .int .i64 f, .int .i64 o, .int .u8 x] w fun e w' => e = .returned (.int .i64 0) ∧ Mem w' b n (putL L (f * 32 + o) [x]) ∧ Only b w w' := by
  have c1 := cut_ok b f o 1 n L w h h1 (by omega) (by omega)
  have hhi := h.hi
  have hx := h.byte (f * 32 + o) (by omega)
  have hf := h.free (1 + (f * 32 + o))
  go_enter Try.func36, Try.ntmps36
  go_wp2_with fail
  refine c1.mono ?_
  rintro e W1 ⟨rfl, rfl⟩
  go_wp2
  go_ret
  refine ⟨rfl, h.set1 (f * 32 + o) (by omega) x, Only.set1 W1 ⟨b, 1 + (f * 32 + o), none⟩ _⟩
/-- Is it in a slice that bytes lie? -/
structure Src (w : World) (b : Nat) (g p : Nat) (vs : List Int) : Prop where
  ne : g ≠ b
  lt : g < w.heap.size
  at_ : ∀ j x, vs[j]? = some x → w.cell? ⟨g, p + j, none⟩ = some (.int .u8 x)
theorem Src.only {w w' : World} {b g p : Nat} {vs : List Int} (h : Src w b g p vs) (k : Only b w w') : Src w' b g p vs :=
  ⟨h.ne, Nat.lt_of_lt_of_le h.lt k.size, fun j x hj => (k.cell g (p + j) h.lt h.ne).trans (h.at_ j x hj)⟩
end Go.Proofs.Ytdmahmolhdbegaa
