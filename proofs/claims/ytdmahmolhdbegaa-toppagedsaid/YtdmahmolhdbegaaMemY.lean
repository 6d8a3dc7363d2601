/- Deeds; the play. -/
import Derived.Test.YtdmahmolhdbegaaMemX
import Derived.Test.YtdmahmolhdbegaaMemF
namespace Go.Proofs.Ytdmahmolhdbegaa
open Go.RowKit Go.Maps
set_option linter.unusedVariables false
set_option maxRecDepth 100000
structure Dm where
  k : Int
  f : Int
  o : Int
  x : Int
  v : Value
  bs : List Int
/-- A deed that can be: its word, its bytes. -/
structure Dm.Ok (B : Nat) (w : World) (d : Dm) : Prop where
  x : 0 ≤ d.x ∧ d.x ≤ 65535
  b : Byts B w d.v d.bs
  s : d.bs.length ≤ 9223372036854775807
  k64 : -9223372036854775808 ≤ d.f ∧ d.f ≤ 9223372036854775807
  o64 : -9223372036854775808 ≤ d.o ∧ d.o ≤ 9223372036854775807
def dmL (N : Int) (L : List Int) (d : Dm) : List Int := doL N d.k d.f d.o d.x d.bs L
def playL (N : Int) (l : List Dm) (L : List Int) : List Int := l.foldl (dmL N) L
theorem playL_snoc (N : Int) (l : List Dm) (d : Dm) (L : List Int) : playL N (l ++ [d]) L = dmL N (playL N l L) d := by
  unfold playL
  rw [List.foldl_append]
  rfl
/-- A slice of deeds that can be read. -/
def Dds (B : Nat) (w : World) (v : Value) (l : List Dm) : Prop := ∃ a cap, v = .slice a l.length cap ∧ l.length ≤ 9223372036854775807 ∧ ∀ j d, l[j]? = some d → d.Ok B w ∧ ∃ g off, a = some ⟨g, off, none⟩ ∧ g < B ∧ w.cell? ⟨g, off + j * 5, none⟩ = some (.int .i64 d.k) ∧ w.cell? ⟨g, off + j * 5 + 1, none⟩ = some (.int .i64 d.f) ∧ w.cell? ⟨g, off + j * 5 + 2, none⟩ = some (.int .i64 d.o) ∧ w.cell? ⟨g, off + j * 5 + 3, none⟩ = some (.int .u16 d.x) ∧ w.cell? ⟨g, off + j * 5 + 4, none⟩ = some d.v
theorem Dds.below {B : Nat} {w w' : World} {v : Value} {l : List Dm} (h : Dds B w v l) (k : Below B w w') : Dds B w' v l := by
  obtain ⟨a, cap, rfl, hl, hcell⟩ := h
  refine ⟨a, cap, rfl, hl, fun j d hj => ?_⟩
  obtain ⟨ok, g, off, rfl, hg, c0, c1, c2, c3, c4⟩ := hcell j d hj
  have hb := k.block g hg
  refine ⟨⟨ok.x, ok.b.below k, ok.s, ok.k64, ok.o64⟩, g, off, rfl, hg, ?_, ?_, ?_, ?_, ?_⟩ <;> (rw [World.cell?_of_block (w := w) hb]; assumption)
theorem zeroL_bytes (x : Int) (hx : x ∈ zeroL) : 0 ≤ x ∧ x ≤ 255 := by
  unfold zeroL at hx
  rw [List.eq_of_mem_replicate hx]
  decide
theorem playL_nil (N : Int) (l : List Dm) (L : List Int) : playL N (l.take 0) L = L := by rw [List.take_zero]; rfl
end Go.Proofs.Ytdmahmolhdbegaa
