/- The document's pipe. -/
import Derived.Test.YtpjnadgjohbhbabPiF
namespace Go.Proofs.Ytpjnadgjohbhbab
open Go.RowKit Go.Maps
set_option linter.unusedVariables false
set_option maxRecDepth 100000
structure RpC (w : World) (b : Nat) (T : List UInt8) (rd wr : Nat) : Prop where
  c0 : w.cell? ⟨b, 0, none⟩ = some (.string ⟨T.toArray⟩)
  c1 : w.cell? ⟨b, 1, none⟩ = some (.int .i64 rd)
  c2 : w.cell? ⟨b, 2, none⟩ = some (.int .i64 wr)
  fz : ∀ j, w.frozen? ⟨b, j, none⟩ = false
theorem Rp.cells {B : Nat} {w : World} {b : Nat} {T : List UInt8} {rd wr : Nat} (h : Rp B w b T rd wr) : RpC w b T rd wr := ⟨h.c.cell 0, h.c.cell 1, h.c.cell 2, h.c.thaw⟩
theorem Rp.setR {B : Nat} {w : World} {b : Nat} {T : List UInt8} {rd wr : Nat} (h : Rp B w b T rd wr) (x : Nat) (hx : x ≤ 100) : RStp B w (w.setCell ⟨b, 1, none⟩ (.int .i64 x)) b T x wr := ⟨⟨h.g, h.t, hx, h.hw, h.c.set 1 (.int .i64 x)⟩, Apart.at w b _ _ rfl⟩
theorem Rp.setW {B : Nat} {w : World} {b : Nat} {T : List UInt8} {rd wr : Nat} (h : Rp B w b T rd wr) (x : Nat) (hx : x ≤ 100) : RStp B w (w.setCell ⟨b, 2, none⟩ (.int .i64 x)) b T rd x := ⟨⟨h.g, h.t, h.hr, hx, h.c.set 2 (.int .i64 x)⟩, Apart.at w b _ _ rfl⟩
theorem Rp.setT {B : Nat} {w : World} {b : Nat} {T : List UInt8} {rd wr : Nat} (h : Rp B w b T rd wr) (T' : List UInt8) (hx : T'.length ≤ 24) : RStp B w (w.setCell ⟨b, 0, none⟩ (.string ⟨T'.toArray⟩)) b T' rd wr := ⟨⟨h.g, hx, h.hr, h.hw, h.c.set 0 (.string ⟨T'.toArray⟩)⟩, Apart.at w b _ _ rfl⟩
end Go.Proofs.Ytpjnadgjohbhbab
