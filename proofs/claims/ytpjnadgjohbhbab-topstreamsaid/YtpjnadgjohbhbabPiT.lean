/- The program's Fork; live; a deed on both pipes; do both tell the same? -/
import Derived.Test.YtpjnadgjohbhbabPiS
import Derived.Deep.WholeRow
namespace Go.Proofs.Ytpjnadgjohbhbab
open Go.RowKit Go.Maps
set_option linter.unusedVariables false
set_option maxRecDepth 100000
theorem wpList_stores {ops : Array Oper} {rest : List Oper} {o : Oper} {a : Act} {w w' : World} {Q : Exit → Act → World → Prop} (hgd : o.guard = none) (ty : TypeId) (p x : Operand) (ho : o.op = .store ty p x) (v u : Value) (hp : a.eval p = v) (hx : a.eval x = u) (hL : (Instr.storeAt ty v u).run Try.prog w = .ok () w')
    (h : wpList Try.prog ops Q rest (a.put o.dst undef) w') : wpList Try.prog ops Q (o :: rest) a w :=
  wpList_plain hgd fun K hK => by
    unfold Oper.wp execOp
    simp only [ho, hp, hx, Sem.run_bind, hL, Result.andThen_ok, Sem.run_pure]
    exact hK _ _ h
/-- A pipe that no other block of the world is. -/
theorem PStp.below {B : Nat} {w w' W : World} {b : Nat} {T : List UInt8} {rd wr : Nat} (h : PStp B W w' b T rd wr) (hB : B ≤ W.heap.size) : Below B W w' := h.ap.below B (fun k e => by rw [e]; exact h.p.g) hB
/-- Both pipes. -/
structure Two (B : Nat) (w : World) (b rb : Nat) (T : List UInt8) (rd wr : Nat) : Prop where
  p : Pp B w b T rd wr
  r : Rp B w rb T rd wr
theorem Two.ne {B : Nat} {w : World} {b rb : Nat} {T : List UInt8} {rd wr : Nat} (h : Two B w b rb T rd wr) : b ≠ rb := by
  obtain ⟨C, f, h1, h2⟩ := h.p.ex
  exact h1.ne h.r.c (by decide)
theorem Two.below {B : Nat} {w w' : World} {b rb : Nat} {T : List UInt8} {rd wr : Nat} (h : Two B w b rb T rd wr) (k : Below w.heap.size w w') : Two B w' b rb T rd wr := ⟨h.p.below k, h.r.below k⟩
theorem Two.stay {B : Nat} {w w' : World} {b rb : Nat} {T : List UInt8} {rd wr : Nat} {X : Nat → Prop} (h : Two B w b rb T rd wr) (k : Apart X w w') (h1 : ¬ X b) (h2 : ¬ X rb) : Two B w' b rb T rd wr := ⟨h.p.stay k h1, h.r.stay k h2⟩
/-- What a deed on both comes to. -/
structure Mv (B : Nat) (w w' : World) (b rb : Nat) (T : List UInt8) (rd wr : Nat) : Prop where
  two : Two B w' b rb T rd wr
  ap : Apart (fun k => k = b ∨ k = rb) w w'
theorem Mv.same {B : Nat} {w w' : World} {b rb : Nat} {T : List UInt8} {rd wr : Nat} (h : Two B w b rb T rd wr) (k : Below w.heap.size w w') : Mv B w w' b rb T rd wr := ⟨h.below k, Apart.of_below k⟩
theorem Mv.mk' {B : Nat} {w w1 w2 : World} {b rb : Nat} {T T' : List UInt8} {rd wr rd' wr' : Nat} (h : Two B w b rb T rd wr) (h1 : PStp B w w1 b T' rd' wr') (h2 : RStp B w1 w2 rb T' rd' wr') : Mv B w w2 b rb T' rd' wr' :=
  ⟨⟨h1.p.stay h2.ap h.ne, h2.p⟩, (h1.ap.wide (fun i _ e => .inl e)).trans (h2.ap.wide (fun i _ e => .inr e))⟩
theorem Mv.pre {B : Nat} {w w1 w2 : World} {b rb : Nat} {T : List UInt8} {rd wr : Nat} (h : Below w.heap.size w w1) (k : Mv B w1 w2 b rb T rd wr) : Mv B w w2 b rb T rd wr := ⟨k.two, (Apart.of_below h).trans k.ap⟩
theorem Mv.below {B : Nat} {w w' : World} {b rb : Nat} {T : List UInt8} {rd wr : Nat} (h : Mv B w w' b rb T rd wr) (hB : B ≤ w.heap.size) : Below B w w' := h.ap.below B (fun k e => e.elim (fun e => e ▸ h.two.p.g) (fun e => e ▸ h.two.r.g)) hB
/-- A deed: kind, number, on, text. -/
structure Dd where
  k : Int
  n : Int
  on : Bool
  s : List UInt8
def ddV (d : Dd) : Value := .agg #[.int .i64 d.k, .int .i64 d.n, .bool d.on, .string ⟨d.s.toArray⟩]
theorem cell_stay {w w' : World} {X : Nat → Prop} {g j : Nat} {v : Value} (h : w.cell? ⟨g, j, none⟩ = some v) (k : Apart X w w') (hx : ¬ X g) : w'.cell? ⟨g, j, none⟩ = some v := by
  rw [World.cell?_of_block (w := w) (k.block g (World.block_lt_of_cell? w _ h) hx)]
  exact h
end Go.Proofs.Ytpjnadgjohbhbab
