/- Capabilities in slots, as plain data; a table in memory, the program's and the document's. -/
import Derived.Test.YtedknoadcdnioaaGen
import Derived.Test.YtedknoadcdnioaaNameH
namespace Go.Proofs.Ytedknoadcdnioaa
open Go.RowKit Go.Maps
set_option linter.unusedVariables false
set_option maxRecDepth 100000
/-- A capability: its name, its rights. -/
abbrev Cp := ByteArray × BitVec 8
def zC : Cp := (⟨#[]⟩, 0#8)
def cpV (c : Cp) : Value := .agg #[.string c.1, .int .u8 c.2.toNat]
/-- One that is right. -/
abbrev Rc := { c : Cp // rightB c.1.data.toList c.2.toNat = true ∧ c.1.size ≤ 300 }
def slotC : Option Rc → Cp
  | none => zC
  | some c => c.1
def csCs (s : Fin 12 → Cp) : List Value := [.string (s 0).1, .int .u8 (s 0).2.toNat, .string (s 1).1, .int .u8 (s 1).2.toNat, .string (s 2).1, .int .u8 (s 2).2.toNat, .string (s 3).1, .int .u8 (s 3).2.toNat, .string (s 4).1, .int .u8 (s 4).2.toNat, .string (s 5).1, .int .u8 (s 5).2.toNat, .string (s 6).1, .int .u8 (s 6).2.toNat, .string (s 7).1, .int .u8 (s 7).2.toNat, .string (s 8).1, .int .u8 (s 8).2.toNat, .string (s 9).1, .int .u8 (s 9).2.toNat, .string (s 10).1, .int .u8 (s 10).2.toNat, .string (s 11).1, .int .u8 (s 11).2.toNat]
theorem all12 {P : Fin 12 → Prop} (h0 : P 0) (h1 : P 1) (h2 : P 2) (h3 : P 3) (h4 : P 4) (h5 : P 5) (h6 : P 6) (h7 : P 7) (h8 : P 8) (h9 : P 9) (h10 : P 10) (h11 : P 11) : ∀ k, P k
  | 0 => h0 | 1 => h1 | 2 => h2 | 3 => h3 | 4 => h4 | 5 => h5 | 6 => h6 | 7 => h7 | 8 => h8 | 9 => h9 | 10 => h10 | 11 => h11
theorem csCs_at (s : Fin 12 → Cp) : ∀ k : Fin 12, (csCs s)[k.1 * 2]? = some (.string (s k).1) ∧ (csCs s)[k.1 * 2 + 1]? = some (.int .u8 (s k).2.toNat) :=
  all12 ⟨rfl, rfl⟩ ⟨rfl, rfl⟩ ⟨rfl, rfl⟩ ⟨rfl, rfl⟩ ⟨rfl, rfl⟩ ⟨rfl, rfl⟩ ⟨rfl, rfl⟩ ⟨rfl, rfl⟩ ⟨rfl, rfl⟩ ⟨rfl, rfl⟩ ⟨rfl, rfl⟩ ⟨rfl, rfl⟩
theorem csCs_set (s : Fin 12 → Cp) (c : Cp) : ∀ k : Fin 12, ((csCs s).set (k.1 * 2) (.string c.1)).set (k.1 * 2 + 1) (.int .u8 c.2.toNat) = csCs (upd s k c) :=
  all12 rfl rfl rfl rfl rfl rfl rfl rfl rfl rfl rfl rfl
/-- What lies in each slot. -/
abbrev Sl := Fin 12 → Option Rc
def slF (s : Sl) : Fin 12 → Cp := fun k => slotC (s k)
theorem slF_upd (s : Sl) (k : Fin 12) (o : Option Rc) : upd (slF s) k (slotC o) = slF (upd s k o) := by
  funext i
  by_cases h : i = k
  · simp [upd, slF, h]
  · simp [upd, slF, h]
/-- A table of a type, in a block of its own. -/
structure Tb (t : TypeId) (B : Nat) (w : World) (b : Nat) (s : Sl) : Prop where
  g : B ≤ b
  c : Cl w b t (csCs (slF s))
structure TStp (t : TypeId) (B : Nat) (w w' : World) (b : Nat) (s' : Sl) : Prop where
  tb : Tb t B w' b s'
  ap : Apart (fun k => k = b) w w'
theorem Tb.below {t : TypeId} {B : Nat} {w w' : World} {b : Nat} {s : Sl} (h : Tb t B w b s) (k : Below w.heap.size w w') : Tb t B w' b s := ⟨h.g, h.c.below k⟩
theorem Tb.stay {t : TypeId} {B : Nat} {w w' : World} {b : Nat} {s : Sl} {X : Nat → Prop} (h : Tb t B w b s) (k : Apart X w w') (hx : ¬ X b) : Tb t B w' b s := ⟨h.g, h.c.stay k hx⟩
theorem TStp.same {t : TypeId} {B : Nat} {w w' : World} {b : Nat} {s : Sl} (h : Tb t B w b s) (k : Below w.heap.size w w') : TStp t B w w' b s := ⟨h.below k, Apart.of_below k⟩
theorem TStp.trans {t : TypeId} {B : Nat} {x y z : World} {b : Nat} {s s' : Sl} (h : TStp t B x y b s) (k : TStp t B y z b s') : TStp t B x z b s' := ⟨k.tb, h.ap.trans k.ap⟩
theorem TStp.pre {t : TypeId} {B : Nat} {x y z : World} {b : Nat} {s' : Sl} (h : Below x.heap.size x y) (k : TStp t B y z b s') : TStp t B x z b s' := ⟨k.tb, (Apart.of_below h).trans k.ap⟩
theorem TStp.post {t : TypeId} {B : Nat} {x y z : World} {b : Nat} {s' : Sl} (k : TStp t B x y b s') (h : Below y.heap.size y z) : TStp t B x z b s' := ⟨k.tb.below h, k.ap.trans (Apart.of_below h)⟩
theorem TStp.drew {t : TypeId} {B : Nat} {x y : World} {b : Nat} {s' : Sl} (k : TStp t B x y b s') : TStp t B x y.drew b s' := ⟨⟨k.tb.g, k.tb.c⟩, k.ap.drew⟩
theorem TStp.belowB {t : TypeId} {B : Nat} {w w' : World} {b : Nat} {s s' : Sl} (k : TStp t B w w' b s') (h : Tb t B w b s) (hB : B ≤ w.heap.size) : Below B w w' := k.ap.below B (fun i e => e ▸ h.g) hB
theorem TStp.slot {t : TypeId} {B : Nat} {w : World} {b : Nat} {s : Sl} (h : Tb t B w b s) (k : Fin 12) (o : Option Rc) : TStp t B w ((w.setCell ⟨b, k.1 * 2, none⟩ (.string (slotC o).1)).setCell ⟨b, k.1 * 2 + 1, none⟩ (.int .u8 (slotC o).2.toNat)) b (upd s k o) :=
  ⟨⟨h.g, by
    have := (h.c.set (k.1 * 2) (.string (slotC o).1)).set (k.1 * 2 + 1) (.int .u8 (slotC o).2.toNat)
    rw [csCs_set, slF_upd] at this
    exact this⟩, (Apart.at (X := fun k => k = b) w b _ _ rfl).trans (Apart.at (X := fun k => k = b) _ b _ _ rfl)⟩
theorem Tb.at {t : TypeId} {B : Nat} {w : World} {b : Nat} {s : Sl} (h : Tb t B w b s) (k : Fin 12) : (w.cell? ⟨b, k.1 * 2, none⟩ = some (.string (slotC (s k)).1) ∧ w.cell? ⟨b, k.1 * 2 + 1, none⟩ = some (.int .u8 (slotC (s k)).2.toNat)) ∧ (w.frozen? ⟨b, k.1 * 2, none⟩ = false ∧ w.frozen? ⟨b, k.1 * 2 + 1, none⟩ = false) :=
  ⟨⟨(h.c.cell _).trans (csCs_at _ k).1, (h.c.cell _).trans (csCs_at _ k).2⟩, h.c.thaw _, h.c.thaw _⟩
theorem rc_ne (c : Rc) : c.1.1.data.toList ≠ [] := by
  intro h
  have := c.2.1
  rw [h] at this
  simp [rightB, splitO] at this
theorem eqGuardC : Try.prog.eqGuardType Try.prog.depth 27 = false := by kernel_rfl
set_option maxHeartbeats 2000000 in
theorem eqC (w : World) (n m : ByteArray) (r q : Int) : (Op.equalIn 10000 27 (.agg #[.string n, .int .u8 r]) (.agg #[.string m, .int .u8 q])).run Try.prog w = .ok (n.toList == m.toList && r == q) w := by
  show (Op.equalIn (9998 + 1 + 1) 27 _ _).run Try.prog w = _
  rw [Op.equalIn]
  simp only [Sem.run_bind, run_underlying Try.underlying27, Result.andThen_ok]
  cases h0 : (n.toList == m.toList) <;> by_cases h1 : r = q <;> simp [go_sem, h0, h1]
/-- Whether a slot has none. -/
theorem slot_none (o : Option Rc) : ((slotC o).1.toList == (⟨#[]⟩ : ByteArray).toList && ((slotC o).2.toNat : Int) == 0) = !o.isSome := by
  cases o with
  | none => simp [slotC, zC, Lib.toList_data]
  | some c =>
    have h1 : ((slotC (some c)).1.toList == (⟨#[]⟩ : ByteArray).toList) = false := by
      rw [beq_eq_false_iff_ne, Lib.toList_data, Lib.toList_data]
      exact rc_ne c
    rw [h1]
    rfl
end Go.Proofs.Ytedknoadcdnioaa
