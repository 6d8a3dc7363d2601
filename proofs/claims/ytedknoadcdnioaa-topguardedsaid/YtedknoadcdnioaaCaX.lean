/- The document's table: Revoke. -/
import Derived.Test.YtedknoadcdnioaaCaW
namespace Go.Proofs.Ytedknoadcdnioaa
open Go.RowKit Go.Maps
set_option linter.unusedVariables false
set_option maxRecDepth 100000
/-- Behind k slots those that are asked for are gone. -/
def goneS (s : Sl) (q : Fin 12 → Bool) (k : Nat) : Sl := fun i => if i.1 < k ∧ q i = true then none else s i
theorem goneS_0 (s : Sl) (q : Fin 12 → Bool) : goneS s q 0 = s := by funext i; simp [goneS]
theorem goneS_at (s : Sl) (q : Fin 12 → Bool) (k : Nat) (hk : k < 12) : goneS s q k ⟨k, hk⟩ = s ⟨k, hk⟩ := by simp [goneS]
theorem goneS_no (s : Sl) (q : Fin 12 → Bool) (k : Nat) (hk : k < 12) (hq : q ⟨k, hk⟩ = false) : goneS s q (k + 1) = goneS s q k := by
  funext i
  unfold goneS
  by_cases h : i = ⟨k, hk⟩
  · subst h; simp [hq]
  · have h1 : i.1 ≠ k := fun e => h (Fin.ext e)
    have h2 : i.1 < k + 1 ↔ i.1 < k := by omega
    simp only [h2]
theorem goneS_yes (s : Sl) (q : Fin 12 → Bool) (k : Nat) (hk : k < 12) (hq : q ⟨k, hk⟩ = true) : goneS s q (k + 1) = upd (goneS s q k) ⟨k, hk⟩ none := by
  funext i
  unfold goneS upd
  by_cases h : i = ⟨k, hk⟩
  · subst h; simp [hq]
  · have h1 : i.1 ≠ k := fun e => h (Fin.ext e)
    have h2 : i.1 < k + 1 ↔ i.1 < k := by omega
    simp only [h2, h, if_false]
theorem grownB {W W' : World} (h : Below W.heap.size W W') : W.grownBy W' none := ⟨h.os, h.tape, h.output, h.size, fun k hk _ => h.block k hk⟩
theorem grownSet (W : World) (b j : Nat) (v : Value) : W.grownBy (W.setCell ⟨b, j, none⟩ v) (some b) :=
  ⟨rfl, rfl, rfl, by rw [size_setCell]; exact Nat.le_refl _, fun k hk hne => Below.heap_setCell W ⟨b, j, none⟩ v k (fun e => hne (by rw [e]))⟩
theorem TStp.grown {t : TypeId} {B : Nat} {w W W' : World} {b : Nat} {s : Sl} {row : Option Nat} (h : TStp t B w W b s) (hg : W.grownBy W' row) (hr : ∀ r, row = some r → w.heap.size ≤ r) (hb : b < w.heap.size) : TStp t B w W' b s :=
  ⟨⟨h.tb.g, (hg.block b h.tb.c.lt (fun e => by have := hr b e.symm; omega)).trans h.tb.c⟩, ⟨hg.os.trans h.ap.os, hg.tape.trans h.ap.tape, hg.output.trans h.ap.output, Nat.le_trans h.ap.size hg.size, fun k hk hx => (hg.block k (Nat.lt_of_lt_of_le hk h.ap.size) (fun e => by have := hr k e.symm; omega)).trans (h.ap.block k hk hx)⟩⟩
end Go.Proofs.Ytedknoadcdnioaa
