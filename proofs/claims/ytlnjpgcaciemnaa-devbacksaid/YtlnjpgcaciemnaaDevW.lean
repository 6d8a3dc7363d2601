/- The document's disk: Deliver. -/
import Derived.Test.YtlnjpgcaciemnaaDevV
namespace Go.Proofs.Ytlnjpgcaciemnaa
open Go.RowKit Go.Maps
set_option linter.unusedVariables false
set_option maxRecDepth 100000
/-- The document's disk and memory lie apart. -/
theorem Rk.mem_ne {B : Nat} {X : Nat → Prop} {w : World} {rb og n mb rg K : Nat} {S L : List Int} {u : Value} {last : Int} {Q : List Rq} (h : Rk B X w rb og n S u last Q) (hM : RMem w mb rg K L) : (mb ≠ rb ∧ mb ≠ og) ∧ rg ≠ rb ∧ rg ≠ og := by
  obtain ⟨C, _, eb⟩ := h.blk
  obtain ⟨cs, eo, _⟩ := h.row
  obtain ⟨C2, _, em⟩ := hM.blk
  obtain ⟨rest, er⟩ := hM.row
  refine ⟨⟨fun e => ?_, fun e => ?_⟩, fun e => ?_, fun e => ?_⟩
  · rw [e, eb] at em
    injection em with em
    injection em with _ em
    exact absurd em (by decide)
  · rw [e, eo] at em
    injection em with em
    injection em with _ em
    exact absurd em (by decide)
  · rw [e, eb] at er
    injection er with er
    injection er with _ er
    exact absurd er (by decide)
  · rw [e, eo] at er
    injection er with er
    injection er with _ er
    exact absurd er (by decide)
theorem RMem.stay {X : Nat → Prop} {w w' : World} {rb g K : Nat} {L : List Int} (h : RMem w rb g K L) (k : Apart X w w') (h1 : ¬ X rb) (h2 : ¬ X g) : RMem w' rb g K L := h.keep (k.block rb h.lt h1) (k.block g h.ltg h2)
def DX (rb og rg k : Nat) : Prop := k = rb ∨ k = og ∨ k = rg
set_option maxHeartbeats 2000000 in
theorem rdeliver_no (B : Nat) (X : Nat → Prop) (rb og n mb : Nat) (S : List Int) (u : Value) (last : Int) (Q : List Rq) (i : Int) (w : World) (h : Rk B X w rb og n S u last Q) (hi : i < 0 ∨ (Q.length : Int) ≤ i) : Calls Try.prog 49 #[.pointer (some ⟨rb, 0, none⟩), .int .i64 i, .pointer (some ⟨mb, 0, none⟩)] w fun e w' => e = .returned (.tuple #[rqV zR, .int .i64 2]) ∧ Below w.heap.size w w' := by
  obtain ⟨C, hC, c0, c1, c2, fz⟩ := h.c
  obtain ⟨a, cap, rfl, _⟩ := h.form
  have hlt := h.lt
  have hne : rb ≠ w.heap.size := by omega
  have hX := (Below.refl _ w).alloc (Nat.le_refl _) (.cells #[.int .u32 0, .bool false, .int .i64 0, .int .i64 0, .int .u8 0] 45)
  have a5 := apart_set5 (w.alloc (.cells #[.int .u32 0, .bool false, .int .i64 0, .int .i64 0, .int .u8 0] 45)) w.heap.size (.int .u32 0) (.bool false) (.int .i64 0) (.int .i64 0) (.int .u8 0)
  have HE := Hid3.mk (hX.trans (a5.below w.heap.size (fun k e => by have e' : k = w.heap.size := e; omega) hX.size))
  have HX := Hid3.mk hX
  unfold rqV zR
  clear h hX a5
  by_cases h1 : i < 0
  · clear hi
    go_enter Try.func49, Try.ntmps49
    go_wp2
    first
    | refine bodyPost_ret (v := .tuple #[.agg #[.int .u32 0, .bool false, .int .i64 0, .int .i64 0, .int .u8 0], .int .i64 2]) (by simp [results, Try.results49, go_sem]) rfl ⟨rfl, HX.out⟩
    | refine bodyPost_ret (v := .tuple #[.agg #[.int .u32 0, .bool false, .int .i64 0, .int .i64 0, .int .u8 0], .int .i64 2]) (by simp [results, Try.results49, go_sem]) rfl ⟨rfl, HE.out⟩
  · have h2 : (Q.length : Int) ≤ i := by omega
    clear hi
    go_enter Try.func49, Try.ntmps49
    go_wp2
    first
    | refine bodyPost_ret (v := .tuple #[.agg #[.int .u32 0, .bool false, .int .i64 0, .int .i64 0, .int .u8 0], .int .i64 2]) (by simp [results, Try.results49, go_sem]) rfl ⟨rfl, HX.out⟩
    | refine bodyPost_ret (v := .tuple #[.agg #[.int .u32 0, .bool false, .int .i64 0, .int .i64 0, .int .u8 0], .int .i64 2]) (by simp [results, Try.results49, go_sem]) rfl ⟨rfl, HE.out⟩
end Go.Proofs.Ytlnjpgcaciemnaa
