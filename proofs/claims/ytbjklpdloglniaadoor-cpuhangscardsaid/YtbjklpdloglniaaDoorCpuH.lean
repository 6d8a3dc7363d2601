/- The next instruction of a code, and Run: the program. -/
import Derived.Test.YtbjklpdloglniaaDoorCpuG
import Derived.Test.YtbjklpdloglniaaDoorIsaD
namespace Go.Proofs.YtbjklpdloglniaaDoor
open Go.RowKit
set_option linter.unusedVariables false
set_option maxRecDepth 100000

theorem Bts.four {w : World} {g off n cap : Nat} {bs : List UInt8} (h : Bts w (.slice (some ⟨g, off, none⟩) n cap) bs) (q : Nat) (hq : q + 4 ≤ bs.length) : Bts w (.slice (some ⟨g, off + q, none⟩) 4 (cap - q)) ((bs.drop q).take 4) := by
  obtain ⟨a, cap', hv, hc, hm, hcell⟩ := h
  injection hv with e1 e2 e3
  subst e1 e3
  have hl : ((bs.drop q).take 4).length = 4 := by simp; omega
  refine ⟨some ⟨g, off + q, none⟩, cap - q, by rw [hl], by rw [hl]; omega, by omega, fun j x hx => ?_⟩
  rw [List.getElem?_take] at hx
  split at hx
  · rw [List.getElem?_drop] at hx
    obtain ⟨g', off', e, hcl⟩ := hcell (q + j) x hx
    cases e
    exact ⟨g, off + q, rfl, by rw [Nat.add_assoc]; exact hcl⟩
  · cases hx
/-- The instruction of a code at a place, or the error. -/
def nextP (bs : List UInt8) (pc : Int) : Except Int (Int × Int × Int × Int) :=
  if pc % 4 ≠ 0 ∨ (bs.length : Int) < pc + 4 then .error 10
  else match decO ((bs.drop pc.toNat).take 4) with
    | some i => .ok i
    | none => .error 3
def nextV : Except Int (Int × Int × Int × Int) → Value
  | .ok i => .tuple #[insV4 i, .int .i64 0]
  | .error e => .tuple #[insV 0 0 0 0, .int .i64 e]
set_option maxHeartbeats 2000000 in
theorem next_any (pc : Int) (r : Nat → Int) (v : Value) (bs : List UInt8) (w : World) (hp : Wd pc) (hb : Bts w v bs) :
    Calls Tryd.prog 23 #[rgV pc r, v] w fun e w' => e = .returned (nextV (nextP bs pc)) ∧ Below w.heap.size w w' := by
  have ht : pc.tmod 4 = pc % 4 := Int.tmod_eq_emod_of_nonneg hp.1
  have hp1 := hp.1
  have hp2 := hp.2
  obtain ⟨ad, cap, rfl, hcap, hmax, hc⟩ := id hb
  clear hc
  unfold rgV nextP
  by_cases h4 : pc % 4 = 0
  · have hm : (pc % 4 != 0) = false := by rw [bne_eq_false_iff_eq]; exact h4
    by_cases hl : (bs.length : Int) < pc + 4
    · rw [if_pos (Or.inr hl)]
      unfold nextV insV
      go_enter Tryd.func23, Tryd.ntmps23
      go_wp2
      exact bodyPost_ret (v := .tuple #[.agg #[.int .u8 0, .int .u8 0, .int .u8 0, .int .u16 0], .int .i64 10]) (by simp [results, Tryd.results23, go_sem]) rfl ⟨rfl, nx (nx (Below.refl _ w) _) _⟩
    · rw [if_neg (by omega)]
      have hq : pc.toNat + 4 ≤ bs.length := by omega
      obtain ⟨g, off, rfl⟩ : ∃ g off, ad = some ⟨g, off, none⟩ := by
        obtain ⟨a', cap', hv, _, _, hcell⟩ := id hb
        injection hv with e1 e2 e3
        obtain ⟨g, off, e, _⟩ := hcell 0 bs[0] (List.getElem?_eq_getElem (by omega))
        exact ⟨g, off, e1.trans e⟩
      have cD := fun W hB => idecode_any (.slice (some ⟨g, off + pc.toNat, none⟩) 4 (cap - pc.toNat)) ((bs.drop pc.toNat).take 4) W ((hb.below (B := w.heap.size) hB (Nat.le_refl _)).four pc.toNat hq)
      have h1 : pc + 4 ≤ (cap : Int) := by omega
      have h2 : ¬ cap - pc.toNat = 0 := by omega
      generalize decO ((bs.drop pc.toNat).take 4) = D at *
      clear hb
      go_enter Tryd.func23, Tryd.ntmps23
      have hB0 := nx (nx (Below.refl _ w) (.cells #[.int .u16 pc, .int .u16 (r 0), .int .u16 (r 1), .int .u16 (r 2), .int .u16 (r 3), .int .u16 (r 4), .int .u16 (r 5), .int .u16 (r 6), .int .u16 (r 7)] 26)) (.cells #[.int .u8 0, .int .u8 0, .int .u8 0, .int .u16 0] 29)
      have hC0 : Cel ((w.alloc (.cells #[.int .u16 pc, .int .u16 (r 0), .int .u16 (r 1), .int .u16 (r 2), .int .u16 (r 3), .int .u16 (r 4), .int .u16 (r 5), .int .u16 (r 6), .int .u16 (r 7)] 26)).alloc (.cells #[.int .u8 0, .int .u8 0, .int .u8 0, .int .u16 0] 29)) (w.heap.size + 1) #[.int .u8 0, .int .u8 0, .int .u8 0, .int .u16 0] 29 := by
        have h := Cel.new (w.alloc (.cells #[.int .u16 pc, .int .u16 (r 0), .int .u16 (r 1), .int .u16 (r 2), .int .u16 (r 3), .int .u16 (r 4), .int .u16 (r 5), .int .u16 (r 6), .int .u16 (r 7)] 26)) #[.int .u8 0, .int .u8 0, .int .u8 0, .int .u16 0] 29
        rw [World.size_alloc] at h
        exact h
      go_wp2_with fail
      rw [show (pc + 4).toNat - pc.toNat = 4 by omega]
      refine (cD _ hB0).mono ?_
      rintro e W1 ⟨rfl, hB1⟩
      have hC := hC0.below hB1 (by simp)
      have hb1 := hB0.trans (hB1.mono (by simp; omega))
      have c0 : W1.cell? ⟨w.heap.size + 1, 0, none⟩ = some (.int .u8 0) := hC.c 0
      have c1 : W1.cell? ⟨w.heap.size + 1, 1, none⟩ = some (.int .u8 0) := hC.c 1
      have c2 : W1.cell? ⟨w.heap.size + 1, 2, none⟩ = some (.int .u8 0) := hC.c 2
      have c3 : W1.cell? ⟨w.heap.size + 1, 3, none⟩ = some (.int .u16 0) := hC.c 3
      have f := hC.f
      cases D with
      | none =>
        unfold decEV insE0
        go_wp2_with fail
        exact bodyPost_ret (v := .tuple #[.agg #[.int .u8 0, .int .u8 0, .int .u8 0, .int .u16 0], .int .i64 3]) (by simp [results, Tryd.results23, go_sem, c0, c1, c2, c3]) rfl ⟨rfl, bsx (bsx (bsx (bsx hb1 (by omega) _ _) (by omega) _ _) (by omega) _ _) (by omega) _ _⟩
      | some i =>
        obtain ⟨d0, d1, d2, d3⟩ := i
        unfold decEV
        simp only
        go_wp2_with fail
        exact bodyPost_ret (v := .tuple #[.agg #[.int .u8 d0, .int .u8 d1, .int .u8 d2, .int .u16 d3], .int .i64 0]) (by simp [results, Tryd.results23, go_sem, c0, c1, c2, c3]) rfl ⟨rfl, bsx (bsx (bsx (bsx hb1 (by omega) _ _) (by omega) _ _) (by omega) _ _) (by omega) _ _⟩
  · have hm : (pc % 4 != 0) = true := by rw [bne_iff_ne]; exact h4
    rw [if_pos (Or.inl h4)]
    unfold nextV insV
    go_enter Tryd.func23, Tryd.ntmps23
    go_wp2
    exact bodyPost_ret (v := .tuple #[.agg #[.int .u8 0, .int .u8 0, .int .u8 0, .int .u16 0], .int .i64 10]) (by simp [results, Tryd.results23, go_sem]) rfl ⟨rfl, nx (nx (Below.refl _ w) _) _⟩
end Go.Proofs.YtbjklpdloglniaaDoor
