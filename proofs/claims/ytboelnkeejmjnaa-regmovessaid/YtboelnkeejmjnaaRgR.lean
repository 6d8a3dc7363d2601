/- The document's registry. -/
import Derived.Test.YtboelnkeejmjnaaRgC
import Derived.BigRegion
namespace Go.Proofs.Ytboelnkeejmjnaa
open Go.RowKit Go.Maps
set_option linter.unusedVariables false
set_option maxRecDepth 100000
def sV : Option (Int × Bool) → Int
  | none => 0
  | some c => c.1 + 1
def wV : Option (Int × Bool) → Bool
  | none => false
  | some c => c.2
/-- The document's registry. -/
structure Rf (B : Nat) (w : World) (b : Nat) (C : Int → Option (Int × Bool)) : Prop where
  g : B ≤ b
  r : ∃ arr : Array Value, w.heap[b]? = some (.cells arr 66 (0, 0)) ∧ arr.size = 128 ∧ ∀ i : Nat, i < 64 → arr[i]? = some (.int .i64 (sV (C i))) ∧ arr[64 + i]? = some (.bool (wV (C i)))
theorem Rf.lt {B : Nat} {w : World} {b : Nat} {C : Int → Option (Int × Bool)} (h : Rf B w b C) : b < w.heap.size := by
  obtain ⟨_, h1, _⟩ := h.r
  exact (Array.getElem?_eq_some_iff.1 h1).1
theorem Rf.stay {B : Nat} {w w' : World} {b : Nat} {C : Int → Option (Int × Bool)} {X : Nat → Prop} (h : Rf B w b C) (k : Apart X w w') (hx : ¬ X b) : Rf B w' b C := by
  have hl := h.lt
  obtain ⟨arr, h1, h2⟩ := h.r
  exact ⟨h.g, arr, (k.block b hl hx).trans h1, h2⟩
theorem Rf.below {B : Nat} {w w' : World} {b : Nat} {C : Int → Option (Int × Bool)} (h : Rf B w b C) (k : Below w.heap.size w w') : Rf B w' b C := h.stay (Apart.of_below (X := fun _ => False) k) id
theorem Rf.cs {B : Nat} {w : World} {b : Nat} {C : Int → Option (Int × Bool)} (h : Rf B w b C) (i : Nat) (hi : i < 64) : w.cell? ⟨b, i, none⟩ = some (.int .i64 (sV (C i))) ∧ w.cell? ⟨b, 64 + i, none⟩ = some (.bool (wV (C i))) := by
  obtain ⟨arr, h1, _, h3⟩ := h.r
  rw [Lib.cell_of_heap h1, Lib.cell_of_heap h1]
  exact h3 i hi
theorem Rf.f {B : Nat} {w : World} {b : Nat} {C : Int → Option (Int × Bool)} (h : Rf B w b C) (j : Nat) : w.frozen? ⟨b, j, none⟩ = false := by
  obtain ⟨arr, h1, _⟩ := h.r
  exact Lib.frozen_of_heap h1 j
theorem Rf.drew {B : Nat} {w : World} {b : Nat} {C : Int → Option (Int × Bool)} (h : Rf B w b C) : Rf B w.drew b C := h.below (below_drew w)
structure FStp (B : Nat) (w w' : World) (b : Nat) (C : Int → Option (Int × Bool)) : Prop where
  a : Rf B w' b C
  ap : Apart (XB b) w w'
theorem FStp.same {B : Nat} {w w' : World} {b : Nat} {C : Int → Option (Int × Bool)} (h : Rf B w b C) (k : Below w.heap.size w w') : FStp B w w' b C := ⟨h.below k, Apart.of_below k⟩
theorem FStp.trans {B : Nat} {w1 w2 w3 : World} {b : Nat} {C C' : Int → Option (Int × Bool)} (h : FStp B w1 w2 b C) (k : FStp B w2 w3 b C') : FStp B w1 w3 b C' := ⟨k.a, h.ap.trans k.ap⟩
theorem FStp.drew {B : Nat} {w1 w2 : World} {b : Nat} {C : Int → Option (Int × Bool)} (h : FStp B w1 w2 b C) : FStp B w1 w2.drew b C := ⟨h.a.drew, ⟨h.ap.os, h.ap.tape, h.ap.output, h.ap.size, h.ap.block⟩⟩
theorem FStp.belowB {B : Nat} {w w' : World} {b : Nat} {C : Int → Option (Int × Bool)} (h : FStp B w w' b C) (hB : B ≤ w.heap.size) : Below B w w' := h.ap.below B (fun k e => by have e' : k = b := e; rw [e']; exact h.a.g) hB
theorem Rf.ext {B : Nat} {w : World} {b : Nat} {C C' : Int → Option (Int × Bool)} (h : Rf B w b C) (e : ∀ i : Nat, i < 64 → sV (C' i) = sV (C i) ∧ wV (C' i) = wV (C i)) : Rf B w b C' := by
  obtain ⟨arr, h1, h2, h3⟩ := h.r
  exact ⟨h.g, arr, h1, h2, fun i hi => by rw [(e i hi).1, (e i hi).2]; exact h3 i hi⟩
/-- A frame's two cells. -/
theorem Rf.set {B : Nat} {w : World} {b : Nat} {C : Int → Option (Int × Bool)} (h : Rf B w b C) (i : Nat) (hi : i < 64) (o : Option (Int × Bool)) : FStp B w ((w.setCell ⟨b, i, none⟩ (.int .i64 (sV o))).setCell ⟨b, 64 + i, none⟩ (.bool (wV o))) b (upI C i o) := by
  obtain ⟨arr, h1, h2, h3⟩ := h.r
  refine ⟨⟨h.g, (arr.setIfInBounds i (.int .i64 (sV o))).setIfInBounds (64 + i) (.bool (wV o)), ?_, by simp [h2], fun j hj => ?_⟩, (Apart.at (X := XB b) w b _ _ rfl).trans (Apart.at (X := XB b) _ b _ _ rfl)⟩
  · exact heap_setCell_same _ _ _ _ _ _ (heap_setCell_same _ _ _ _ _ _ h1)
  · obtain ⟨k1, k2⟩ := h3 j hj
    unfold upI
    by_cases e : j = i
    · subst e
      rw [if_pos rfl]
      constructor
      · rw [Array.getElem?_setIfInBounds_ne (by omega), Array.getElem?_setIfInBounds_self_of_lt (by omega)]
      · rw [Array.getElem?_setIfInBounds_self_of_lt (by simp; omega)]
    · rw [if_neg (by omega)]
      constructor
      · rw [Array.getElem?_setIfInBounds_ne (by omega), Array.getElem?_setIfInBounds_ne (by omega)]
        exact k1
      · rw [Array.getElem?_setIfInBounds_ne (by omega), Array.getElem?_setIfInBounds_ne (by omega)]
        exact k2
theorem Rf.setS {B : Nat} {w : World} {b : Nat} {C : Int → Option (Int × Bool)} (h : Rf B w b C) (i : Nat) (hi : i < 64) (o : Option (Int × Bool)) (hw : wV o = wV (C i)) : FStp B w (w.setCell ⟨b, i, none⟩ (.int .i64 (sV o))) b (upI C i o) := by
  obtain ⟨arr, h1, h2, h3⟩ := h.r
  refine ⟨⟨h.g, arr.setIfInBounds i (.int .i64 (sV o)), heap_setCell_same _ _ _ _ _ _ h1, by simp [h2], fun j hj => ?_⟩, Apart.at (X := XB b) w b _ _ rfl⟩
  obtain ⟨k1, k2⟩ := h3 j hj
  unfold upI
  by_cases e : j = i
  · subst e
    rw [if_pos rfl, Array.getElem?_setIfInBounds_self_of_lt (by omega), Array.getElem?_setIfInBounds_ne (by omega), hw]
    exact ⟨rfl, k2⟩
  · rw [if_neg (by omega), Array.getElem?_setIfInBounds_ne (by omega), Array.getElem?_setIfInBounds_ne (by omega)]
    exact ⟨k1, k2⟩
theorem Rf.setW {B : Nat} {w : World} {b : Nat} {C : Int → Option (Int × Bool)} (h : Rf B w b C) (i : Nat) (hi : i < 64) (o : Option (Int × Bool)) (hw : sV o = sV (C i)) : FStp B w (w.setCell ⟨b, 64 + i, none⟩ (.bool (wV o))) b (upI C i o) := by
  obtain ⟨arr, h1, h2, h3⟩ := h.r
  refine ⟨⟨h.g, arr.setIfInBounds (64 + i) (.bool (wV o)), heap_setCell_same _ _ _ _ _ _ h1, by simp [h2], fun j hj => ?_⟩, Apart.at (X := XB b) w b _ _ rfl⟩
  obtain ⟨k1, k2⟩ := h3 j hj
  unfold upI
  by_cases e : j = i
  · subst e
    rw [if_pos rfl, Array.getElem?_setIfInBounds_ne (by omega), Array.getElem?_setIfInBounds_self_of_lt (by omega), hw]
    exact ⟨k1, rfl⟩
  · rw [if_neg (by omega), Array.getElem?_setIfInBounds_ne (by omega), Array.getElem?_setIfInBounds_ne (by omega)]
    exact ⟨k1, k2⟩
theorem sV_none {C : Int → Option (Int × Bool)} {F : Int → Option Int} (h : Both C F) (f : Int) : (sV (C f) == 0) = !(C f).isSome := by
  cases e : C f with
  | none => rfl
  | some c =>
    have := h.c f c.1 c.2 e
    simp only [sV, Option.isSome_some, Bool.not_true, beq_eq_false_iff_ne]
    omega
def z128 : List Value := List.replicate 64 (.int .i64 0) ++ List.replicate 64 (.bool false)
theorem z128_at (i : Nat) (hi : i < 64) : z128.toArray[i]? = some (.int .i64 0) ∧ z128.toArray[64 + i]? = some (.bool false) := by
  unfold z128
  rw [List.getElem?_toArray, List.getElem?_toArray]
  constructor
  · rw [List.getElem?_append_left (by simpa using hi), List.getElem?_replicate, if_pos hi]
  · rw [List.getElem?_append_right (by simp), List.getElem?_replicate]
    simp
    omega
theorem infoR : (Try.prog.info? 66).map (·.zero) = some (some (.agg z128.toArray)) := by kernel_rfl
theorem zeroR (w : World) : (zeroValue 66).run Try.prog w = .ok (.agg z128.toArray) w := by
  have hi := infoR
  rw [Option.map_eq_some_iff] at hi
  obtain ⟨i, hi, hz⟩ := hi
  simp [zeroValue, typeInfo, hi, hz]
set_option maxHeartbeats 2000000 in
theorem rnew_any (w : World) : Calls Try.prog 19 #[] w fun r w' => r = .returned (.pointer (some ⟨w.heap.size, 0, none⟩)) ∧ Rf w.heap.size w' w.heap.size q0.C ∧ Below w.heap.size w w' := by
  have HB := below_new w (.cells z128.toArray 66)
  have HC : Rf w.heap.size (w.alloc (.cells z128.toArray 66)) w.heap.size q0.C := ⟨Nat.le_refl _, z128.toArray, heap_alloc_new w _, by simp [z128], fun i hi => z128_at i hi⟩
  have hz := zeroR w
  go_enter Try.func19, Try.ntmps19
  generalize z128.toArray = Z at *
  go_wp2
  go_ret
  exact ⟨rfl, HC, HB⟩
set_option maxHeartbeats 1000000 in
theorem rmay_any (b : Nat) (f : Int) (w : World) : Calls Try.prog 41 #[.pointer (some ⟨b, 0, none⟩), .int .u8 f] w fun r w' => r = .returned (.int .i64 (thE f)) ∧ w' = w := by
  unfold thE
  by_cases h : 64 ≤ f
  · rw [if_pos h]
    go_enter Try.func41, Try.ntmps41
    go_wp2
    go_ret
    exact ⟨rfl, rfl⟩
  · rw [if_neg h]
    go_enter Try.func41, Try.ntmps41
    go_wp2
    go_ret
    exact ⟨rfl, rfl⟩
set_option maxHeartbeats 1000000 in
theorem rholds_any (B b : Nat) (q : St) (f : Int) (w : World) (h : Rf B w b q.C) (hq : q.Ok) (h0 : 0 ≤ f) : Calls Try.prog 40 #[.pointer (some ⟨b, 0, none⟩), .int .u8 f] w fun r w' => r = .returned (.int .i64 (ctE q.C f)) ∧ w' = w := by
  have cT := rmay_any b f w
  unfold thE at cT
  unfold ctE
  have hb := h.lt
  by_cases h6 : 64 ≤ f
  · rw [if_pos h6] at cT ⊢
    clear h
    go_enter Try.func40, Try.ntmps40
    go_wp2_with fail
    refine cT.mono ?_
    rintro r W ⟨rfl, rfl⟩
    go_wp2
    go_ret
    exact ⟨rfl, rfl⟩
  · rw [if_neg h6] at cT ⊢
    obtain ⟨i, rfl⟩ : ∃ i : Nat, f = i := ⟨f.toNat, by omega⟩
    have c0 := (h.cs i (by omega)).1
    have hz := sV_none hq i
    have h64 : (i : Int) < 64 := by omega
    generalize sV (q.C i) = v at *
    generalize (q.C i).isSome = z at *
    clear h
    cases z with
    | true =>
      simp only [Bool.not_true] at hz
      go_enter Try.func40, Try.ntmps40
      go_wp2_with fail
      refine cT.mono ?_
      rintro r W ⟨rfl, rfl⟩
      go_wp2
      go_ret
      exact ⟨rfl, rfl⟩
    | false =>
      simp only [Bool.not_false] at hz
      go_enter Try.func40, Try.ntmps40
      go_wp2_with fail
      refine cT.mono ?_
      rintro r W ⟨rfl, rfl⟩
      go_wp2
      go_ret
      exact ⟨rfl, rfl⟩
set_option maxHeartbeats 2000000 in
theorem rframe_any (B b : Nat) (q : St) (s : Int) (w : World) (h : Rf B w b q.C) (hq : q.Ok) : Calls Try.prog 24 #[.pointer (some ⟨b, 0, none⟩), .int .i64 s] w fun r w' => r = .returned (.tuple #[.int .u8 ((q.F s).getD 0), .bool (q.F s).isSome]) ∧ w' = w := by
  have HR := Hid3.mk h
  have HQ := Hid3.mk hq
  have hb := h.lt
  clear h hq
  go_enter Try.func24, Try.ntmps24
  go_wp2_with fail
  go_loopw [6] (fun s6 wr => ∃ i : Nat, i ≤ 64 ∧ s6 = .int .u8 i ∧ wr = w ∧ Hid3 (∀ j : Nat, j < i → q.F s ≠ some (j : Int))) (fun s _ => 64 - (intOf s).toNat)
  case atStart => exact ⟨0, by omega, rfl, rfl, ⟨fun j hj => by omega⟩⟩
  case round =>
    obtain ⟨i, hi, rfl, hw, HN⟩ := hrel
    rw [hw]
    clear hw
    have cM := rmay_any b i w
    unfold thE at cM
    by_cases h6 : i < 64
    · rw [if_neg (by omega)] at cM
      have c0 := (HR.out.cs i h6).1
      have h64 : (i : Int) < 64 := by omega
      cases e : q.C i with
      | none =>
        rw [e] at c0
        have HN2 : Hid3 (∀ j : Nat, j < i + 1 → q.F s ≠ some (j : Int)) := ⟨fun j hj => by
          by_cases hji : j = i
          · subst hji
            intro hf
            obtain ⟨bb, hc⟩ := HQ.out.f s j hf
            rw [e] at hc
            cases hc
          · exact HN.out j (by omega)⟩
        simp only [sV] at c0
        clear e
        go_wp2_with fail
        refine cM.mono ?_
        rintro r W ⟨rfl, rfl⟩
        clear cM
        go_wp2
        go_roundw
        case rel => exact ⟨i + 1, by omega, by go_num, by first | rfl | trivial, HN2⟩
        case measure => simp [intOf]; omega
      | some c =>
        obtain ⟨cs, cb⟩ := c
        rw [e] at c0
        simp only [sV] at c0
        obtain ⟨_, _, hs0, hs1, hF⟩ := HQ.out.c i cs cb e
        have hne : ((cs + 1) != 0) = true := by simp; omega
        have hsub : IntKind.i64.wrap (cs + 1 - 1) = cs := by rw [IntKind.wrap_i64]; omega
        by_cases hcs : cs = s
        · subst hcs
          have HF := Hid3.mk hF
          have heq : (cs == cs) = true := by simp
          clear e hF
          go_wp2_with fail
          refine cM.mono ?_
          rintro r W ⟨rfl, rfl⟩
          clear cM
          go_wp2
          go_ret2
          exact ⟨by rw [HF.out]; rfl, by first | rfl | trivial⟩
        · have heq : (cs == s) = false := by simpa using hcs
          have HN2 : Hid3 (∀ j : Nat, j < i + 1 → q.F s ≠ some (j : Int)) := ⟨fun j hj => by
            by_cases hji : j = i
            · subst hji
              intro hf
              obtain ⟨bb, hc⟩ := HQ.out.f s j hf
              rw [e] at hc
              injection hc with hc
              injection hc with hc _
              exact hcs hc
            · exact HN.out j (by omega)⟩
          clear e
          go_wp2_with fail
          refine cM.mono ?_
          rintro r W ⟨rfl, rfl⟩
          clear cM
          go_wp2
          go_roundw
          case rel => exact ⟨i + 1, by omega, by go_num, by first | rfl | trivial, HN2⟩
          case measure => simp [intOf]; omega
    · obtain rfl : i = 64 := by omega
      rw [if_pos (by omega)] at cM
      have hF : q.F s = none := by
        cases e : q.F s with
        | none => rfl
        | some f =>
          obtain ⟨bb, hc⟩ := HQ.out.f s f e
          obtain ⟨h1, h2, _⟩ := HQ.out.c f s bb hc
          exact (HN.out f.toNat (by omega) (by rw [e]; congr 1; omega)).elim
      have HF := Hid3.mk hF
      clear hF
      go_wp2_with fail
      refine cM.mono ?_
      rintro r W ⟨rfl, rfl⟩
      clear cM
      go_wp2
      go_ret2
      exact ⟨by rw [HF.out]; rfl, by first | rfl | trivial⟩
end Go.Proofs.Ytboelnkeejmjnaa
