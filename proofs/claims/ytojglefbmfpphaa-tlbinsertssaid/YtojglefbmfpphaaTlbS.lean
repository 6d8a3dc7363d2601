/- A deed on both. -/
import Derived.Test.YtojglefbmfpphaaTlbQ
import Derived.Test.YtojglefbmfpphaaTlbR
namespace Go.Proofs.Ytojglefbmfpphaa
open Go.RowKit Go.Maps
set_option linter.unusedVariables false
set_option maxRecDepth 100000
def ddV (d : Dd) : Value := .agg #[.int .i64 d.1, .int .u8 d.2.1, .int .u8 d.2.2.1, .int .u8 d.2.2.2.1, .bool d.2.2.2.2]
theorem b5 {W : World} {b : Nat} {x0 x1 x2 x3 x4 : Value} {t : TypeId} (h : W.heap[b]? = some (.cells #[x0, x1, x2, x3, x4] t)) : W.cell? ⟨b, 0, none⟩ = some x0 ∧ W.cell? ⟨b, 1, none⟩ = some x1 ∧ W.cell? ⟨b, 2, none⟩ = some x2 ∧ W.cell? ⟨b, 3, none⟩ = some x3 ∧ W.cell? ⟨b, 4, none⟩ = some x4 :=
  ⟨by rw [Lib.cell_of_heap h]; rfl, by rw [Lib.cell_of_heap h]; rfl, by rw [Lib.cell_of_heap h]; rfl, by rw [Lib.cell_of_heap h]; rfl, by rw [Lib.cell_of_heap h]; rfl⟩
/-- A block that is neither the object nor its row stays. -/
theorem Stp.keep {B : Nat} {t : TypeId} {w w' : World} {b : Nat} {v v' : Value} {L L' : List Mp} (s : Stp B t w w' b v v' L') (h : Ob B t w b v L) (n : Nat) (hb : b < n) (hr : ∀ g, v.ownBlock = some g → g < n) (k : Nat) (hk : k < w.heap.size) (hn : n ≤ k) : w'.heap[k]? = w.heap[k]? :=
  s.ap.block k hk (fun e => by
    rcases e with e | e
    · omega
    · have := hr k e.symm
      omega)
set_option maxHeartbeats 8000000 in
theorem do_ins (B tb rb : Nat) (v u : Value) (L : List Mp) (k a p f : Int) (b : Bool) (w : World) (h : Two B w tb rb v u L) (hG : Good L) (hm : MpOk (a, p, f, b)) (hB : B ≤ w.heap.size) (hk : k = 0) (hr : rngB (a, p, f, b) = true) :
    Calls Try.prog 23 #[.pointer (some ⟨tb, 0, none⟩), .pointer (some ⟨rb, 0, none⟩), .agg #[.int .i64 k, .int .u8 a, .int .u8 p, .int .u8 f, .bool b]] w fun e w' => e = .returned (.bool true) ∧ ∃ v' u', Mv B w w' tb rb v u v' u' (insL (a, p, f, b) L) := by
  subst hk
  have hb0 : Below w.heap.size w (w.alloc (.cells #[.int .i64 0, .int .u8 a, .int .u8 p, .int .u8 f, .bool b] 51)) := (Below.refl _ w).alloc (Nat.le_refl _) _
  have HT0 : Hid (Two B (w.alloc (.cells #[.int .i64 0, .int .u8 a, .int .u8 p, .int .u8 f, .bool b] 51)) tb rb v u L) := h.below hb0
  have HB0 : Hid (Below w.heap.size w (w.alloc (.cells #[.int .i64 0, .int .u8 a, .int .u8 p, .int .u8 f, .bool b] 51))) := hb0
  have hbx : Hid ((w.alloc (.cells #[.int .i64 0, .int .u8 a, .int .u8 p, .int .u8 f, .bool b] 51)).heap[w.heap.size]? = some (.cells #[.int .i64 0, .int .u8 a, .int .u8 p, .int .u8 f, .bool b] 51)) := heap_alloc_new w _
  have htl := h.t.lt
  have hrl := h.r.lt
  have Hvo : Hid (∀ g, v.ownBlock = some g → g < w.heap.size) := fun g e => (h.t.row.lt g e).2
  have Huo : Hid (∀ g, u.ownBlock = some g → g < w.heap.size) := fun g e => (h.r.row.lt g e).2
  have hBz : B ≤ (w.alloc (.cells #[.int .i64 0, .int .u8 a, .int .u8 p, .int .u8 f, .bool b] 51)).heap.size := Nat.le_trans hB hb0.size
  have hL := hG.few
  clear h hb0
  have cT := insert_any B tb v L (a, p, f, b) (w.alloc (.cells #[.int .i64 0, .int .u8 a, .int .u8 p, .int .u8 f, .bool b] 51)) HT0.out.t hG hm hr hBz
  have cR := fun W (hO : Ob B 57 W rb u L) (hz : B ≤ W.heap.size) => rinsert_any B rb u L (a, p, f, b) W hO hG hm hr hz
  generalize insO (a, p, f, b) L = y at *
  generalize (insK (a, p, f, b) L).isSome = q at *
  generalize insL (a, p, f, b) L = L2 at *
  obtain ⟨y0, y1, y2, y3⟩ := y
  unfold mpV at cT cR
  simp only at cT cR
  have eG := eqGuardM
  have eM := fun w => eqM w y0 y1 y2 y0 y1 y2 y3 y3
  simp only [decide_true] at eM
  go_enter Try.func23, Try.ntmps23
  go_wp2_with fail
  refine cT.mono ?_
  rintro e W1 ⟨rfl, v', hS⟩
  have hk1 := hS.keep HT0.out.t w.heap.size htl Hvo.out
  have hw1 := (hk1 w.heap.size (by simp) (Nat.le_refl _)).trans hbx.out
  obtain ⟨hR1, hAp⟩ := HT0.out.tstep hS
  have hY1 : Below W1.heap.size W1 (W1.alloc (.cells #[.int .u8 y0, .int .u8 y1, .int .u8 y2, .bool y3] 33)) := (Below.refl _ _).alloc (Nat.le_refl _) _
  have hx1 : (W1.alloc (.cells #[.int .u8 y0, .int .u8 y1, .int .u8 y2, .bool y3] 33)).heap[w.heap.size]? = some (.cells #[.int .i64 0, .int .u8 a, .int .u8 p, .int .u8 f, .bool b] 51) := (hY1.block _ (Array.getElem?_eq_some_iff.1 hw1).1).trans hw1
  obtain ⟨x0, x1, x2, x3, x4⟩ := b5 hx1
  have HOr : Hid (Ob B 57 (W1.alloc (.cells #[.int .u8 y0, .int .u8 y1, .int .u8 y2, .bool y3] 33)) rb u L) := hR1.below hY1
  have hBz1 : B ≤ (W1.alloc (.cells #[.int .u8 y0, .int .u8 y1, .int .u8 y2, .bool y3] 33)).heap.size := Nat.le_trans hBz (Nat.le_trans hS.ap.size hY1.size)
  clear hx1 hw1
  go_wp2_with fail
  refine (cR _ HOr.out hBz1).mono ?_
  rintro e W2 ⟨rfl, u', hQ⟩
  have hk2 := hQ.keep (hR1.below hY1) w.heap.size hrl Huo.out
  have hs0 := HB0.out.size
  have hs1 := hS.ap.size
  have hy2 := (hk2 W1.heap.size (by simp) (by omega)).trans (heap_alloc_new W1 _)
  have HM : Hid (Mv B w W2 tb rb v u v' u' L2) := (Mv.mk' HT0.out hS hY1 hQ).pre HB0.out
  obtain ⟨⟨a0, a1, a2, a3⟩, _⟩ := b4 hy2
  have n0 : W1.heap.size ≠ W2.heap.size := by have := (Array.getElem?_eq_some_iff.1 hy2).1; omega
  have d0 : (W2.alloc (.cells #[.int .u8 y0, .int .u8 y1, .int .u8 y2, .bool y3] 33)).cell? ⟨W1.heap.size, 0, none⟩ = some (.int .u8 y0) := Lib.cell?_alloc_some _ a0
  have d1 : (W2.alloc (.cells #[.int .u8 y0, .int .u8 y1, .int .u8 y2, .bool y3] 33)).cell? ⟨W1.heap.size, 1, none⟩ = some (.int .u8 y1) := Lib.cell?_alloc_some _ a1
  have d2 : (W2.alloc (.cells #[.int .u8 y0, .int .u8 y1, .int .u8 y2, .bool y3] 33)).cell? ⟨W1.heap.size, 2, none⟩ = some (.int .u8 y2) := Lib.cell?_alloc_some _ a2
  have d3 : (W2.alloc (.cells #[.int .u8 y0, .int .u8 y1, .int .u8 y2, .bool y3] 33)).cell? ⟨W1.heap.size, 3, none⟩ = some (.bool y3) := Lib.cell?_alloc_some _ a3
  clear hS hQ hY1 hy2 hk1 hk2 hR1 hAp cT cR x0 x1 x2 x3 x4 HOr hBz1
  go_wp2
  go_ret
  exact ⟨rfl, _, _, HM.out.post ((Below.refl _ _).alloc (Nat.le_refl _) _)⟩
set_option maxHeartbeats 8000000 in
theorem do_bad (B tb rb : Nat) (v u : Value) (L : List Mp) (k a p f : Int) (b : Bool) (w : World) (h : Two B w tb rb v u L) (hG : Good L) (hm : MpOk (a, p, f, b)) (hB : B ≤ w.heap.size) (hk : k = 0) (hr : rngB (a, p, f, b) = false) :
    Calls Try.prog 23 #[.pointer (some ⟨tb, 0, none⟩), .pointer (some ⟨rb, 0, none⟩), .agg #[.int .i64 k, .int .u8 a, .int .u8 p, .int .u8 f, .bool b]] w fun e w' => e = .returned (.bool true) ∧ ∃ v' u', Mv B w w' tb rb v u v' u' (L) := by
  subst hk
  have hb0 : Below w.heap.size w (w.alloc (.cells #[.int .i64 0, .int .u8 a, .int .u8 p, .int .u8 f, .bool b] 51)) := (Below.refl _ w).alloc (Nat.le_refl _) _
  have HT0 : Hid (Two B (w.alloc (.cells #[.int .i64 0, .int .u8 a, .int .u8 p, .int .u8 f, .bool b] 51)) tb rb v u L) := h.below hb0
  have HB0 : Hid (Below w.heap.size w (w.alloc (.cells #[.int .i64 0, .int .u8 a, .int .u8 p, .int .u8 f, .bool b] 51))) := hb0
  have hbx : Hid ((w.alloc (.cells #[.int .i64 0, .int .u8 a, .int .u8 p, .int .u8 f, .bool b] 51)).heap[w.heap.size]? = some (.cells #[.int .i64 0, .int .u8 a, .int .u8 p, .int .u8 f, .bool b] 51)) := heap_alloc_new w _
  have htl := h.t.lt
  have hrl := h.r.lt
  have Hvo : Hid (∀ g, v.ownBlock = some g → g < w.heap.size) := fun g e => (h.t.row.lt g e).2
  have Huo : Hid (∀ g, u.ownBlock = some g → g < w.heap.size) := fun g e => (h.r.row.lt g e).2
  have hBz : B ≤ (w.alloc (.cells #[.int .i64 0, .int .u8 a, .int .u8 p, .int .u8 f, .bool b] 51)).heap.size := Nat.le_trans hB hb0.size
  have hL := hG.few
  clear h hb0
  have cT := insert_bad tb (a, p, f, b) (w.alloc (.cells #[.int .i64 0, .int .u8 a, .int .u8 p, .int .u8 f, .bool b] 51)) hm hr
  have cR := fun W => rinsert_bad rb (a, p, f, b) W hm hr
  unfold mpV zM at cT cR
  simp only at cT cR
  have eG := eqGuardM
  have eM := fun w => eqM w 0 0 0 0 0 0 false false
  simp only [decide_true] at eM
  go_enter Try.func23, Try.ntmps23
  go_wp2_with fail
  refine cT.mono ?_
  rintro e W1 ⟨rfl, hS⟩
  have hw1 := (hS.block w.heap.size (by simp)).trans hbx.out
  have hY1 : Below W1.heap.size W1 (W1.alloc (.cells #[.int .u8 0, .int .u8 0, .int .u8 0, .bool false] 33)) := (Below.refl _ _).alloc (Nat.le_refl _) _
  have hx1 : (W1.alloc (.cells #[.int .u8 0, .int .u8 0, .int .u8 0, .bool false] 33)).heap[w.heap.size]? = some (.cells #[.int .i64 0, .int .u8 a, .int .u8 p, .int .u8 f, .bool b] 51) := (hY1.block _ (Array.getElem?_eq_some_iff.1 hw1).1).trans hw1
  obtain ⟨x0, x1, x2, x3, x4⟩ := b5 hx1
  have HOr : Hid (Ob B 57 (W1.alloc (.cells #[.int .u8 0, .int .u8 0, .int .u8 0, .bool false] 33)) rb u L) := HT0.out.r.below (hS.trans (hY1.mono hS.size))
  have hBz1 : B ≤ (W1.alloc (.cells #[.int .u8 0, .int .u8 0, .int .u8 0, .bool false] 33)).heap.size := Nat.le_trans hBz (Nat.le_trans hS.size hY1.size)
  clear hx1 hw1
  go_wp2_with fail
  refine (cR _).mono ?_
  rintro e W2 ⟨rfl, hQ⟩
  have hs0 := HB0.out.size
  have hs1 := hS.size
  have hy2 := (hQ.block W1.heap.size (by simp)).trans (heap_alloc_new W1 (.cells #[.int .u8 0, .int .u8 0, .int .u8 0, .bool false] 33))
  have hb2 : Below (w.alloc (.cells #[.int .i64 0, .int .u8 a, .int .u8 p, .int .u8 f, .bool b] 51)).heap.size (w.alloc (.cells #[.int .i64 0, .int .u8 a, .int .u8 p, .int .u8 f, .bool b] 51)) W2 := hS.trans ((hY1.trans (hQ.mono hY1.size)).mono hS.size)
  have HM : Hid (Mv B w W2 tb rb v u v u L) := (Mv.same HT0.out hb2).pre HB0.out
  obtain ⟨⟨a0, a1, a2, a3⟩, _⟩ := b4 hy2
  have n0 : W1.heap.size ≠ W2.heap.size := by have := (Array.getElem?_eq_some_iff.1 hy2).1; omega
  have d0 : (W2.alloc (.cells #[.int .u8 0, .int .u8 0, .int .u8 0, .bool false] 33)).cell? ⟨W1.heap.size, 0, none⟩ = some (.int .u8 0) := Lib.cell?_alloc_some _ a0
  have d1 : (W2.alloc (.cells #[.int .u8 0, .int .u8 0, .int .u8 0, .bool false] 33)).cell? ⟨W1.heap.size, 1, none⟩ = some (.int .u8 0) := Lib.cell?_alloc_some _ a1
  have d2 : (W2.alloc (.cells #[.int .u8 0, .int .u8 0, .int .u8 0, .bool false] 33)).cell? ⟨W1.heap.size, 2, none⟩ = some (.int .u8 0) := Lib.cell?_alloc_some _ a2
  have d3 : (W2.alloc (.cells #[.int .u8 0, .int .u8 0, .int .u8 0, .bool false] 33)).cell? ⟨W1.heap.size, 3, none⟩ = some (.bool false) := Lib.cell?_alloc_some _ a3
  clear hS hQ hY1 hy2 hb2 cT cR x0 x1 x2 x3 x4 HOr hBz1
  go_wp2
  go_ret
  exact ⟨rfl, _, _, HM.out.post ((Below.refl _ _).alloc (Nat.le_refl _) _)⟩
set_option maxHeartbeats 8000000 in
theorem do_drop (B tb rb : Nat) (v u : Value) (L : List Mp) (k a p f : Int) (b : Bool) (w : World) (h : Two B w tb rb v u L) (hG : Good L) (hm : MpOk (a, p, f, b)) (hB : B ≤ w.heap.size) (hk : k = 1) :
    Calls Try.prog 23 #[.pointer (some ⟨tb, 0, none⟩), .pointer (some ⟨rb, 0, none⟩), .agg #[.int .i64 k, .int .u8 a, .int .u8 p, .int .u8 f, .bool b]] w fun e w' => e = .returned (.bool true) ∧ ∃ v' u', Mv B w w' tb rb v u v' u' (L.filter (fun x => !ofB a p x)) := by
  subst hk
  have hb0 : Below w.heap.size w (w.alloc (.cells #[.int .i64 1, .int .u8 a, .int .u8 p, .int .u8 f, .bool b] 51)) := (Below.refl _ w).alloc (Nat.le_refl _) _
  have HT0 : Hid (Two B (w.alloc (.cells #[.int .i64 1, .int .u8 a, .int .u8 p, .int .u8 f, .bool b] 51)) tb rb v u L) := h.below hb0
  have HB0 : Hid (Below w.heap.size w (w.alloc (.cells #[.int .i64 1, .int .u8 a, .int .u8 p, .int .u8 f, .bool b] 51))) := hb0
  have hbx : Hid ((w.alloc (.cells #[.int .i64 1, .int .u8 a, .int .u8 p, .int .u8 f, .bool b] 51)).heap[w.heap.size]? = some (.cells #[.int .i64 1, .int .u8 a, .int .u8 p, .int .u8 f, .bool b] 51)) := heap_alloc_new w _
  have htl := h.t.lt
  have hrl := h.r.lt
  have Hvo : Hid (∀ g, v.ownBlock = some g → g < w.heap.size) := fun g e => (h.t.row.lt g e).2
  have Huo : Hid (∀ g, u.ownBlock = some g → g < w.heap.size) := fun g e => (h.r.row.lt g e).2
  have hBz : B ≤ (w.alloc (.cells #[.int .i64 1, .int .u8 a, .int .u8 p, .int .u8 f, .bool b] 51)).heap.size := Nat.le_trans hB hb0.size
  have hL := hG.few
  clear h hb0
  have cT := drop_any B tb v L a p (w.alloc (.cells #[.int .i64 1, .int .u8 a, .int .u8 p, .int .u8 f, .bool b] 51)).drew (HT0.out.t.below (Below.refl _ _).drew) (by omega)
  have cR := fun W (hO : Ob B 57 W rb u L) (hz : B ≤ W.heap.size) => rdrop_any B rb u L a p W hO hG hz
  generalize L.filter (fun x => !ofB a p x) = L2 at *
  generalize fdB a p L = q at *
  have hS0 : Hid ((w.alloc (.cells #[.int .i64 1, .int .u8 a, .int .u8 p, .int .u8 f, .bool b] 51)).drew.cell? ⟨w.heap.size, 1, none⟩ = some (.int .u8 a) ∧ (w.alloc (.cells #[.int .i64 1, .int .u8 a, .int .u8 p, .int .u8 f, .bool b] 51)).drew.cell? ⟨w.heap.size, 2, none⟩ = some (.int .u8 p) ∧ (w.alloc (.cells #[.int .i64 1, .int .u8 a, .int .u8 p, .int .u8 f, .bool b] 51)).drew.cell? ⟨w.heap.size, 3, none⟩ = some (.int .u8 f) ∧ (w.alloc (.cells #[.int .i64 1, .int .u8 a, .int .u8 p, .int .u8 f, .bool b] 51)).drew.cell? ⟨w.heap.size, 4, none⟩ = some (.bool b)) := by
    obtain ⟨_, h1, h2, h3, h4⟩ := b5 (W := (w.alloc (.cells #[.int .i64 1, .int .u8 a, .int .u8 p, .int .u8 f, .bool b] 51)).drew) hbx.out
    exact ⟨h1, h2, h3, h4⟩
  have HTd : Hid (Two B (w.alloc (.cells #[.int .i64 1, .int .u8 a, .int .u8 p, .int .u8 f, .bool b] 51)).drew tb rb v u L) := HT0.out.below (Below.refl _ _).drew
  have hS1 : Hid (∀ W' v', Stp B 55 (w.alloc (.cells #[.int .i64 1, .int .u8 a, .int .u8 p, .int .u8 f, .bool b] 51)).drew W' tb v v' L2 → W'.cell? ⟨w.heap.size, 1, none⟩ = some (.int .u8 a) ∧ W'.cell? ⟨w.heap.size, 2, none⟩ = some (.int .u8 p) ∧ W'.cell? ⟨w.heap.size, 3, none⟩ = some (.int .u8 f) ∧ W'.cell? ⟨w.heap.size, 4, none⟩ = some (.bool b)) := fun W' v' hS => by
    obtain ⟨_, h1, h2, h3, h4⟩ := b5 ((hS.keep HTd.out.t w.heap.size htl Hvo.out w.heap.size (by show w.heap.size < (w.alloc (.cells #[.int .i64 1, .int .u8 a, .int .u8 p, .int .u8 f, .bool b] 51)).heap.size; simp) (Nat.le_refl _)).trans hbx.out)
    exact ⟨h1, h2, h3, h4⟩
  have hS2 : Hid (∀ W1 W2 v' u', Stp B 55 (w.alloc (.cells #[.int .i64 1, .int .u8 a, .int .u8 p, .int .u8 f, .bool b] 51)).drew W1 tb v v' L2 → Stp B 57 W1 W2 rb u u' L2 → W2.cell? ⟨w.heap.size, 1, none⟩ = some (.int .u8 a) ∧ W2.cell? ⟨w.heap.size, 2, none⟩ = some (.int .u8 p) ∧ W2.cell? ⟨w.heap.size, 3, none⟩ = some (.int .u8 f) ∧ W2.cell? ⟨w.heap.size, 4, none⟩ = some (.bool b)) := fun W1 W2 v' u' hS hQ => by
    have hq := (hS.keep HTd.out.t w.heap.size htl Hvo.out w.heap.size (by show w.heap.size < (w.alloc (.cells #[.int .i64 1, .int .u8 a, .int .u8 p, .int .u8 f, .bool b] 51)).heap.size; simp) (Nat.le_refl _)).trans hbx.out
    have hR1 := (HTd.out.tstep hS).1
    obtain ⟨_, h1, h2, h3, h4⟩ := b5 ((hQ.keep hR1 w.heap.size hrl Huo.out w.heap.size (Array.getElem?_eq_some_iff.1 hq).1 (Nat.le_refl _)).trans hq)
    exact ⟨h1, h2, h3, h4⟩
  have hBd : Hid (∀ W1 v', Stp B 55 (w.alloc (.cells #[.int .i64 1, .int .u8 a, .int .u8 p, .int .u8 f, .bool b] 51)).drew W1 tb v v' L2 → B ≤ W1.heap.size) := fun W1 v' hS => Nat.le_trans (show B ≤ (w.alloc (.cells #[.int .i64 1, .int .u8 a, .int .u8 p, .int .u8 f, .bool b] 51)).drew.heap.size from hBz) hS.ap.size
  clear hbx
  go_enter Try.func23, Try.ntmps23
  go_wp2_with fail
  go_region_held3 (fun w' => w'.cell? ⟨w.heap.size, 1, none⟩ = some (.int .u8 a) ∧ w'.cell? ⟨w.heap.size, 2, none⟩ = some (.int .u8 p) ∧ w'.cell? ⟨w.heap.size, 3, none⟩ = some (.int .u8 f) ∧ w'.cell? ⟨w.heap.size, 4, none⟩ = some (.bool b)) (first | exact hS0.out | exact hS2.out _ _ _ _ hS hQ | exact hS1.out _ _ hS) ((first | (go_at_call 34; refine (cT).mono ?_; rintro e W1 ⟨rfl, v', hS⟩) | (go_at_call 35; refine (cR _ ((HTd.out.tstep hS).1) (hBd.out _ _ hS)).mono ?_; rintro e W2 ⟨rfl, u', hQ⟩)))
  have HM : Hid (Mv B w W2 tb rb v u v' u' L2) := (Mv.mk' HTd.out hS (Below.refl _ _) hQ).pre (HB0.out.trans ((Below.refl _ _).drew.mono HB0.out.size))
  clear hS hQ hS0 hS1 hS2 hBd cT cR
  go_wp2
  go_ret
  exact ⟨rfl, _, _, HM.out⟩
set_option maxHeartbeats 8000000 in
theorem do_asid (B tb rb : Nat) (v u : Value) (L : List Mp) (k a p f : Int) (b : Bool) (w : World) (h : Two B w tb rb v u L) (hG : Good L) (hm : MpOk (a, p, f, b)) (hB : B ≤ w.heap.size) (hk : k = 2) :
    Calls Try.prog 23 #[.pointer (some ⟨tb, 0, none⟩), .pointer (some ⟨rb, 0, none⟩), .agg #[.int .i64 k, .int .u8 a, .int .u8 p, .int .u8 f, .bool b]] w fun e w' => e = .returned (.bool true) ∧ ∃ v' u', Mv B w w' tb rb v u v' u' (L.filter (fun x => !decide (x.1 = a))) := by
  subst hk
  have hb0 : Below w.heap.size w (w.alloc (.cells #[.int .i64 2, .int .u8 a, .int .u8 p, .int .u8 f, .bool b] 51)) := (Below.refl _ w).alloc (Nat.le_refl _) _
  have HT0 : Hid (Two B (w.alloc (.cells #[.int .i64 2, .int .u8 a, .int .u8 p, .int .u8 f, .bool b] 51)) tb rb v u L) := h.below hb0
  have HB0 : Hid (Below w.heap.size w (w.alloc (.cells #[.int .i64 2, .int .u8 a, .int .u8 p, .int .u8 f, .bool b] 51))) := hb0
  have hbx : Hid ((w.alloc (.cells #[.int .i64 2, .int .u8 a, .int .u8 p, .int .u8 f, .bool b] 51)).heap[w.heap.size]? = some (.cells #[.int .i64 2, .int .u8 a, .int .u8 p, .int .u8 f, .bool b] 51)) := heap_alloc_new w _
  have htl := h.t.lt
  have hrl := h.r.lt
  have Hvo : Hid (∀ g, v.ownBlock = some g → g < w.heap.size) := fun g e => (h.t.row.lt g e).2
  have Huo : Hid (∀ g, u.ownBlock = some g → g < w.heap.size) := fun g e => (h.r.row.lt g e).2
  have hBz : B ≤ (w.alloc (.cells #[.int .i64 2, .int .u8 a, .int .u8 p, .int .u8 f, .bool b] 51)).heap.size := Nat.le_trans hB hb0.size
  have hL := hG.few
  clear h hb0
  have cT := asid_any B tb v L a (w.alloc (.cells #[.int .i64 2, .int .u8 a, .int .u8 p, .int .u8 f, .bool b] 51)).drew (HT0.out.t.below (Below.refl _ _).drew) (by omega)
  have cR := fun W (hO : Ob B 57 W rb u L) (hz : B ≤ W.heap.size) => rasid_any B rb u L a W hO (by omega) hz
  generalize L.filter (fun x => !decide (x.1 = a)) = L2 at *
  generalize ((L.length : Int) - (L2.length : Int)) = q at *
  have hS0 : Hid ((w.alloc (.cells #[.int .i64 2, .int .u8 a, .int .u8 p, .int .u8 f, .bool b] 51)).drew.cell? ⟨w.heap.size, 1, none⟩ = some (.int .u8 a) ∧ (w.alloc (.cells #[.int .i64 2, .int .u8 a, .int .u8 p, .int .u8 f, .bool b] 51)).drew.cell? ⟨w.heap.size, 2, none⟩ = some (.int .u8 p) ∧ (w.alloc (.cells #[.int .i64 2, .int .u8 a, .int .u8 p, .int .u8 f, .bool b] 51)).drew.cell? ⟨w.heap.size, 3, none⟩ = some (.int .u8 f) ∧ (w.alloc (.cells #[.int .i64 2, .int .u8 a, .int .u8 p, .int .u8 f, .bool b] 51)).drew.cell? ⟨w.heap.size, 4, none⟩ = some (.bool b)) := by
    obtain ⟨_, h1, h2, h3, h4⟩ := b5 (W := (w.alloc (.cells #[.int .i64 2, .int .u8 a, .int .u8 p, .int .u8 f, .bool b] 51)).drew) hbx.out
    exact ⟨h1, h2, h3, h4⟩
  have HTd : Hid (Two B (w.alloc (.cells #[.int .i64 2, .int .u8 a, .int .u8 p, .int .u8 f, .bool b] 51)).drew tb rb v u L) := HT0.out.below (Below.refl _ _).drew
  have hS1 : Hid (∀ W' v', Stp B 55 (w.alloc (.cells #[.int .i64 2, .int .u8 a, .int .u8 p, .int .u8 f, .bool b] 51)).drew W' tb v v' L2 → W'.cell? ⟨w.heap.size, 1, none⟩ = some (.int .u8 a) ∧ W'.cell? ⟨w.heap.size, 2, none⟩ = some (.int .u8 p) ∧ W'.cell? ⟨w.heap.size, 3, none⟩ = some (.int .u8 f) ∧ W'.cell? ⟨w.heap.size, 4, none⟩ = some (.bool b)) := fun W' v' hS => by
    obtain ⟨_, h1, h2, h3, h4⟩ := b5 ((hS.keep HTd.out.t w.heap.size htl Hvo.out w.heap.size (by show w.heap.size < (w.alloc (.cells #[.int .i64 2, .int .u8 a, .int .u8 p, .int .u8 f, .bool b] 51)).heap.size; simp) (Nat.le_refl _)).trans hbx.out)
    exact ⟨h1, h2, h3, h4⟩
  have hS2 : Hid (∀ W1 W2 v' u', Stp B 55 (w.alloc (.cells #[.int .i64 2, .int .u8 a, .int .u8 p, .int .u8 f, .bool b] 51)).drew W1 tb v v' L2 → Stp B 57 W1 W2 rb u u' L2 → W2.cell? ⟨w.heap.size, 1, none⟩ = some (.int .u8 a) ∧ W2.cell? ⟨w.heap.size, 2, none⟩ = some (.int .u8 p) ∧ W2.cell? ⟨w.heap.size, 3, none⟩ = some (.int .u8 f) ∧ W2.cell? ⟨w.heap.size, 4, none⟩ = some (.bool b)) := fun W1 W2 v' u' hS hQ => by
    have hq := (hS.keep HTd.out.t w.heap.size htl Hvo.out w.heap.size (by show w.heap.size < (w.alloc (.cells #[.int .i64 2, .int .u8 a, .int .u8 p, .int .u8 f, .bool b] 51)).heap.size; simp) (Nat.le_refl _)).trans hbx.out
    have hR1 := (HTd.out.tstep hS).1
    obtain ⟨_, h1, h2, h3, h4⟩ := b5 ((hQ.keep hR1 w.heap.size hrl Huo.out w.heap.size (Array.getElem?_eq_some_iff.1 hq).1 (Nat.le_refl _)).trans hq)
    exact ⟨h1, h2, h3, h4⟩
  have hBd : Hid (∀ W1 v', Stp B 55 (w.alloc (.cells #[.int .i64 2, .int .u8 a, .int .u8 p, .int .u8 f, .bool b] 51)).drew W1 tb v v' L2 → B ≤ W1.heap.size) := fun W1 v' hS => Nat.le_trans (show B ≤ (w.alloc (.cells #[.int .i64 2, .int .u8 a, .int .u8 p, .int .u8 f, .bool b] 51)).drew.heap.size from hBz) hS.ap.size
  clear hbx
  go_enter Try.func23, Try.ntmps23
  go_wp2_with fail
  go_region_held3 (fun w' => w'.cell? ⟨w.heap.size, 1, none⟩ = some (.int .u8 a) ∧ w'.cell? ⟨w.heap.size, 2, none⟩ = some (.int .u8 p) ∧ w'.cell? ⟨w.heap.size, 3, none⟩ = some (.int .u8 f) ∧ w'.cell? ⟨w.heap.size, 4, none⟩ = some (.bool b)) (first | exact hS0.out | exact hS2.out _ _ _ _ hS hQ | exact hS1.out _ _ hS) ((first | (go_at_call 18; refine (cT).mono ?_; rintro e W1 ⟨rfl, v', hS⟩) | (go_at_call 36; refine (cR _ ((HTd.out.tstep hS).1) (hBd.out _ _ hS)).mono ?_; rintro e W2 ⟨rfl, u', hQ⟩)))
  have HM : Hid (Mv B w W2 tb rb v u v' u' L2) := (Mv.mk' HTd.out hS (Below.refl _ _) hQ).pre (HB0.out.trans ((Below.refl _ _).drew.mono HB0.out.size))
  clear hS hQ hS0 hS1 hS2 hBd cT cR
  go_wp2
  go_ret
  exact ⟨rfl, _, _, HM.out⟩
set_option maxHeartbeats 8000000 in
theorem do_frame (B tb rb : Nat) (v u : Value) (L : List Mp) (k a p f : Int) (b : Bool) (w : World) (h : Two B w tb rb v u L) (hG : Good L) (hm : MpOk (a, p, f, b)) (hB : B ≤ w.heap.size) (hk : k = 3) :
    Calls Try.prog 23 #[.pointer (some ⟨tb, 0, none⟩), .pointer (some ⟨rb, 0, none⟩), .agg #[.int .i64 k, .int .u8 a, .int .u8 p, .int .u8 f, .bool b]] w fun e w' => e = .returned (.bool true) ∧ ∃ v' u', Mv B w w' tb rb v u v' u' (L.filter (fun x => !decide (x.2.2.1 = f))) := by
  subst hk
  have hb0 : Below w.heap.size w (w.alloc (.cells #[.int .i64 3, .int .u8 a, .int .u8 p, .int .u8 f, .bool b] 51)) := (Below.refl _ w).alloc (Nat.le_refl _) _
  have HT0 : Hid (Two B (w.alloc (.cells #[.int .i64 3, .int .u8 a, .int .u8 p, .int .u8 f, .bool b] 51)) tb rb v u L) := h.below hb0
  have HB0 : Hid (Below w.heap.size w (w.alloc (.cells #[.int .i64 3, .int .u8 a, .int .u8 p, .int .u8 f, .bool b] 51))) := hb0
  have hbx : Hid ((w.alloc (.cells #[.int .i64 3, .int .u8 a, .int .u8 p, .int .u8 f, .bool b] 51)).heap[w.heap.size]? = some (.cells #[.int .i64 3, .int .u8 a, .int .u8 p, .int .u8 f, .bool b] 51)) := heap_alloc_new w _
  have htl := h.t.lt
  have hrl := h.r.lt
  have Hvo : Hid (∀ g, v.ownBlock = some g → g < w.heap.size) := fun g e => (h.t.row.lt g e).2
  have Huo : Hid (∀ g, u.ownBlock = some g → g < w.heap.size) := fun g e => (h.r.row.lt g e).2
  have hBz : B ≤ (w.alloc (.cells #[.int .i64 3, .int .u8 a, .int .u8 p, .int .u8 f, .bool b] 51)).heap.size := Nat.le_trans hB hb0.size
  have hL := hG.few
  clear h hb0
  have cT := frame_any B tb v L f (w.alloc (.cells #[.int .i64 3, .int .u8 a, .int .u8 p, .int .u8 f, .bool b] 51)).drew (HT0.out.t.below (Below.refl _ _).drew) (by omega)
  have cR := fun W (hO : Ob B 57 W rb u L) (hz : B ≤ W.heap.size) => rframe_any B rb u L f W hO (by omega) hz
  generalize L.filter (fun x => !decide (x.2.2.1 = f)) = L2 at *
  generalize ((L.length : Int) - (L2.length : Int)) = q at *
  have hS0 : Hid ((w.alloc (.cells #[.int .i64 3, .int .u8 a, .int .u8 p, .int .u8 f, .bool b] 51)).drew.cell? ⟨w.heap.size, 1, none⟩ = some (.int .u8 a) ∧ (w.alloc (.cells #[.int .i64 3, .int .u8 a, .int .u8 p, .int .u8 f, .bool b] 51)).drew.cell? ⟨w.heap.size, 2, none⟩ = some (.int .u8 p) ∧ (w.alloc (.cells #[.int .i64 3, .int .u8 a, .int .u8 p, .int .u8 f, .bool b] 51)).drew.cell? ⟨w.heap.size, 3, none⟩ = some (.int .u8 f) ∧ (w.alloc (.cells #[.int .i64 3, .int .u8 a, .int .u8 p, .int .u8 f, .bool b] 51)).drew.cell? ⟨w.heap.size, 4, none⟩ = some (.bool b)) := by
    obtain ⟨_, h1, h2, h3, h4⟩ := b5 (W := (w.alloc (.cells #[.int .i64 3, .int .u8 a, .int .u8 p, .int .u8 f, .bool b] 51)).drew) hbx.out
    exact ⟨h1, h2, h3, h4⟩
  have HTd : Hid (Two B (w.alloc (.cells #[.int .i64 3, .int .u8 a, .int .u8 p, .int .u8 f, .bool b] 51)).drew tb rb v u L) := HT0.out.below (Below.refl _ _).drew
  have hS1 : Hid (∀ W' v', Stp B 55 (w.alloc (.cells #[.int .i64 3, .int .u8 a, .int .u8 p, .int .u8 f, .bool b] 51)).drew W' tb v v' L2 → W'.cell? ⟨w.heap.size, 1, none⟩ = some (.int .u8 a) ∧ W'.cell? ⟨w.heap.size, 2, none⟩ = some (.int .u8 p) ∧ W'.cell? ⟨w.heap.size, 3, none⟩ = some (.int .u8 f) ∧ W'.cell? ⟨w.heap.size, 4, none⟩ = some (.bool b)) := fun W' v' hS => by
    obtain ⟨_, h1, h2, h3, h4⟩ := b5 ((hS.keep HTd.out.t w.heap.size htl Hvo.out w.heap.size (by show w.heap.size < (w.alloc (.cells #[.int .i64 3, .int .u8 a, .int .u8 p, .int .u8 f, .bool b] 51)).heap.size; simp) (Nat.le_refl _)).trans hbx.out)
    exact ⟨h1, h2, h3, h4⟩
  have hS2 : Hid (∀ W1 W2 v' u', Stp B 55 (w.alloc (.cells #[.int .i64 3, .int .u8 a, .int .u8 p, .int .u8 f, .bool b] 51)).drew W1 tb v v' L2 → Stp B 57 W1 W2 rb u u' L2 → W2.cell? ⟨w.heap.size, 1, none⟩ = some (.int .u8 a) ∧ W2.cell? ⟨w.heap.size, 2, none⟩ = some (.int .u8 p) ∧ W2.cell? ⟨w.heap.size, 3, none⟩ = some (.int .u8 f) ∧ W2.cell? ⟨w.heap.size, 4, none⟩ = some (.bool b)) := fun W1 W2 v' u' hS hQ => by
    have hq := (hS.keep HTd.out.t w.heap.size htl Hvo.out w.heap.size (by show w.heap.size < (w.alloc (.cells #[.int .i64 3, .int .u8 a, .int .u8 p, .int .u8 f, .bool b] 51)).heap.size; simp) (Nat.le_refl _)).trans hbx.out
    have hR1 := (HTd.out.tstep hS).1
    obtain ⟨_, h1, h2, h3, h4⟩ := b5 ((hQ.keep hR1 w.heap.size hrl Huo.out w.heap.size (Array.getElem?_eq_some_iff.1 hq).1 (Nat.le_refl _)).trans hq)
    exact ⟨h1, h2, h3, h4⟩
  have hBd : Hid (∀ W1 v', Stp B 55 (w.alloc (.cells #[.int .i64 3, .int .u8 a, .int .u8 p, .int .u8 f, .bool b] 51)).drew W1 tb v v' L2 → B ≤ W1.heap.size) := fun W1 v' hS => Nat.le_trans (show B ≤ (w.alloc (.cells #[.int .i64 3, .int .u8 a, .int .u8 p, .int .u8 f, .bool b] 51)).drew.heap.size from hBz) hS.ap.size
  clear hbx
  go_enter Try.func23, Try.ntmps23
  go_wp2_with fail
  go_region_held3 (fun w' => w'.cell? ⟨w.heap.size, 1, none⟩ = some (.int .u8 a) ∧ w'.cell? ⟨w.heap.size, 2, none⟩ = some (.int .u8 p) ∧ w'.cell? ⟨w.heap.size, 3, none⟩ = some (.int .u8 f) ∧ w'.cell? ⟨w.heap.size, 4, none⟩ = some (.bool b)) (first | exact hS0.out | exact hS2.out _ _ _ _ hS hQ | exact hS1.out _ _ hS) ((first | (go_at_call 19; refine (cT).mono ?_; rintro e W1 ⟨rfl, v', hS⟩) | (go_at_call 37; refine (cR _ ((HTd.out.tstep hS).1) (hBd.out _ _ hS)).mono ?_; rintro e W2 ⟨rfl, u', hQ⟩)))
  have HM : Hid (Mv B w W2 tb rb v u v' u' L2) := (Mv.mk' HTd.out hS (Below.refl _ _) hQ).pre (HB0.out.trans ((Below.refl _ _).drew.mono HB0.out.size))
  clear hS hQ hS0 hS1 hS2 hBd cT cR
  go_wp2
  go_ret
  exact ⟨rfl, _, _, HM.out⟩
set_option maxHeartbeats 8000000 in
theorem do_wr (B tb rb : Nat) (v u : Value) (L : List Mp) (k a p f : Int) (b : Bool) (w : World) (h : Two B w tb rb v u L) (hG : Good L) (hm : MpOk (a, p, f, b)) (hB : B ≤ w.heap.size) (hk : k = 4) :
    Calls Try.prog 23 #[.pointer (some ⟨tb, 0, none⟩), .pointer (some ⟨rb, 0, none⟩), .agg #[.int .i64 k, .int .u8 a, .int .u8 p, .int .u8 f, .bool b]] w fun e w' => e = .returned (.bool true) ∧ ∃ v' u', Mv B w w' tb rb v u v' u' (wrL a p b L) := by
  subst hk
  have hb0 : Below w.heap.size w (w.alloc (.cells #[.int .i64 4, .int .u8 a, .int .u8 p, .int .u8 f, .bool b] 51)) := (Below.refl _ w).alloc (Nat.le_refl _) _
  have HT0 : Hid (Two B (w.alloc (.cells #[.int .i64 4, .int .u8 a, .int .u8 p, .int .u8 f, .bool b] 51)) tb rb v u L) := h.below hb0
  have HB0 : Hid (Below w.heap.size w (w.alloc (.cells #[.int .i64 4, .int .u8 a, .int .u8 p, .int .u8 f, .bool b] 51))) := hb0
  have hbx : Hid ((w.alloc (.cells #[.int .i64 4, .int .u8 a, .int .u8 p, .int .u8 f, .bool b] 51)).heap[w.heap.size]? = some (.cells #[.int .i64 4, .int .u8 a, .int .u8 p, .int .u8 f, .bool b] 51)) := heap_alloc_new w _
  have htl := h.t.lt
  have hrl := h.r.lt
  have Hvo : Hid (∀ g, v.ownBlock = some g → g < w.heap.size) := fun g e => (h.t.row.lt g e).2
  have Huo : Hid (∀ g, u.ownBlock = some g → g < w.heap.size) := fun g e => (h.r.row.lt g e).2
  have hBz : B ≤ (w.alloc (.cells #[.int .i64 4, .int .u8 a, .int .u8 p, .int .u8 f, .bool b] 51)).heap.size := Nat.le_trans hB hb0.size
  have hL := hG.few
  clear h hb0
  have cT := protect_any B tb v L a p b (w.alloc (.cells #[.int .i64 4, .int .u8 a, .int .u8 p, .int .u8 f, .bool b] 51)).drew (HT0.out.t.below (Below.refl _ _).drew) (by omega)
  have cR := fun W (hO : Ob B 57 W rb u L) (hz : B ≤ W.heap.size) => rprotect_any B rb u L a p b W hO (by omega) hz
  generalize wrL a p b L = L2 at *
  generalize fdB a p L = q at *
  have hS0 : Hid ((w.alloc (.cells #[.int .i64 4, .int .u8 a, .int .u8 p, .int .u8 f, .bool b] 51)).drew.cell? ⟨w.heap.size, 1, none⟩ = some (.int .u8 a) ∧ (w.alloc (.cells #[.int .i64 4, .int .u8 a, .int .u8 p, .int .u8 f, .bool b] 51)).drew.cell? ⟨w.heap.size, 2, none⟩ = some (.int .u8 p) ∧ (w.alloc (.cells #[.int .i64 4, .int .u8 a, .int .u8 p, .int .u8 f, .bool b] 51)).drew.cell? ⟨w.heap.size, 3, none⟩ = some (.int .u8 f) ∧ (w.alloc (.cells #[.int .i64 4, .int .u8 a, .int .u8 p, .int .u8 f, .bool b] 51)).drew.cell? ⟨w.heap.size, 4, none⟩ = some (.bool b)) := by
    obtain ⟨_, h1, h2, h3, h4⟩ := b5 (W := (w.alloc (.cells #[.int .i64 4, .int .u8 a, .int .u8 p, .int .u8 f, .bool b] 51)).drew) hbx.out
    exact ⟨h1, h2, h3, h4⟩
  have HTd : Hid (Two B (w.alloc (.cells #[.int .i64 4, .int .u8 a, .int .u8 p, .int .u8 f, .bool b] 51)).drew tb rb v u L) := HT0.out.below (Below.refl _ _).drew
  have hS1 : Hid (∀ W' v', Stp B 55 (w.alloc (.cells #[.int .i64 4, .int .u8 a, .int .u8 p, .int .u8 f, .bool b] 51)).drew W' tb v v' L2 → W'.cell? ⟨w.heap.size, 1, none⟩ = some (.int .u8 a) ∧ W'.cell? ⟨w.heap.size, 2, none⟩ = some (.int .u8 p) ∧ W'.cell? ⟨w.heap.size, 3, none⟩ = some (.int .u8 f) ∧ W'.cell? ⟨w.heap.size, 4, none⟩ = some (.bool b)) := fun W' v' hS => by
    obtain ⟨_, h1, h2, h3, h4⟩ := b5 ((hS.keep HTd.out.t w.heap.size htl Hvo.out w.heap.size (by show w.heap.size < (w.alloc (.cells #[.int .i64 4, .int .u8 a, .int .u8 p, .int .u8 f, .bool b] 51)).heap.size; simp) (Nat.le_refl _)).trans hbx.out)
    exact ⟨h1, h2, h3, h4⟩
  have hS2 : Hid (∀ W1 W2 v' u', Stp B 55 (w.alloc (.cells #[.int .i64 4, .int .u8 a, .int .u8 p, .int .u8 f, .bool b] 51)).drew W1 tb v v' L2 → Stp B 57 W1 W2 rb u u' L2 → W2.cell? ⟨w.heap.size, 1, none⟩ = some (.int .u8 a) ∧ W2.cell? ⟨w.heap.size, 2, none⟩ = some (.int .u8 p) ∧ W2.cell? ⟨w.heap.size, 3, none⟩ = some (.int .u8 f) ∧ W2.cell? ⟨w.heap.size, 4, none⟩ = some (.bool b)) := fun W1 W2 v' u' hS hQ => by
    have hq := (hS.keep HTd.out.t w.heap.size htl Hvo.out w.heap.size (by show w.heap.size < (w.alloc (.cells #[.int .i64 4, .int .u8 a, .int .u8 p, .int .u8 f, .bool b] 51)).heap.size; simp) (Nat.le_refl _)).trans hbx.out
    have hR1 := (HTd.out.tstep hS).1
    obtain ⟨_, h1, h2, h3, h4⟩ := b5 ((hQ.keep hR1 w.heap.size hrl Huo.out w.heap.size (Array.getElem?_eq_some_iff.1 hq).1 (Nat.le_refl _)).trans hq)
    exact ⟨h1, h2, h3, h4⟩
  have hBd : Hid (∀ W1 v', Stp B 55 (w.alloc (.cells #[.int .i64 4, .int .u8 a, .int .u8 p, .int .u8 f, .bool b] 51)).drew W1 tb v v' L2 → B ≤ W1.heap.size) := fun W1 v' hS => Nat.le_trans (show B ≤ (w.alloc (.cells #[.int .i64 4, .int .u8 a, .int .u8 p, .int .u8 f, .bool b] 51)).drew.heap.size from hBz) hS.ap.size
  clear hbx
  go_enter Try.func23, Try.ntmps23
  go_wp2_with fail
  go_region_held3 (fun w' => w'.cell? ⟨w.heap.size, 1, none⟩ = some (.int .u8 a) ∧ w'.cell? ⟨w.heap.size, 2, none⟩ = some (.int .u8 p) ∧ w'.cell? ⟨w.heap.size, 3, none⟩ = some (.int .u8 f) ∧ w'.cell? ⟨w.heap.size, 4, none⟩ = some (.bool b)) (first | exact hS0.out | exact hS2.out _ _ _ _ hS hQ | exact hS1.out _ _ hS) ((first | (go_at_call 38; refine (cT).mono ?_; rintro e W1 ⟨rfl, v', hS⟩) | (go_at_call 39; refine (cR _ ((HTd.out.tstep hS).1) (hBd.out _ _ hS)).mono ?_; rintro e W2 ⟨rfl, u', hQ⟩)))
  have HM : Hid (Mv B w W2 tb rb v u v' u' L2) := (Mv.mk' HTd.out hS (Below.refl _ _) hQ).pre (HB0.out.trans ((Below.refl _ _).drew.mono HB0.out.size))
  clear hS hQ hS0 hS1 hS2 hBd cT cR
  go_wp2
  go_ret
  exact ⟨rfl, _, _, HM.out⟩
set_option maxHeartbeats 8000000 in
theorem do_else (B tb rb : Nat) (v u : Value) (L : List Mp) (k a p f : Int) (b : Bool) (w : World) (h : Two B w tb rb v u L) (hG : Good L) (hm : MpOk (a, p, f, b)) (hB : B ≤ w.heap.size) (h0 : k ≠ 0) (h1 : k ≠ 1) (h2 : k ≠ 2) (h3 : k ≠ 3) (h4 : k ≠ 4) :
    Calls Try.prog 23 #[.pointer (some ⟨tb, 0, none⟩), .pointer (some ⟨rb, 0, none⟩), .agg #[.int .i64 k, .int .u8 a, .int .u8 p, .int .u8 f, .bool b]] w fun e w' => e = .returned (.bool true) ∧ ∃ v' u', Mv B w w' tb rb v u v' u' (L) := by
  have hb0 : Below w.heap.size w (w.alloc (.cells #[.int .i64 k, .int .u8 a, .int .u8 p, .int .u8 f, .bool b] 51)) := (Below.refl _ w).alloc (Nat.le_refl _) _
  have HM : Hid (Mv B w (w.alloc (.cells #[.int .i64 k, .int .u8 a, .int .u8 p, .int .u8 f, .bool b] 51)) tb rb v u v u L) := Mv.same h hb0
  have q0 : (k == 0) = false := by simpa using h0
  have q1 : (k == 1) = false := by simpa using h1
  have q2 : (k == 2) = false := by simpa using h2
  have q3 : (k == 3) = false := by simpa using h3
  have q4 : (k == 4) = false := by simpa using h4
  clear h hb0
  go_enter Try.func23, Try.ntmps23
  go_wp2
  go_ret
  exact ⟨rfl, _, _, HM.out⟩
theorem do_any (B tb rb : Nat) (v u : Value) (L : List Mp) (d : Dd) (w : World) (h : Two B w tb rb v u L) (hG : Good L) (hd : DdOk d) (hB : B ≤ w.heap.size) :
    Calls Try.prog 23 #[.pointer (some ⟨tb, 0, none⟩), .pointer (some ⟨rb, 0, none⟩), ddV d] w fun e w' => e = .returned (.bool true) ∧ ∃ v' u', Mv B w w' tb rb v u v' u' (doL d L) := by
  obtain ⟨k, a, p, f, b⟩ := d
  have hm : MpOk (a, p, f, b) := hd.2.2
  by_cases h0 : k = 0
  · by_cases hr : rngB (a, p, f, b) = true
    · rw [show doL (k, a, p, f, b) L = insL (a, p, f, b) L by unfold doL; rw [if_pos h0, if_pos hr]]
      exact do_ins B tb rb v u L k a p f b w h hG hm hB h0 hr
    · rw [show doL (k, a, p, f, b) L = L by unfold doL; rw [if_pos h0, if_neg hr]]
      exact do_bad B tb rb v u L k a p f b w h hG hm hB h0 (by simpa using hr)
  by_cases h1 : k = 1
  · rw [show doL (k, a, p, f, b) L = L.filter (fun x => !ofB a p x) by unfold doL; rw [if_neg h0, if_pos h1]]
    exact do_drop B tb rb v u L k a p f b w h hG hm hB h1
  by_cases h2 : k = 2
  · rw [show doL (k, a, p, f, b) L = L.filter (fun x => !decide (x.1 = a)) by unfold doL; rw [if_neg h0, if_neg h1, if_pos h2]]
    exact do_asid B tb rb v u L k a p f b w h hG hm hB h2
  by_cases h3 : k = 3
  · rw [show doL (k, a, p, f, b) L = L.filter (fun x => !decide (x.2.2.1 = f)) by unfold doL; rw [if_neg h0, if_neg h1, if_neg h2, if_pos h3]]
    exact do_frame B tb rb v u L k a p f b w h hG hm hB h3
  by_cases h4 : k = 4
  · rw [show doL (k, a, p, f, b) L = wrL a p b L by unfold doL; rw [if_neg h0, if_neg h1, if_neg h2, if_neg h3, if_pos h4]]
    exact do_wr B tb rb v u L k a p f b w h hG hm hB h4
  · rw [show doL (k, a, p, f, b) L = L by unfold doL; rw [if_neg h0, if_neg h1, if_neg h2, if_neg h3, if_neg h4]]
    exact do_else B tb rb v u L k a p f b w h hG hm hB h0 h1 h2 h3 h4
end Go.Proofs.Ytojglefbmfpphaa
