/- Two memories side by side, the program's and the document's; a deed on both. -/
import Derived.Test.YtajljppmkcjoiaaMemV
namespace Go.Proofs.Ytajljppmkcjoiaa
open Go.RowKit Go.Maps
set_option linter.unusedVariables false
set_option maxRecDepth 100000
set_option maxHeartbeats 8000000 in
theorem do_sb (B b rb g N : Nat) (k f o x : Int) (v : Value) (bs L : List Int) (w : World) (h : Both B w b rb g N L) (hB : B ≤ w.heap.size) (hx : 0 ≤ x ∧ x ≤ 65535) (hv : Byts B w v bs) (hs : bs.length ≤ 9223372036854775807) (hk : k = 1) :
    Calls Try.prog 27 #[.pointer (some ⟨b, 0, none⟩), .pointer (some ⟨rb, 0, none⟩), .agg #[.int .i64 k, .int .i64 f, .int .i64 o, .int .u16 x, v]] w fun e w' => e = .returned (.bool true) ∧ Both B w' b rb g N (sbL N L f o (x % 256)) ∧ OnlyT b g w w' := by
  subst hk
  have hy2 := doL_bytes (N := N) (k := 1) (f := f) (o := o) (bs := bs) h.by_ hx (by obtain ⟨_, _, _, _, e, _⟩ := hv; exact e)
  rw [show doL N 1 f o x bs L = sbL N L f o (x % 256) from rfl] at hy2
  obtain ⟨y, hy⟩ : ∃ y, y = x % 256 := ⟨_, rfl⟩
  have hy0 : 0 ≤ y ∧ y ≤ 255 := by omega
  have hy1 : x.tmod 256 = y := by rw [Int.tmod_eq_emod_of_nonneg hx.1]; exact hy.symm
  have hw : IntKind.u8.wrap y = y := by simp only [IntKind.wrap, IntKind.signed, IntKind.bits]; simp; omega
  have eL : sbL N L f o (x % 256) = sbL N L f o (IntKind.u8.wrap y) := by rw [hw, hy]
  rw [eL] at hy2 ⊢
  clear hy hw eL
  have hb0 : Below w.heap.size w (w.alloc (.cells #[.int .i64 1, .int .i64 f, .int .i64 o, .int .u16 x, v] 41)) := (Below.refl _ w).alloc (Nat.le_refl _) _
  have hb1 : Below w.heap.size w (w.alloc (.cells #[.int .i64 1, .int .i64 f, .int .i64 o, .int .u16 x, v] 41)).drew := hb0.drew
  have HT0 : Hid3 (Both B (w.alloc (.cells #[.int .i64 1, .int .i64 f, .int .i64 o, .int .u16 x, v] 41)).drew b rb g N L) := ⟨h.below hb1⟩
  have HB0 : Hid3 (Below w.heap.size w (w.alloc (.cells #[.int .i64 1, .int .i64 f, .int .i64 o, .int .u16 x, v] 41)).drew) := ⟨hb1⟩
  have hbx : (w.alloc (.cells #[.int .i64 1, .int .i64 f, .int .i64 o, .int .u16 x, v] 41)).drew.heap[w.heap.size]? = some (.cells #[.int .i64 1, .int .i64 f, .int .i64 o, .int .u16 x, v] 41) := heap_alloc_last w _
  have hbl := h.p.lt
  have hgl := h.r.ltg
  have hbx' : Hid3 ((w.alloc (.cells #[.int .i64 1, .int .i64 f, .int .i64 o, .int .u16 x, v] 41)).drew.heap[w.heap.size]? = some (.cells #[.int .i64 1, .int .i64 f, .int .i64 o, .int .u16 x, v] 41)) := ⟨hbx⟩
  have hS0 : Hid3 ((w.alloc (.cells #[.int .i64 1, .int .i64 f, .int .i64 o, .int .u16 x, v] 41)).drew.cell? ⟨w.heap.size, 1, none⟩ = some (.int .i64 f) ∧ (w.alloc (.cells #[.int .i64 1, .int .i64 f, .int .i64 o, .int .u16 x, v] 41)).drew.cell? ⟨w.heap.size, 2, none⟩ = some (.int .i64 o) ∧ (w.alloc (.cells #[.int .i64 1, .int .i64 f, .int .i64 o, .int .u16 x, v] 41)).drew.cell? ⟨w.heap.size, 3, none⟩ = some (.int .u16 x) ∧ (w.alloc (.cells #[.int .i64 1, .int .i64 f, .int .i64 o, .int .u16 x, v] 41)).drew.cell? ⟨w.heap.size, 4, none⟩ = some (v)) := ⟨(b5m hbx).2⟩
  have hK1 : Hid3 (∀ W1, Only b (w.alloc (.cells #[.int .i64 1, .int .i64 f, .int .i64 o, .int .u16 x, v] 41)).drew W1 → W1.heap[w.heap.size]? = some (.cells #[.int .i64 1, .int .i64 f, .int .i64 o, .int .u16 x, v] 41)) := ⟨fun W1 o => (o.block w.heap.size (Array.getElem?_eq_some_iff.1 hbx).1 (by omega)).trans hbx⟩
  have hS1 : Hid3 (∀ W1, Only b (w.alloc (.cells #[.int .i64 1, .int .i64 f, .int .i64 o, .int .u16 x, v] 41)).drew W1 → W1.cell? ⟨w.heap.size, 1, none⟩ = some (.int .i64 f) ∧ W1.cell? ⟨w.heap.size, 2, none⟩ = some (.int .i64 o) ∧ W1.cell? ⟨w.heap.size, 3, none⟩ = some (.int .u16 x) ∧ W1.cell? ⟨w.heap.size, 4, none⟩ = some (v)) := ⟨fun W1 o => (b5m (hK1.out W1 o)).2⟩
  have hS2 : Hid3 (∀ W1 W2, Only b (w.alloc (.cells #[.int .i64 1, .int .i64 f, .int .i64 o, .int .u16 x, v] 41)).drew W1 → Only g W1 W2 → W2.cell? ⟨w.heap.size, 1, none⟩ = some (.int .i64 f) ∧ W2.cell? ⟨w.heap.size, 2, none⟩ = some (.int .i64 o) ∧ W2.cell? ⟨w.heap.size, 3, none⟩ = some (.int .u16 x) ∧ W2.cell? ⟨w.heap.size, 4, none⟩ = some (v)) := ⟨fun W1 W2 o1 o2 => (b5m ((o2.block w.heap.size (Array.getElem?_eq_some_iff.1 (hK1.out W1 o1)).1 (by omega)).trans (hK1.out W1 o1))).2⟩
  have hRd : Hid3 (∀ W1, Only b (w.alloc (.cells #[.int .i64 1, .int .i64 f, .int .i64 o, .int .u16 x, v] 41)).drew W1 → RMem W1 rb g (32 * N) L) := ⟨fun W1 o => HT0.out.r.only o (Ne.symm h.d1) (Ne.symm h.d2)⟩
  have cT := setbyte_any b N f o (IntKind.u8.wrap y) L (w.alloc (.cells #[.int .i64 1, .int .i64 f, .int .i64 o, .int .u16 x, v] 41)).drew HT0.out.p
  have cR := fun W1 (o1 : Only b (w.alloc (.cells #[.int .i64 1, .int .i64 f, .int .i64 o, .int .u16 x, v] 41)).drew W1) => rsetbyte_any rb g (32 * N) N f o (IntKind.u8.wrap y) L W1 (hRd.out W1 o1) rfl
  have HF : Hid3 (∀ W1 W2, Mem W1 b N (sbL N L f o (IntKind.u8.wrap y)) → Only b (w.alloc (.cells #[.int .i64 1, .int .i64 f, .int .i64 o, .int .u16 x, v] 41)).drew W1 → RMem W2 rb g (32 * N) (sbL N L f o (IntKind.u8.wrap y)) → Only g W1 W2 → Both B W2 b rb g N (sbL N L f o (IntKind.u8.wrap y)) ∧ OnlyT b g w W2) := ⟨fun W1 W2 m1 o1 m2 o2 => by
    obtain ⟨q1, q2⟩ := HT0.out.mk' m1 o1 m2 o2 hy2
    exact ⟨q1, (OnlyT.of_below hb1).trans q2⟩⟩
  generalize sbL N L f o (IntKind.u8.wrap y) = L2 at *
  generalize inE N f o 1 = q at *
  clear hbx hb0 hb1 h hy2 hv hbx' hK1
  go_enter Try.func27, Try.ntmps27
  go_wp2_with fail
  go_region_held3 (fun w' => w'.cell? ⟨w.heap.size, 1, none⟩ = some (.int .i64 f) ∧ w'.cell? ⟨w.heap.size, 2, none⟩ = some (.int .i64 o) ∧ w'.cell? ⟨w.heap.size, 3, none⟩ = some (.int .u16 x) ∧ w'.cell? ⟨w.heap.size, 4, none⟩ = some (v)) (first | exact hS0.out | exact hS2.out _ _ hO1 hO2 | exact hS1.out _ hO1) ((first | (go_at_call 42; refine (cT).mono ?_; rintro e W1 ⟨rfl, hM1, hO1⟩) | (go_at_call 43; refine (cR _ hO1).mono ?_; rintro e W2 ⟨rfl, hM2, hO2⟩)))
  have HM := HF.out _ _ hM1 hO1 hM2 hO2
  clear hM1 hM2 hO1 hO2 hS0 hS1 hS2 cT cR HF hRd
  go_wp2
  go_ret
  exact ⟨rfl, HM⟩
theorem do_any (B b rb g N : Nat) (k f o x : Int) (v : Value) (bs L : List Int) (w : World) (h : Both B w b rb g N L) (hB : B ≤ w.heap.size) (hx : 0 ≤ x ∧ x ≤ 65535) (hv : Byts B w v bs) (hs : bs.length ≤ 9223372036854775807) :
    Calls Try.prog 27 #[.pointer (some ⟨b, 0, none⟩), .pointer (some ⟨rb, 0, none⟩), .agg #[.int .i64 k, .int .i64 f, .int .i64 o, .int .u16 x, v]] w fun e w' => e = .returned (.bool true) ∧ Both B w' b rb g N (doL N k f o x bs L) ∧ OnlyT b g w w' := by
  by_cases h0 : k = 0
  · rw [show doL N k f o x bs L = swL N L f o x by unfold doL; rw [if_pos h0]]
    exact do_sw B b rb g N k f o x v bs L w h hB hx hv hs h0
  by_cases h1 : k = 1
  · rw [show doL N k f o x bs L = sbL N L f o (x % 256) by unfold doL; rw [if_neg h0, if_pos h1]]
    exact do_sb B b rb g N k f o x v bs L w h hB hx hv hs h1
  by_cases h2 : k = 2
  · rw [show doL N k f o x bs L = zrL N L f by unfold doL; rw [if_neg h0, if_neg h1, if_pos h2]]
    exact do_zr B b rb g N k f o x v bs L w h hB hx hv hs h2
  by_cases h3 : k = 3
  · rw [show doL N k f o x bs L = cpL N L f o by unfold doL; rw [if_neg h0, if_neg h1, if_neg h2, if_pos h3]]
    exact do_cp B b rb g N k f o x v bs L w h hB hx hv hs h3
  by_cases h4 : k = 4
  · rw [show doL N k f o x bs L = flL N L f o (bs.take 200) by unfold doL; rw [if_neg h0, if_neg h1, if_neg h2, if_neg h3, if_pos h4]]
    exact do_fl B b rb g N k f o x v bs L w h hB hx hv hs h4
  · rw [show doL N k f o x bs L = L by unfold doL; rw [if_neg h0, if_neg h1, if_neg h2, if_neg h3, if_neg h4]]
    exact do_else B b rb g N k f o x v bs L w h hB hx hv hs h0 h1 h2 h3 h4
end Go.Proofs.Ytajljppmkcjoiaa
