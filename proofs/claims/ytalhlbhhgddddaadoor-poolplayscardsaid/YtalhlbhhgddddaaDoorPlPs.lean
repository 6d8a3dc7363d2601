/- What both pools tell: texts of rows, Guard, Events, SameEvents. -/
import Derived.Test.YtalhlbhhgddddaaDoorLawPlO
import Derived.Laws.BytesArg
import Derived.Laws.StructEq
namespace Go.Proofs.YtalhlbhhgddddaaDoor
open Go.RowKit Go.Maps
set_option linter.unusedVariables false
set_option maxRecDepth 100000
/-- A slice's text, in every world from here on. -/
def Txt (w : World) (v : Value) (S : ByteArray) : Prop := ∀ W, Below w.heap.size w W → (convert 38 9 v).run Tryd.prog W = .ok (.string S) W
theorem Txt.low {w w' : World} {v : Value} {S : ByteArray} (h : Txt w v S) (k : Below w.heap.size w w') : Txt w' v S := fun W hW => h W (k.trans (hW.mono k.size))
theorem NR.txt {w W : World} {u : Value} {L : List Nat} (h : NR w W u L) : Txt W u (strOfNums (L.map fun n : Nat => (n : Int))) := fun W' hW => by
  have h' := own_low h.own hW
  rcases h'.2 with ⟨h1, h2⟩ | ⟨g, cap, cur, h1, _, h3, _, _, _, h5⟩
  · rw [h1, List.eq_nil_of_length_eq_zero h2]
    exact run_convert_bytes_nil W' 38 5 Tryd.underlying38 Tryd.underlying5 0 0 9 Tryd.underlying9
  · rw [h1]
    refine run_convert_bytes_arg W' 38 5 Tryd.underlying38 Tryd.underlying5 g 0 L.length cap (L.map fun n : Nat => (n : Int)) (by rw [List.length_map]) (fun i hi => ?_) 9 Tryd.underlying9
    rw [Nat.zero_add, Lib.cell_of_heap h3]
    have e : (L.map u8V)[i]? = some (.int .u8 (L[i] : Nat)) := by rw [List.getElem?_map, List.getElem?_eq_getElem hi]; rfl
    rw [← h5, List.getElem?_take, if_pos (by omega)] at e
    rw [show cur[i]? = some (.int .u8 (L[i] : Nat)) by simpa using e, List.getD_eq_getElem?_getD, List.getElem?_map, List.getElem?_eq_getElem hi]
    rfl
theorem txt_nil (w : World) : Txt w (.slice none 0 0) (strOfNums []) := fun W _ => run_convert_bytes_nil W 38 5 Tryd.underlying38 Tryd.underlying5 0 0 9 Tryd.underlying9
theorem same8_any (a b : Value) (S : ByteArray) (w : World) (ha : Txt w a S) (hb : Txt w b S) : Calls Tryd.prog 31 #[a, b] w fun r w' => r = .returned (.bool true) ∧ w' = w := by
  have h1 := ha w (Below.refl _ _)
  have h2 := hb w (Below.refl _ _)
  have hSL : (S.toList == S.toList) = true := by simp
  clear ha hb
  go_enter Tryd.func31, Tryd.ntmps31
  go_wp2
  go_ret
  exact ⟨rfl, rfl⟩
set_option maxHeartbeats 1000000 in
theorem rowners_out (B b : Nat) (v : Value) (q : Ps) (f : Nat) (hf255 : f ≤ 255) (hf : 8 ≤ f) (w : World) (h : Rl B w b v q) : Calls Tryd.prog 32 #[.pointer (some ⟨b, 0, none⟩), .int .u8 f] w fun r w' => r = .returned (.slice none 0 0) ∧ w' = w := by
  have cM := may_any b v q 0 f hf255 w h.c
  rw [thE_bad (.inr hf)] at cM
  clear h
  go_enter Tryd.func32, Tryd.ntmps32
  go_wp2_with fail
  go_loopw [5, 6] (fun s5 s6 wr => s5 = .slice none 0 0 ∧ s6 = .int .u8 0 ∧ wr = w) (fun _ _ _ => 0)
  case atStart => exact ⟨rfl, rfl, rfl⟩
  case round =>
    obtain ⟨rfl, rfl, hW⟩ := hrel
    rw [hW]
    go_wp2_with fail
    refine cM.mono ?_
    rintro r W ⟨rfl, hW2⟩
    rw [hW2]
    clear cM hW2 hW
    go_wp2
    go_ret
    exact ⟨rfl, rfl⟩
set_option maxHeartbeats 1000000 in
theorem rframes_out (B b : Nat) (v : Value) (q : Ps) (e : Nat) (he : 6 ≤ e) (w : World) (h : Rl B w b v q) : Calls Tryd.prog 33 #[.pointer (some ⟨b, 0, none⟩), .int .u8 e] w fun r w' => r = .returned (.slice none 0 0) ∧ w' = w := by
  have cM := may_any b v q e 0 (by omega) w h.c
  rw [thE_bad (.inl he)] at cM
  clear h
  go_enter Tryd.func33, Tryd.ntmps33
  go_wp2_with fail
  go_loopw [5, 6] (fun s5 s6 wr => s5 = .slice none 0 0 ∧ s6 = .int .u8 0 ∧ wr = w) (fun _ _ _ => 0)
  case atStart => exact ⟨rfl, rfl, rfl⟩
  case round =>
    obtain ⟨rfl, rfl, hW⟩ := hrel
    rw [hW]
    go_wp2_with fail
    refine cM.mono ?_
    rintro r W ⟨rfl, hW2⟩
    rw [hW2]
    clear cM hW2 hW
    go_wp2
    go_ret
    exact ⟨rfl, rfl⟩
/-- The document's Owners, Frames, Room as texts. -/
theorem rowners_t (B b : Nat) (v : Value) (q : Ps) (f : Nat) (hf255 : f ≤ 255) (w : World) (h : Rl B w b v q) : Calls Tryd.prog 32 #[.pointer (some ⟨b, 0, none⟩), .int .u8 f] w fun r w' => ∃ a cap, r = .returned (.slice a (bitsL (oF 8 q f)).length cap) ∧ Txt w' (.slice a (bitsL (oF 8 q f)).length cap) (strOfNums ((bitsL (oF 8 q f)).map fun n : Nat => (n : Int))) ∧ Below w.heap.size w w' := by
  by_cases hf : f < 8
  · rw [oF_at 8 q f hf]
    refine (rowners_in B b v q f w h hf).mono ?_
    rintro r W ⟨u, rfl, hN⟩
    rw [bits6 _ (h.o f hf)] at hN
    obtain ⟨a, cap, hu⟩ := slice_of hN.own
    subst hu
    exact ⟨a, cap, rfl, hN.txt, hN.bl⟩
  · have ho : oF 8 q f = 0 := by unfold oF; rw [if_neg hf]
    rw [ho, bitsL_zero]
    refine (rowners_out B b v q f hf255 (by omega) w h).mono ?_
    rintro r W ⟨rfl, rfl⟩
    exact ⟨none, 0, rfl, txt_nil _, Below.refl _ _⟩
theorem rframes_t (B b : Nat) (v : Value) (q : Ps) (e : Nat) (w : World) (h : Rl B w b v q) : Calls Tryd.prog 33 #[.pointer (some ⟨b, 0, none⟩), .int .u8 e] w fun r w' => ∃ a cap, r = .returned (.slice a (bitsL (heldN q.O e 8)).length cap) ∧ Txt w' (.slice a (bitsL (heldN q.O e 8)).length cap) (strOfNums ((bitsL (heldN q.O e 8)).map fun n : Nat => (n : Int))) ∧ Below w.heap.size w w' := by
  by_cases he : e < 6
  · refine (rframes_in B b v q e w h he).mono ?_
    rintro r W ⟨u, rfl, hN⟩
    rw [heldN_filter] at hN
    obtain ⟨a, cap, hu⟩ := slice_of hN.own
    subst hu
    exact ⟨a, cap, rfl, hN.txt, hN.bl⟩
  · have ho : heldN q.O e 8 = 0 := by
      apply Nat.eq_of_testBit_eq
      intro i
      rw [heldN_bit, Nat.zero_testBit]
      by_cases hi : i < 8
      · rw [bit_hi _ e (h.o i hi) (by omega), Bool.and_false]
      · rw [decide_eq_false hi, Bool.false_and]
    rw [ho, bitsL_zero]
    refine (rframes_out B b v q e (by omega) w h).mono ?_
    rintro r W ⟨rfl, rfl⟩
    exact ⟨none, 0, rfl, txt_nil _, Below.refl _ _⟩
theorem nr_t {w w' : World} {L : List Nat} {u : Value} (h : NR w w' u L) : ∃ a cap, u = .slice a L.length cap ∧ Txt w' (.slice a L.length cap) (strOfNums (L.map fun n : Nat => (n : Int))) ∧ Below w.heap.size w w' := by
  obtain ⟨a, cap, hu⟩ := slice_of h.own
  subst hu
  exact ⟨a, cap, rfl, h.txt, h.bl⟩
set_option maxHeartbeats 2000000 in
theorem rguard_any (B b : Nat) (v : Value) (q : Ps) (f : Nat) (hf255 : f ≤ 255) (w : World) (h : Rl B w b v q) : Calls Tryd.prog 30 #[.pointer (some ⟨b, 0, none⟩), .int .u8 f] w fun r w' => r = .returned (.tuple #[.agg #[.string (gdC 8 q f).1, .int .u8 (gdC 8 q f).2], .bool (decide (oF 8 q f ≠ 0))]) ∧ Below w.heap.size w w' := by
  have hX := below_new w (.cells #[.string ⟨#[]⟩, .int .u8 0] 43)
  have hcx := heap_alloc_new w (.cells #[.string ⟨#[]⟩, .int .u8 0] 43)
  have HX := Hid3.mk hX
  have c1 := rowners_t B b v q f hf255 _ (h.low hX)
  have ho64 : oF 8 q f < 64 := by
    unfold oF
    split
    · exact h.o f (by assumption)
    · omega
  have hoz := own_zero _ ho64
  have H := Hid3.mk h
  have HCX := Hid3.mk hcx
  have h9 := own_few (oF 8 q f) (by omega)
  clear h hX hcx
  by_cases hO : oF 8 q f = 0
  · have hl := hoz.2 hO
    have hg : gdC 8 q f = (.empty, 0) := by unfold gdC; rw [if_pos hO]
    rw [hg, decide_eq_false (fun x => x hO)]
    rw [hl] at c1
    go_enter Tryd.func30, Tryd.ntmps30
    go_wp2_with fail
    refine c1.mono ?_
    rintro r W ⟨a, cap, rfl, _, hb⟩
    have HB := Hid3.mk (HX.out.trans (hb.mono HX.out.size))
    have hc2 := (hb.block w.heap.size (by simp)).trans HCX.out
    have hl2 := (Array.getElem?_eq_some_iff.1 hc2).1
    have hT : Two W w.heap.size 43 (.string ⟨#[]⟩) (.int .u8 0) := hc2
    have HTT := Hid3.mk hT
    have x0 := hT.c0
    have f0 := hT.f 0
    have x1 := (hT.set0 (.string ⟨#[]⟩)).c1
    have f1 := (hT.set0 (.string ⟨#[]⟩)).f 1
    clear c1 hb hc2 hT
    go_wp2
    have hT2 := (HTT.out.set0 (.string ⟨#[]⟩)).set1 (.int .u8 0)
    exact bodyPost_ret (v := .tuple #[.agg #[.string ⟨#[]⟩, .int .u8 0], .bool false]) (by simp [results, Tryd.results30, go_sem, hT2.c0, hT2.c1]) rfl ⟨rfl, Below.set2 HB.out (by omega) _ _⟩
  · have hf8 : f < 8 := by
      unfold oF at hO
      by_cases hh : f < 8
      · exact hh
      · rw [if_neg hh] at hO; exact (hO rfl).elim
    have hl : ((bitsL (oF 8 q f)).length : Int) ≠ 0 := by
      have : ¬ (bitsL (oF 8 q f)).length = 0 := fun x => hO (hoz.1 x)
      omega
    have hl2 : (((bitsL (oF 8 q f)).length : Int) == 0) = false := by simpa using hl
    have hg : gdC 8 q f = q.G f := by unfold gdC; rw [if_neg hO]
    have hfz : (f : Int) < 64 := by omega
    rw [hg, decide_eq_true hO]
    generalize (bitsL (oF 8 q f)).length = ol at *
    go_enter Tryd.func30, Tryd.ntmps30
    go_wp2_with fail
    refine c1.mono ?_
    rintro r W ⟨a, cap, rfl, _, hb⟩
    have HB := Hid3.mk (HX.out.trans (hb.mono HX.out.size))
    have hc2 := (hb.block w.heap.size (by simp)).trans HCX.out
    have hl2 := (Array.getElem?_eq_some_iff.1 hc2).1
    have hT : Two W w.heap.size 43 (.string ⟨#[]⟩) (.int .u8 0) := hc2
    have HTT := Hid3.mk hT
    have x0 := hT.c0
    have f0 := hT.f 0
    have x1 := (hT.set0 (.string (q.G f).1)).c1
    have f1 := (hT.set0 (.string (q.G f).1)).f 1
    have hR := (H.out.low HB.out).c
    have g0 := (hR.cg f hf8).1
    have g1 := (hR.cg f hf8).2
    have hrb := hR.l
    clear c1 hb hc2 hR hT
    go_wp2
    have hT2 := (HTT.out.set0 (.string (q.G f).1)).set1 (.int .u8 (q.G f).2)
    exact bodyPost_ret (v := .tuple #[.agg #[.string (q.G f).1, .int .u8 (q.G f).2], .bool true]) (by simp [results, Tryd.results30, go_sem, hT2.c0, hT2.c1]) rfl ⟨rfl, Below.set2 HB.out (by omega) _ _⟩
set_option maxHeartbeats 2000000 in
theorem revents_any (B b : Nat) (v : Value) (q : Ps) (w : World) (h : Rl B w b v q) (hl : q.E.length ≤ 1000) : Calls Tryd.prog 37 #[.pointer (some ⟨b, 0, none⟩)] w fun r w' => ∃ v', r = .returned v' ∧ w'.ownsRow w.heap.size 36 3 v' q.E.length (evCs q.E) ∧ Below w.heap.size w w' := by
  obtain ⟨i0, hi, hz0, hz1, hz2⟩ := info_parts1 infoE
  have cv := h.c.cv
  have hb := h.c.l
  have hX := below_new w (.cells #[] 36)
  have hown : (w.alloc (.cells #[] 36)).ownsRow w.heap.size 36 3 (.slice (some ⟨w.heap.size, 0, none⟩) 0 0) 0 [] := World.ownsRow_made w #[] 0 (Nat.le_refl _) (by unfold maxLen; omega) rfl
  have HX := Hid3.mk hX
  rcases h.ev with ⟨hv, hE⟩ | ⟨g, cap, hv, h2, h3, h4⟩
  · subst hv
    have HE := Hid3.mk hE
    have HOW := Hid3.mk hown
    clear h hX hE hl
    go_enter Tryd.func37, Tryd.ntmps37
    go_wp2_with (at_builtin; refine wpList_append_own_none rfl _ _ 32 rfl w.heap.size 36 i0 3 Tryd.underlying32 hi (.slice (some ⟨w.heap.size, 0, none⟩) 0 0) 0 [] rfl hown rfl ?_)
    go_ret
    refine ⟨_, rfl, ?_, HX.out⟩
    rw [HE.out]
    exact HOW.out
  · subst hv
    have hnx := ev_at h2 h4 hX
    have hlen := evCs_len q.E
    have hone := evCs_one q.E
    clear h hX h4
    generalize evCs q.E = XS at *
    generalize q.E.length = N at *
    go_enter Tryd.func37, Tryd.ntmps37
    go_wp2_with (at_builtin; refine wpList_append_own_at _ rfl _ _ 32 rfl w.heap.size 36 i0 (.agg #[.int .u8 0, .int .u8 0, .int .u8 0]) 3 3 Tryd.underlying32 hi hz0 hz1 hz2 rfl (by decide) (.slice (some ⟨w.heap.size, 0, none⟩) 0 0) 0 [] rfl hown ⟨g, 0, none⟩ N cap XS rfl hlen hnx hone (by unfold maxLen; omega) (by omega) (by simp) ?_; intro v1 W1 hown1 hgrow1 _ hat1; have HB1 := Hid3.mk (HX.out.grown hgrow1 HX.out.size (fun j ej => by have e' : w.heap.size = j := Option.some.inj ej; omega)); rw [Nat.zero_add, List.nil_append] at hown1; have HO1 := Hid3.mk hown1; clear hgrow1 hat1 hown hnx cv hown1)
    go_ret
    exact ⟨_, rfl, HO1.out, HB1.out⟩
theorem eqGuardE : Tryd.prog.eqGuardType Tryd.prog.depth 36 = false := by kernel_rfl
theorem eqGuardC : Tryd.prog.eqGuardType Tryd.prog.depth 43 = false := by kernel_rfl
set_option maxHeartbeats 2000000 in
theorem eqE (w : World) (a b c : Int) : (Op.equalIn 10000 36 (.agg #[.int .u8 a, .int .u8 b, .int .u8 c]) (.agg #[.int .u8 a, .int .u8 b, .int .u8 c])).run Tryd.prog w = .ok true w := by
  show (Op.equalIn (9998 + 1 + 1) 36 _ _).run Tryd.prog w = _
  rw [Op.equalIn]
  simp only [Sem.run_bind, run_underlying Tryd.underlying36, Result.andThen_ok]
  simp [go_sem]
set_option maxHeartbeats 2000000 in
theorem eqC (w : World) (s : ByteArray) (b : Int) : (Op.equalIn 10000 43 (.agg #[.string s, .int .u8 b]) (.agg #[.string s, .int .u8 b])).run Tryd.prog w = .ok true w := by
  show (Op.equalIn (9998 + 1 + 1) 43 _ _).run Tryd.prog w = _
  rw [Op.equalIn]
  simp only [Sem.run_bind, run_underlying Tryd.underlying43, Result.andThen_ok]
  simp [go_sem]
theorem evs_nth : ∀ (L : List Ev) (j : Nat) (x : Ev), L[j]? = some x → ∀ d, d < 3 → (evCs L)[j * 3 + d]? = (evC x)[d]?
  | [], j, x, hx, _, _ => by simp at hx
  | y :: L, 0, x, hx, d, hd => by
    have e : y = x := by simpa using hx
    subst e
    show (evC y ++ evCs L)[0 * 3 + d]? = _
    rw [Nat.zero_mul, Nat.zero_add, List.getElem?_append_left (by simpa [evC] using hd)]
  | y :: L, j + 1, x, hx, d, hd => by
    have ih := evs_nth L j x (by simpa using hx) d hd
    show (evC y ++ evCs L)[(j + 1) * 3 + d]? = _
    rw [List.getElem?_append_right (by simp [evC]; omega), show (j + 1) * 3 + d - (evC y).length = j * 3 + d by simp [evC]; omega]
    exact ih
theorem evs_cells {W : World} {B : Nat} {u : Value} {L : List Ev} (h : W.ownsRow B 36 3 u L.length (evCs L)) : ∃ a cap, u = .slice a L.length cap ∧ ∀ (i : Nat) (x : Ev), L[i]? = some x → ∃ g, a = some ⟨g, 0, none⟩ ∧ W.cell? ⟨g, i * 3, none⟩ = some (.int .u8 x.1) ∧ W.cell? ⟨g, i * 3 + 1, none⟩ = some (.int .u8 x.2.1) ∧ W.cell? ⟨g, i * 3 + 2, none⟩ = some (.int .u8 x.2.2) := by
  rcases h.2 with ⟨h1, h2⟩ | ⟨g, cap, cur, h1, _, h3, _, _, _, h5⟩
  · refine ⟨none, 0, by rw [h1, h2], fun j x hx => ?_⟩
    rw [List.eq_nil_of_length_eq_zero h2] at hx
    cases hx
  · refine ⟨_, cap, h1, fun j x hx => ⟨g, rfl, ?_⟩⟩
    have hj : j < L.length := (List.getElem?_eq_some_iff.1 hx).1
    have key : ∀ d, d < 3 → cur[j * 3 + d]? = (evC x)[d]? := fun d hd => by
      have e1 := evs_nth L j x hx d hd
      rw [← h5, List.getElem?_take, if_pos (by omega)] at e1
      simpa using e1
    rw [Lib.cell_of_heap h3, Lib.cell_of_heap h3, Lib.cell_of_heap h3]
    exact ⟨(key 0 (by decide)).trans rfl, (key 1 (by decide)).trans rfl, (key 2 (by decide)).trans rfl⟩
set_option maxHeartbeats 4000000 in
theorem sameev_any (B B' : Nat) (u t : Value) (L : List Ev) (hL : L.length ≤ 1000) (w : World) (hu : w.ownsRow B 36 3 u L.length (evCs L)) (ht : w.ownsRow B' 36 3 t L.length (evCs L)) : Calls Tryd.prog 36 #[u, t] w fun r w' => r = .returned (.bool true) ∧ Below w.heap.size w w' := by
  obtain ⟨a, cap, rfl, hc1⟩ := evs_cells hu
  obtain ⟨a2, cap2, rfl, hc2⟩ := evs_cells ht
  have HC1 := Hid3.mk hc1
  have HC2 := Hid3.mk hc2
  have eG := eqGuardE
  have hLL : ((L.length : Int) != (L.length : Int)) = false := by simp
  clear hu ht hc1 hc2
  go_enter Tryd.func36, Tryd.ntmps36
  go_wp2_with fail
  go_loopw [5] (fun s5 wr => ∃ i : Nat, i ≤ L.length ∧ s5 = .int .i64 i ∧ Hid3 (Below w.heap.size w wr)) (fun s _ => L.length - (intOf s).toNat)
  case atStart => exact ⟨0, Nat.zero_le _, rfl, ⟨Below.refl _ _⟩⟩
  case round =>
    obtain ⟨i, hi, rfl, HB⟩ := hrel
    by_cases hlt : i < L.length
    · have hltz : (i : Int) < (L.length : Int) := by omega
      obtain ⟨g, hg, x0, x1, x2⟩ := HC1.out i L[i] (List.getElem?_eq_getElem hlt)
      obtain ⟨g2, hg2, y0, y1, y2⟩ := HC2.out i L[i] (List.getElem?_eq_getElem hlt)
      subst hg
      subst hg2
      have hgl := World.block_lt_of_cell? _ _ x0
      have hgl2 := World.block_lt_of_cell? _ _ y0
      simp only at hgl hgl2
      have z0 := (HB.out.cell (p := ⟨g, i * 3, none⟩) hgl).trans x0
      have z1 := (HB.out.cell (p := ⟨g, i * 3 + 1, none⟩) hgl).trans x1
      have z2 := (HB.out.cell (p := ⟨g, i * 3 + 2, none⟩) hgl).trans x2
      have v0 := (HB.out.cell (p := ⟨g2, i * 3, none⟩) hgl2).trans y0
      have v1 := (HB.out.cell (p := ⟨g2, i * 3 + 1, none⟩) hgl2).trans y1
      have v2 := (HB.out.cell (p := ⟨g2, i * 3 + 2, none⟩) hgl2).trans y2
      have hs := HB.out.size
      have hgw : g < wr.heap.size := by omega
      have hgw2 : g2 < wr.heap.size := by omega
      have HBd := Hid3.mk (below_drew HB.out)
      clear x0 x1 x2 y0 y1 y2
      generalize L[i] = x at *
      obtain ⟨k0, k1, k2⟩ := x
      simp only at z0 z1 z2 v0 v1 v2
      have eM := fun W => eqE W k0 k1 k2
      go_wp2_with fail
      go_region
      go_wp2
      go_roundw
      case rel => exact ⟨i + 1, by omega, by go_num, HBd⟩
      case measure => simp [intOf]; omega
    · obtain rfl : i = L.length := by omega
      have hltz : ¬ (L.length : Int) < (L.length : Int) := by omega
      go_wp2
      go_ret
      exact ⟨rfl, HB.out⟩
end Go.Proofs.YtalhlbhhgddddaaDoor
