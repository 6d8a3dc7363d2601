/- The document's table: one is another one; one is no more; one more. The document's table: one is no more. -/
import Derived.Test.YtmepnnlmhlndmaaDoorEzE
namespace Go.Proofs.YtmepnnlmhlndmaaDoor
open Go.RowKit Go.Maps
set_option linter.unusedVariables false
set_option maxRecDepth 100000
/-- The row is another one. -/
theorem RStp.put {B : Nat} {w V : World} {b : Nat} {s s' : Xt} {va v : Value} (h : Rt B w b s) (ap : Apart (fun k => k = b) w V) (hc : Cl V b 88 [.int .i64 s'.N, v, .int .u32 s'.last]) (hx : XR V va s'.l) (ok : s'.Ok) : RStp B w (V.setCell ⟨b, 1, none⟩ va) b s' :=
  ⟨⟨h.g, ⟨va, hc.set 1 va, hx.stay (Apart.at (X := fun k => k = b) V b 1 va rfl) (xr_ne hc)⟩, ok⟩, ap.trans (Apart.at (X := fun k => k = b) V b 1 va rfl)⟩
theorem exs_set {c : List Value} {L : List Ex} {K : Nat} {x : Ex} (hK : K < L.length) (h : ∀ (j : Nat) (u : Value), (exsC L)[j]? = some u → c[j]? = some u) : ∀ (j : Nat) (u : Value), (exsC (L.set K x))[j]? = some u →
    ((((((c.set (K * 6) (.int .u32 x.id)).set (K * 6 + 1) (.int .i64 x.st)).set (K * 6 + 2) (.int .i64 x.ln)).set (K * 6 + 3) (.int .u8 x.ow)).set (K * 6 + 4) (.string x.nm)).set (K * 6 + 5) (.int .u8 x.rt.toNat))[j]? = some u := by
  intro j u hu
  have hc : K * 6 + 5 < c.length := by
    have h1 := exsC_at L K L[K] (List.getElem?_eq_getElem hK) 5 (by omega)
    have h2 := h (K * 6 + 5) _ (h1.trans rfl)
    exact (List.getElem?_eq_some_iff.1 h2).1
  have hjl : j < (exsC (L.set K x)).length := (List.getElem?_eq_some_iff.1 hu).1
  rw [exsC_len, List.length_set] at hjl
  obtain ⟨m, i, hi, rfl⟩ : ∃ m i, i < 6 ∧ j = m * 6 + i := ⟨j / 6, j % 6, Nat.mod_lt _ (by omega), by omega⟩
  have hm : m < L.length := by omega
  by_cases e : m = K
  · subst e
    have h1 := exsC_at (L.set m x) m x (by rw [List.getElem?_set_self hm]) i hi
    rw [h1] at hu
    match i, hi with
    | 0, _ => rw [← hu]; simp [exCs, List.getElem?_set]; omega
    | 1, _ => rw [← hu]; simp [exCs, List.getElem?_set]; omega
    | 2, _ => rw [← hu]; simp [exCs, List.getElem?_set]; omega
    | 3, _ => rw [← hu]; simp [exCs, List.getElem?_set]; omega
    | 4, _ => rw [← hu]; simp [exCs, List.getElem?_set]; omega
    | 5, _ => rw [← hu]; simp [exCs, List.getElem?_set]; omega
  · have h1 := exsC_at (L.set K x) m L[m] (by rw [List.getElem?_set_ne (fun e2 => e e2.symm)]; exact List.getElem?_eq_getElem hm) i hi
    have h2 := exsC_at L m L[m] (List.getElem?_eq_getElem hm) i hi
    rw [h1, ← h2] at hu
    rw [List.getElem?_set_ne (by omega), List.getElem?_set_ne (by omega), List.getElem?_set_ne (by omega), List.getElem?_set_ne (by omega), List.getElem?_set_ne (by omega), List.getElem?_set_ne (by omega)]
    exact h _ _ hu
theorem Apart.fillA {X : Nat → Prop} {W V : World} {i j : Nat} {a0 a1 a2 a3 a4 a5 : Value} (h : Apart X W V) (hx : ∀ k, k < W.heap.size → k = i → X k) :
    Apart X W ((((((V.setCell ⟨i, j, none⟩ a0).setCell ⟨i, j + 1, none⟩ a1).setCell ⟨i, j + 2, none⟩ a2).setCell ⟨i, j + 3, none⟩ a3).setCell ⟨i, j + 4, none⟩ a4).setCell ⟨i, j + 5, none⟩ a5) := by
  have e : ∀ (V : World) (q : Nat) (a : Value), Apart X W V → Apart X W (V.setCell ⟨i, q, none⟩ a) := fun V q a h => ⟨h.os, h.tape, h.output, by rw [size_setCell]; exact h.size, fun k hk hn => (Below.heap_setCell V ⟨i, q, none⟩ a k (fun e => hn (hx k hk e))).trans (h.block k hk hn)⟩
  exact e _ _ _ (e _ _ _ (e _ _ _ (e _ _ _ (e _ _ _ (e _ _ _ h)))))
/-- One of a row's is another one. -/
theorem XR.fill {V : World} {g n cap K : Nat} {L : List Ex} {x : Ex} (h : XR V (.slice (some ⟨g, 0, none⟩) n cap) L) (hn : n = L.length) (hK : K < L.length) :
    XR ((((((V.setCell ⟨g, K * 6, none⟩ (.int .u32 x.id)).setCell ⟨g, K * 6 + 1, none⟩ (.int .i64 x.st)).setCell ⟨g, K * 6 + 2, none⟩ (.int .i64 x.ln)).setCell ⟨g, K * 6 + 3, none⟩ (.int .u8 x.ow)).setCell ⟨g, K * 6 + 4, none⟩ (.string x.nm)).setCell ⟨g, K * 6 + 5, none⟩ (.int .u8 x.rt.toNat)) (.slice (some ⟨g, 0, none⟩) n cap) (L.set K x) := by
  rcases h with ⟨h1, _⟩ | ⟨g', cap', cur, h1, h2, h3, h4⟩
  · cases h1
  · cases h1
    have hc : Cl V g 36 cur.toList := by
      unfold Cl
      rw [h2, Array.toArray_toList]
    have hf := (((((hc.set (K * 6) (.int .u32 x.id)).set (K * 6 + 1) (.int .i64 x.st)).set (K * 6 + 2) (.int .i64 x.ln)).set (K * 6 + 3) (.int .u8 x.ow)).set (K * 6 + 4) (.string x.nm)).set (K * 6 + 5) (.int .u8 x.rt.toNat)
    exact .inr ⟨g, cap, _, by rw [List.length_set], hf, by rw [List.length_set]; exact h3, fun j u hu => by
      have := exs_set hK h4 j u hu
      simpa using this⟩
/-- What a store into the new row meets. -/
structure SetF (Wa : World) (g b q K : Nat) (y x : Ex) : Prop where
  e : ExM Wa g K y
  fz : ∀ j, Wa.frozen? ⟨g, j, none⟩ = false
  bx : Cl Wa q 36 (exCs x)
  c1 : ∃ u, Wa.cell? ⟨b, 1, none⟩ = some u
  fb : Wa.frozen? ⟨b, 1, none⟩ = false
  lb : b < Wa.heap.size
  ne : g ≠ b
theorem rset_row {B : Nat} {w W1 Wa : World} {b : Nat} {s : Xt} {va : Value} {K : Nat} {x : Ex} (h : Rt B w b s) (hK : K < s.l.length) (ok : ({ s with l := s.l.set K x } : Xt).Ok) (hb0 : Below w.heap.size w W1) (hz : W1.heap.size = w.heap.size + 1) (hx : Cl W1 w.heap.size 36 (exCs x))
    (hown : Wa.ownsRow (w.heap.size + 1) 36 6 va s.l.length (exsC s.l)) (hb : Below (w.heap.size + 1) W1 Wa) :
    ∃ g cap, va = .slice (some ⟨g, 0, none⟩) s.l.length cap ∧ SetF Wa g b w.heap.size K s.l[K] x ∧
      RStp B w (((((((Wa.setCell ⟨g, K * 6, none⟩ (.int .u32 x.id)).setCell ⟨g, K * 6 + 1, none⟩ (.int .i64 x.st)).setCell ⟨g, K * 6 + 2, none⟩ (.int .i64 x.ln)).setCell ⟨g, K * 6 + 3, none⟩ (.int .u8 x.ow)).setCell ⟨g, K * 6 + 4, none⟩ (.string x.nm)).setCell ⟨g, K * 6 + 5, none⟩ (.int .u8 x.rt.toNat)).setCell ⟨b, 1, none⟩ va) b { s with l := s.l.set K x } := by
  have hxr := XR.of_own hown
  obtain ⟨v, h1, h2⟩ := h.ex
  have hbW : Below w.heap.size w Wa := hb0.trans (hb.mono (by omega))
  have hc := h1.below hbW
  rcases hown.2 with ⟨_, h0⟩ | ⟨g, cap, cur, rfl, hg, hgb, hk, hm, _, htk⟩
  · omega
  · obtain ⟨a, cap2, e1, hel⟩ := hxr.cells
    cases e1
    obtain ⟨g2, e2, hE⟩ := hel K s.l[K] (List.getElem?_eq_getElem hK)
    cases e2
    have hgw : w.heap.size + 1 ≤ g := hg
    have hbl := h.lt
    refine ⟨g, cap, rfl, ⟨hE, fun j => Lib.frozen_of_heap hgb j, (hb.block _ (by omega)).trans hx, ⟨_, hc.cell 1⟩, hc.thaw 1, hc.lt, by omega⟩, ?_⟩
    have ap := (Apart.of_below (X := fun k => k = b) hbW).fillA (i := g) (j := K * 6) (a0 := .int .u32 x.id) (a1 := .int .i64 x.st) (a2 := .int .i64 x.ln) (a3 := .int .u8 x.ow) (a4 := .string x.nm) (a5 := .int .u8 x.rt.toNat) (fun k hk e => by omega)
    have hcf : Cl _ b 88 _ := (((((hc.other (d := g) (by omega) (K * 6) (.int .u32 x.id)).other (d := g) (by omega) (K * 6 + 1) (.int .i64 x.st)).other (d := g) (by omega) (K * 6 + 2) (.int .i64 x.ln)).other (d := g) (by omega) (K * 6 + 3) (.int .u8 x.ow)).other (d := g) (by omega) (K * 6 + 4) (.string x.nm)).other (d := g) (by omega) (K * 6 + 5) (.int .u8 x.rt.toNat)
    exact RStp.put h ap hcf (hxr.fill rfl hK) ok
set_option maxHeartbeats 4000000 in
theorem rset_any (B b : Nat) (s : Xt) (K : Nat) (x : Ex) (w : World) (h : Rt B w b s) (hK : K < s.l.length) (ok : ({ s with l := s.l.set K x } : Xt).Ok) :
    Calls Tryd.prog 69 #[.pointer (some ⟨b, 0, none⟩), .int .i64 K, exV x] w fun e w' => (∃ v, e = .returned v) ∧ RStp B w w' b { s with l := s.l.set K x } := by
  obtain ⟨v, h1, h2⟩ := h.ex
  have hlen := h.ok.len
  obtain ⟨a, cap, hv, _⟩ := h2.cells
  subst hv
  have hX0 : Below w.heap.size w (w.alloc (.cells (exCs x).toArray 36)) := below_new w _
  have c1 := (h1.below hX0).cell 1
  simp only [List.getElem?_cons_zero, List.getElem?_cons_succ] at c1
  have hb := h1.lt
  have hbx := Cl.new w 36 (exCs x)
  rw [exs_agg] at hX0 c1 hbx
  have hz1 : (w.alloc (.cells #[.int .u32 x.id, .int .i64 x.st, .int .i64 x.ln, .int .u8 x.ow, .string x.nm, .int .u8 x.rt.toNat] 36)).heap.size = w.heap.size + 1 := by simp
  have hO := own_noneX (w.alloc (.cells #[.int .u32 x.id, .int .i64 x.st, .int .i64 x.ln, .int .u8 x.ow, .string x.nm, .int .u8 x.rt.toNat] 36)) (w.heap.size + 1) (by simp)
  have hB := below_new (w.alloc (.cells #[.int .u32 x.id, .int .i64 x.st, .int .i64 x.ln, .int .u8 x.ow, .string x.nm, .int .u8 x.rt.toNat] 36)) (.cells #[] 36)
  have hX2 := ((XL.of h2).below hX0).below (below_new _ (.cells #[] 36))
  have hs2 : w.heap.size + 1 ≤ ((w.alloc (.cells #[.int .u32 x.id, .int .i64 x.st, .int .i64 x.ln, .int .u8 x.ow, .string x.nm, .int .u8 x.rt.toNat] 36)).alloc (.cells #[] 36)).heap.size := by simp
  rw [hz1] at hO hB
  obtain ⟨n, hn⟩ : ∃ n, s.l.length = n := ⟨_, rfl⟩
  have HP : Hid3 (∀ va Wa, Wa.ownsRow (w.heap.size + 1) 36 6 va ([] ++ s.l).length (exsC ([] ++ s.l)) → ((w.alloc (.cells #[.int .u32 x.id, .int .i64 x.st, .int .i64 x.ln, .int .u8 x.ow, .string x.nm, .int .u8 x.rt.toNat] 36)).alloc (.cells #[] 36)).grownBy Wa (Value.ownBlock (.slice (some ⟨w.heap.size + 1, 0, none⟩) 0 0)) →
      ∃ g cap, va = .slice (some ⟨g, 0, none⟩) n cap ∧ SetF Wa g b w.heap.size K s.l[K] x ∧ RStp B w (((((((Wa.setCell ⟨g, K * 6, none⟩ (.int .u32 x.id)).setCell ⟨g, K * 6 + 1, none⟩ (.int .i64 x.st)).setCell ⟨g, K * 6 + 2, none⟩ (.int .i64 x.ln)).setCell ⟨g, K * 6 + 3, none⟩ (.int .u8 x.ow)).setCell ⟨g, K * 6 + 4, none⟩ (.string x.nm)).setCell ⟨g, K * 6 + 5, none⟩ (.int .u8 x.rt.toNat)).setCell ⟨b, 1, none⟩ va) b { s with l := s.l.set K x }) := ⟨fun va Wa ho hg => by
    rw [← hn]
    exact rset_row h hK ok hX0 hz1 hbx ho (hB.grown hg hs2 (fun g e => by have e' : w.heap.size + 1 = g := Option.some.inj e; omega))⟩
  have HX2 := Hid3.mk hX2
  have HO := Hid3.mk hO
  have HS2 := Hid3.mk hs2
  have HN := Hid3.mk hn
  have HLN : Hid3 (([] : List Ex).length + s.l.length ≤ 2000) := ⟨by simp; omega⟩
  rw [hn] at HX2 c1 hlen
  have hKz : (K : Int) < (n : Int) := by omega
  generalize s.l[K] = y at *
  clear h h1 h2 hn hX0 hbx ok hO hB hX2 hs2 hK
  unfold exV
  go_enter Tryd.func69, Tryd.ntmps69
  go_wp2_with (at_builtin; refine wpList_appX rfl _ _ rfl (w.heap.size + 1) (.slice (some ⟨w.heap.size + 1, 0, none⟩) 0 0) [] (.slice a n cap) s.l rfl rfl HO.out HX2.out HLN.out HS2.out ?_; intro va Wa owna growa ata; obtain ⟨g, cap2, rfl, hF, hR⟩ := HP.out va Wa owna growa; have HR := Hid3.mk hR; have e0 := hF.e.e0; have e1 := hF.e.e1; have e2 := hF.e.e2; have e3 := hF.e.e3; have e4 := hF.e.e4; have e5 := hF.e.e5; have hgl := hF.e.l; have f0 := hF.fz (K * 6); have f1 := hF.fz (K * 6 + 1); have f2 := hF.fz (K * 6 + 2); have f3 := hF.fz (K * 6 + 3); have f4 := hF.fz (K * 6 + 4); have f5 := hF.fz (K * 6 + 5); have x0 := hF.bx.cell 0; have x1 := hF.bx.cell 1; have x2 := hF.bx.cell 2; have x3 := hF.bx.cell 3; have x4 := hF.bx.cell 4; have x5 := hF.bx.cell 5; simp only [List.getElem?_cons_zero, List.getElem?_cons_succ, exCs] at x0 x1 x2 x3 x4 x5; have hxl := hF.bx.lt; obtain ⟨u1, d1⟩ := hF.c1; have fb := hF.fb; have lb := hF.lb; have hne := hF.ne; have hne2 := hF.ne.symm; clear owna growa ata hF hR c1)
  go_end0
  exact ⟨⟨_, rfl⟩, HR.out⟩
theorem own_lowX {w w' : World} {B e z n : Nat} {v : Value} {xs : List Value} (h : w.ownsRow B e z v n xs) (k : Below w.heap.size w w') : w'.ownsRow B e z v n xs := by
  refine ⟨h.1, ?_⟩
  rcases h.2 with h2 | ⟨g, cap, cur, h1, h2, h3, h4⟩
  · exact .inl h2
  · exact .inr ⟨g, cap, cur, h1, h2, (k.block g (Array.getElem?_eq_some_iff.1 h3).1).trans h3, h4⟩
/-- What is laid so far. -/
def outX (pre post : List Ex) (x : Ex) (m : Nat) : List Ex := pre.take m ++ (if pre.length < m then x :: post.take (m - pre.length) else [])
theorem outX_lo {pre post : List Ex} {x y : Ex} {m : Nat} (h : m < pre.length) (hy : (pre ++ post)[m]? = some y) : outX pre post x (m + 1) = outX pre post x m ++ [y] ∧ y ∈ pre := by
  rw [List.getElem?_append_left h, List.getElem?_eq_getElem h, Option.some.injEq] at hy
  subst hy
  refine ⟨?_, List.getElem_mem h⟩
  unfold outX
  rw [if_neg (by omega), if_neg (by omega), List.append_nil, List.append_nil, List.take_succ_eq_append_getElem h]
theorem outX_at {pre post : List Ex} {x y : Ex} {m : Nat} (h : m = pre.length) (hy : (pre ++ post)[m]? = some y) : outX pre post x (m + 1) = outX pre post x m ++ [x] ++ [y] ∧ y ∈ post := by
  subst h
  rw [List.getElem?_append_right (Nat.le_refl _), Nat.sub_self] at hy
  cases post with
  | nil => cases hy
  | cons z r =>
    rw [List.getElem?_cons_zero, Option.some.injEq] at hy
    subst hy
    refine ⟨?_, List.mem_cons_self ..⟩
    unfold outX
    rw [if_pos (by omega), if_neg (by omega), List.append_nil, List.take_of_length_le (by omega), List.take_of_length_le (Nat.le_refl _), show pre.length + 1 - pre.length = 1 by omega]
    simp
theorem outX_hi {pre post : List Ex} {x y : Ex} {m : Nat} (h : pre.length < m) (hy : (pre ++ post)[m]? = some y) : outX pre post x (m + 1) = outX pre post x m ++ [y] := by
  rw [List.getElem?_append_right (by omega)] at hy
  obtain ⟨hl, hy⟩ := List.getElem?_eq_some_iff.1 hy
  unfold outX
  have e1 : pre.take (m + 1) = pre := List.take_of_length_le (by omega)
  have e2 : pre.take m = pre := List.take_of_length_le (by omega)
  rw [if_pos (by omega), if_pos (by omega), e1, e2, show m + 1 - pre.length = m - pre.length + 1 by omega, List.take_succ_eq_append_getElem hl, hy]
  simp
theorem outX_len (pre post : List Ex) (x : Ex) (m : Nat) : (outX pre post x m).length ≤ pre.length + post.length + 1 := by
  unfold outX
  split
  · rw [List.length_append, List.length_take, List.length_cons, List.length_take]; omega
  · rw [List.append_nil, List.length_take]; omega
theorem outX_end {pre post : List Ex} {x : Ex} {m : Nat} (h : pre.length < m) (hm : pre.length + post.length ≤ m) : outX pre post x m = pre ++ x :: post := by
  unfold outX
  rw [if_pos h, List.take_of_length_le (by omega), List.take_of_length_le (by omega)]
theorem outX_fin {pre post : List Ex} {x : Ex} {m : Nat} (h : ¬ pre.length < m) (hm : pre.length + post.length ≤ m) : outX pre post x m ++ [x] = pre ++ x :: post := by
  have : post = [] := List.eq_nil_of_length_eq_zero (by omega)
  subst this
  unfold outX
  rw [if_neg h, List.take_of_length_le (by omega), List.append_nil]
/-- What is met while one more is laid in. -/
structure AddF (V : World) (b q : Nat) (s : Xt) (a : Option Addr) (n cap : Nat) (x : Ex) : Prop where
  c1 : V.cell? ⟨b, 1, none⟩ = some (.slice a n cap)
  fb : V.frozen? ⟨b, 1, none⟩ = false
  bl : b < V.heap.size
  bx : Cl V q 36 (exCs x)
  el : ∀ m y, s.l[m]? = some y → ∃ g, a = some ⟨g, 0, none⟩ ∧ ExM V g m y
set_option maxHeartbeats 4000000 in
theorem radd_any (B b : Nat) (s : Xt) (x : Ex) (pre post : List Ex) (w : World) (h : Rt B w b s) (hl : s.l = pre ++ post) (h1 : ∀ y ∈ pre, y.st ≤ x.st) (h2 : ∀ y ∈ post, x.st < y.st) (hlast : s.last < 1000000) (hlen : s.l.length < 24)
    (ok : (⟨s.N, pre ++ x.num (s.last + 1) :: post, s.last + 1⟩ : Xt).Ok) :
    Calls Tryd.prog 67 #[.pointer (some ⟨b, 0, none⟩), exV x] w fun e w' => e = .returned (.int .u32 (s.last + 1 : Nat)) ∧ RStp B w w' b ⟨s.N, pre ++ x.num (s.last + 1) :: post, s.last + 1⟩ := by
  obtain ⟨v, k1, k2⟩ := h.ex
  obtain ⟨a, cap, hv, _⟩ := k2.cells
  subst hv
  have hb := k1.lt
  have hwl : IntKind.u32.wrap ((s.last : Int) + 1) = ((s.last + 1 : Nat) : Int) := by rw [IntKind.wrap_u32]; omega
  obtain ⟨la, hla⟩ : ∃ la : Int, ((s.last + 1 : Nat) : Int) = la := ⟨_, rfl⟩
  have hX0 := below_new w (.cells (exCs x).toArray 36)
  have hx0 := Cl.new w 36 (exCs x)
  have hc0 := k1.below hX0
  have hr0 := k2.low hX0
  rw [exs_agg] at hX0 hx0 hc0 hr0
  have hne : b ≠ w.heap.size := by omega
  have hz1 : (w.alloc (.cells #[.int .u32 x.id, .int .i64 x.st, .int .i64 x.ln, .int .u8 x.ow, .string x.nm, .int .u8 x.rt.toNat] 36)).heap.size = w.heap.size + 1 := by simp
  generalize hw1 : (w.alloc (.cells #[.int .u32 x.id, .int .i64 x.st, .int .i64 x.ln, .int .u8 x.ow, .string x.nm, .int .u8 x.rt.toNat] 36)) = W1 at *
  have g2 := hc0.cell 2
  have f2 := hc0.thaw 2
  have hx1 := hx0.other (fun e => hne e.symm) 2 (.int .u32 la)
  have hc1 := hc0.set 2 (.int .u32 la)
  have u2 := hc1.cell 2
  have x0 := hx1.cell 0
  have fx := hx1.thaw 0
  have hx2 := hx1.set 0 (.int .u32 la)
  have hc2 := hc1.other hne 0 (.int .u32 la)
  simp only [List.getElem?_cons_zero, List.getElem?_cons_succ, List.set_cons_zero, List.set_cons_succ, exCs] at g2 u2 x0 hx2 hc2
  have apW : Apart (fun k => k = b) w ((W1.setCell ⟨b, 2, none⟩ (.int .u32 la)).setCell ⟨w.heap.size, 0, none⟩ (.int .u32 la)) := by
    have a1 := (Apart.of_below (X := fun k => k = b) hX0).trans (Apart.at (X := fun k => k = b) W1 b 2 (.int .u32 la) rfl)
    exact ⟨a1.os, a1.tape, a1.output, by rw [size_setCell]; exact a1.size, fun k hk hx => (Below.heap_setCell _ ⟨w.heap.size, 0, none⟩ _ k (by show k ≠ w.heap.size; omega)).trans (a1.block k hk hx)⟩
  have hr2 : XR ((W1.setCell ⟨b, 2, none⟩ (.int .u32 la)).setCell ⟨w.heap.size, 0, none⟩ (.int .u32 la)) (.slice a s.l.length cap) s.l := k2.stay apW (xr_ne k1)
  have hzW : ((W1.setCell ⟨b, 2, none⟩ (.int .u32 la)).setCell ⟨w.heap.size, 0, none⟩ (.int .u32 la)).heap.size = w.heap.size + 1 := by rw [size_setCell, size_setCell, hz1]
  have hbl1 := hc0.lt
  have hxl1 := hx0.lt
  have hxl2 := hx1.lt
  have hxe : exCs (x.num (s.last + 1)) = [.int .u32 la, .int .i64 x.st, .int .i64 x.ln, .int .u8 x.ow, .string x.nm, .int .u8 x.rt.toNat] := by rw [← hla]; rfl
  obtain ⟨n, hn⟩ : ∃ n, s.l.length = n := ⟨_, rfl⟩
  have HL := Hid3.mk hl
  have HW := Hid3.mk h
  have H1 := Hid3.mk h1
  have H2 := Hid3.mk h2
  have HLA := Hid3.mk hla
  have HOK := Hid3.mk ok
  have HN : Hid3 (pre.length + post.length = n) := ⟨by rw [← hn, hl, List.length_append]⟩
  have hn24 : n < 24 := by omega
  rw [hla] at hwl ⊢
  unfold exV
  go_enter Tryd.func67, Tryd.ntmps67
  clear hX0 hx0 hc0 hr0 hx1 hc1 h1 h2 hl h k1 k2 ok hla
  have HX2 := Hid3.mk hx2
  have HC2 := Hid3.mk hc2
  have HR2 := Hid3.mk hr2
  have HAP := Hid3.mk apW
  have HXE := Hid3.mk hxe
  clear hx2 hc2 hr2 apW hxe
  go_wp2
  clear hw1 g2 f2 u2 x0 fx hz1 hwl hxl1 hxl2 hbl1
  generalize ((W1.setCell ⟨b, 2, none⟩ (.int .u32 la)).setCell ⟨w.heap.size, 0, none⟩ (.int .u32 la)) = W2 at *
  have HF : Hid3 (∀ V, Below W2.heap.size W2 V → AddF V b w.heap.size s a n cap (x.num (s.last + 1))) := ⟨fun V hV => by
    have hc := HC2.out.below hV
    have hx : Cl V w.heap.size 36 (exCs (x.num (s.last + 1))) := by rw [HXE.out]; exact HX2.out.below hV
    have hr := HR2.out.low hV
    obtain ⟨a', cap', e1, hel⟩ := hr.cells
    injection e1 with e1 e2 e3
    subst e1
    exact ⟨by rw [← hn]; exact hc.cell 1, hc.thaw 1, hc.lt, hx, hel⟩⟩
  have HN2 := Hid3.mk hn
  clear hn
  go_loopw [5, 6, 7] (fun out pl i wr => ∃ m : Nat, m ≤ n ∧ i = .int .i64 m ∧ pl = .bool (decide (pre.length < m)) ∧ wr.ownsRow W2.heap.size 36 6 out (outX pre post (x.num (s.last + 1)) m).length (exsC (outX pre post (x.num (s.last + 1)) m)) ∧ Below W2.heap.size W2 wr) (fun _ _ i _ => n - (intOf i).toNat)
  case atStart =>
    have e : outX pre post (x.num (s.last + 1)) 0 = [] := by unfold outX; rw [if_neg (by omega)]; simp
    exact ⟨0, by omega, rfl, by simp, by rw [e]; exact World.ownsRow_nil _ _ _ _, Below.refl _ _⟩
  case round =>
    obtain ⟨m, hm, rfl, rfl, hown, hB⟩ := hrel
    obtain ⟨a0, cap0, rfl⟩ := slice_ofX hown
    have hF := HF.out wr hB
    have c1 := hF.c1
    have hbl := hF.bl
    have b1 : wr.cell? ⟨w.heap.size, 1, none⟩ = some (.int .i64 x.st) := hF.bx.cell 1
    have hxl := hF.bx.lt
    have HO := Hid3.mk hown
    have HB := Hid3.mk hB
    have hol := outX_len pre post (x.num (s.last + 1)) m
    have hNN := HN.out
    by_cases hmn : m < n
    · have hmz : (m : Int) < (n : Int) := by omega
      have hml : m < s.l.length := by rw [HN2.out]; exact hmn
      obtain ⟨g, rfl, hE⟩ := hF.el m s.l[m] (List.getElem?_eq_getElem hml)
      have e1 := hE.e1
      have hg := hE.l
      have hym : (pre ++ post)[m]? = some s.l[m] := by rw [← HL.out]; exact List.getElem?_eq_getElem hml
      have HYE : Hid3 (∀ V, Below W2.heap.size W2 V → ExM V g m s.l[m]) := ⟨fun V hV => by
        obtain ⟨g', e, hh⟩ := (HF.out V hV).el m s.l[m] (List.getElem?_eq_getElem hml)
        cases e
        exact hh⟩
      generalize s.l[m] = y at *
      rcases Nat.lt_trichotomy m pre.length with hc | hc | hc
      · have d0 : decide (pre.length < m) = false := decide_eq_false (by omega)
        have d1 : decide (pre.length < m + 1) = false := decide_eq_false (by omega)
        obtain ⟨q1, q2⟩ := outX_lo (x := x.num (s.last + 1)) hc hym
        have hle := H1.out y q2
        have d2 : decide (x.st < y.st) = false := decide_eq_false (by omega)
        have HQ1 := Hid3.mk q1
        have HD1 := Hid3.mk d1
        rw [d0]
        clear hF hE hym hown hB hle q1 q2 d1 hc
        go_wp2_with fail
        go_quiet (fail)
        have hBq := belowN5 HB.out nq
        have hOq := own_lowX HO.out (belowN5 (Below.refl _ wr) nq)
        generalize wr.drewN nq = V at *
        clear c1 hbl b1 hxl e1 hg
        have hF := HF.out V hBq
        have c1 := hF.c1
        have hbl := hF.bl
        have hE := HYE.out V hBq
        have e0 := hE.e0
        have e1 := hE.e1
        have e2 := hE.e2
        have e3 := hE.e3
        have e4 := hE.e4
        have e5 := hE.e5
        have hg := hE.l
        have HXL := Hid3.mk (xl_one V y)
        have HSA : Hid3 (W2.heap.size ≤ (V.alloc (.cells #[.int .u32 y.id, .int .i64 y.st, .int .i64 y.ln, .int .u8 y.ow, .string y.nm, .int .u8 y.rt.toNat] 36)).heap.size) := ⟨by simp; have := hBq.size; omega⟩
        have HOQ := Hid3.mk (hOq.alloc (.cells #[.int .u32 y.id, .int .i64 y.st, .int .i64 y.ln, .int .u8 y.ow, .string y.nm, .int .u8 y.rt.toNat] 36))
        have HLE : Hid3 ((outX pre post (x.num (s.last + 1)) m).length + [y].length ≤ 2000) := ⟨by rw [List.length_singleton]; omega⟩
        have HEND : Hid3 (∀ va Wa, Wa.ownsRow W2.heap.size 36 6 va (outX pre post (x.num (s.last + 1)) m ++ [y]).length (exsC (outX pre post (x.num (s.last + 1)) m ++ [y])) → (V.alloc (.cells #[.int .u32 y.id, .int .i64 y.st, .int .i64 y.ln, .int .u8 y.ow, .string y.nm, .int .u8 y.rt.toNat] 36)).grownBy Wa (Value.ownBlock (.slice a0 (outX pre post (x.num (s.last + 1)) m).length cap0)) → Wa.ownsRow W2.heap.size 36 6 va (outX pre post (x.num (s.last + 1)) (m + 1)).length (exsC (outX pre post (x.num (s.last + 1)) (m + 1))) ∧ Below W2.heap.size W2 Wa) := ⟨fun va Wa ho hg => by
          rw [HQ1.out]
          exact ⟨ho, (hBq.trans ((below_new V _).mono hBq.size)).grown hg HSA.out (fun k e => (HOQ.out.lt k e).1)⟩⟩
        clear hF hE hOq
        go_wp2_with (at_builtin; refine wpList_appX rfl _ _ rfl W2.heap.size (.slice a0 (outX pre post (x.num (s.last + 1)) m).length cap0) (outX pre post (x.num (s.last + 1)) m) (.slice (some ⟨V.heap.size, 0, none⟩) 1 1) [y] rfl rfl HOQ.out HXL.out HLE.out HSA.out ?_; intro va Wa owna growa ata; have HR := Hid3.mk (HEND.out va Wa owna growa); clear owna growa ata)
        go_roundw
        case rel => exact ⟨m + 1, by omega, by go_num, by rw [HD1.out], HR.out.1, HR.out.2⟩
        case measure => simp [intOf]; omega
      · have d0 : decide (pre.length < m) = false := decide_eq_false (by omega)
        have d1 : decide (pre.length < m + 1) = true := decide_eq_true (by omega)
        obtain ⟨q1, q2⟩ := outX_at (x := x.num (s.last + 1)) hc hym
        have hlt := H2.out y q2
        have d2 : decide (x.st < y.st) = true := decide_eq_true (by omega)
        have HQ1 := Hid3.mk q1
        have HD1 := Hid3.mk d1
        rw [d0]
        clear hF hE hym hown hB hlt q1 q2 d1 hc
        go_wp2_with fail
        go_quiet (fail)
        have hBq := belowN5 HB.out nq
        have hOq := own_lowX HO.out (belowN5 (Below.refl _ wr) nq)
        generalize wr.drewN nq = V at *
        clear c1 hbl b1 hxl e1 hg
        have hF := HF.out V hBq
        have x0 := hF.bx.cell 0
        have x1 := hF.bx.cell 1
        have x2 := hF.bx.cell 2
        have x3 := hF.bx.cell 3
        have x4 := hF.bx.cell 4
        have x5 := hF.bx.cell 5
        have hxl := hF.bx.lt
        rw [HXE.out] at x0 x1 x2 x3 x4 x5
        simp only [List.getElem?_cons_zero, List.getElem?_cons_succ] at x0 x1 x2 x3 x4 x5
        have hXL := xl_one V (x.num (s.last + 1))
        rw [← exs_agg, HXE.out] at hXL
        have HXL : Hid3 (XL (V.alloc (.cells #[.int .u32 la, .int .i64 x.st, .int .i64 x.ln, .int .u8 x.ow, .string x.nm, .int .u8 x.rt.toNat] 36)) (.slice (some ⟨V.heap.size, 0, none⟩) 1 1) [x.num (s.last + 1)]) := ⟨hXL⟩
        have HSA : Hid3 (W2.heap.size ≤ (V.alloc (.cells #[.int .u32 la, .int .i64 x.st, .int .i64 x.ln, .int .u8 x.ow, .string x.nm, .int .u8 x.rt.toNat] 36)).heap.size) := ⟨by simp; have := hBq.size; omega⟩
        have HOQ := Hid3.mk (hOq.alloc (.cells #[.int .u32 la, .int .i64 x.st, .int .i64 x.ln, .int .u8 x.ow, .string x.nm, .int .u8 x.rt.toNat] 36))
        have HLE : Hid3 ((outX pre post (x.num (s.last + 1)) m).length + [x.num (s.last + 1)].length ≤ 2000) := ⟨by rw [List.length_singleton]; omega⟩
        have HLE2 : Hid3 ((outX pre post (x.num (s.last + 1)) m ++ [x.num (s.last + 1)]).length + [y].length ≤ 2000) := ⟨by rw [List.length_append, List.length_singleton, List.length_singleton]; omega⟩
        have HEND : Hid3 (∀ va Wa, Wa.ownsRow W2.heap.size 36 6 va (outX pre post (x.num (s.last + 1)) m ++ [x.num (s.last + 1)]).length (exsC (outX pre post (x.num (s.last + 1)) m ++ [x.num (s.last + 1)])) → (V.alloc (.cells #[.int .u32 la, .int .i64 x.st, .int .i64 x.ln, .int .u8 x.ow, .string x.nm, .int .u8 x.rt.toNat] 36)).grownBy Wa (Value.ownBlock (.slice a0 (outX pre post (x.num (s.last + 1)) m).length cap0)) →
          Below W2.heap.size W2 Wa ∧ Wa.cell? ⟨b, 1, none⟩ = some (.slice (some ⟨g, 0, none⟩) n cap) ∧ b < Wa.heap.size ∧ ExM Wa g m y ∧ XL (Wa.alloc (.cells #[.int .u32 y.id, .int .i64 y.st, .int .i64 y.ln, .int .u8 y.ow, .string y.nm, .int .u8 y.rt.toNat] 36)) (.slice (some ⟨Wa.heap.size, 0, none⟩) 1 1) [y] ∧ (Wa.alloc (.cells #[.int .u32 y.id, .int .i64 y.st, .int .i64 y.ln, .int .u8 y.ow, .string y.nm, .int .u8 y.rt.toNat] 36)).ownsRow W2.heap.size 36 6 va (outX pre post (x.num (s.last + 1)) m ++ [x.num (s.last + 1)]).length (exsC (outX pre post (x.num (s.last + 1)) m ++ [x.num (s.last + 1)])) ∧ W2.heap.size ≤ (Wa.alloc (.cells #[.int .u32 y.id, .int .i64 y.st, .int .i64 y.ln, .int .u8 y.ow, .string y.nm, .int .u8 y.rt.toNat] 36)).heap.size) := ⟨fun va Wa ho hg => by
          have hBB : Below W2.heap.size W2 Wa := (hBq.trans ((below_new V _).mono hBq.size)).grown hg HSA.out (fun k e => (HOQ.out.lt k e).1)
          have hF := HF.out Wa hBB
          exact ⟨hBB, hF.c1, hF.bl, HYE.out Wa hBB, xl_one Wa y, ho.alloc _, by simp; have := hBB.size; omega⟩⟩
        have HFIN : Hid3 (∀ va Wa vb Wb, Wa.ownsRow W2.heap.size 36 6 va (outX pre post (x.num (s.last + 1)) m ++ [x.num (s.last + 1)]).length (exsC (outX pre post (x.num (s.last + 1)) m ++ [x.num (s.last + 1)])) → Below W2.heap.size W2 Wa → Wb.ownsRow W2.heap.size 36 6 vb (outX pre post (x.num (s.last + 1)) m ++ [x.num (s.last + 1)] ++ [y]).length (exsC (outX pre post (x.num (s.last + 1)) m ++ [x.num (s.last + 1)] ++ [y])) → (Wa.alloc (.cells #[.int .u32 y.id, .int .i64 y.st, .int .i64 y.ln, .int .u8 y.ow, .string y.nm, .int .u8 y.rt.toNat] 36)).grownBy Wb va.ownBlock → Wb.ownsRow W2.heap.size 36 6 vb (outX pre post (x.num (s.last + 1)) (m + 1)).length (exsC (outX pre post (x.num (s.last + 1)) (m + 1))) ∧ Below W2.heap.size W2 Wb) := ⟨fun va Wa vb Wb ho hb ho2 hg => by
          rw [HQ1.out]
          exact ⟨ho2, (hb.trans ((below_new Wa _).mono hb.size)).grown hg (by simp; have := hb.size; omega) (fun k e => (ho.lt k e).1)⟩⟩
        clear hF hXL hOq
        go_wp2_with (at_builtin; first
          | (refine wpList_appX rfl _ _ rfl W2.heap.size (.slice a0 (outX pre post (x.num (s.last + 1)) m).length cap0) (outX pre post (x.num (s.last + 1)) m) (.slice (some ⟨V.heap.size, 0, none⟩) 1 1) [x.num (s.last + 1)] rfl rfl HOQ.out HXL.out HLE.out HSA.out ?_; intro va Wa owna growa ata; have HA0 := Hid3.mk owna; obtain ⟨r1, c1, hbl, r2, r3, r4, r5⟩ := HEND.out va Wa owna growa; have HR1 := Hid3.mk r1; have HR3 := Hid3.mk r3; have HR4 := Hid3.mk r4; have HR5 := Hid3.mk r5; have e0 := r2.e0; have e1 := r2.e1; have e2 := r2.e2; have e3 := r2.e3; have e4 := r2.e4; have e5 := r2.e5; have hg := r2.l; clear owna growa ata x0 x1 x2 x3 x4 x5 hxl r1 r2 r3 r4 r5)
          | (refine wpList_appX rfl _ _ rfl W2.heap.size va (outX pre post (x.num (s.last + 1)) m ++ [x.num (s.last + 1)]) (.slice (some ⟨Wa.heap.size, 0, none⟩) 1 1) [y] rfl rfl HR4.out HR3.out HLE2.out HR5.out ?_; intro vb Wb ownb growb atb; have HR := Hid3.mk (HFIN.out va Wa vb Wb HA0.out HR1.out ownb growb); clear ownb growb atb))
        go_roundw
        case rel => exact ⟨m + 1, by omega, by go_num, by rw [HD1.out], HR.out.1, HR.out.2⟩
        case measure => simp [intOf]; omega
      · have d0 : decide (pre.length < m) = true := decide_eq_true (by omega)
        have d1 : decide (pre.length < m + 1) = true := decide_eq_true (by omega)
        have q1 := outX_hi (x := x.num (s.last + 1)) hc hym
        have HQ1 := Hid3.mk q1
        have HD1 := Hid3.mk d1
        rw [d0]
        clear hF hE hym hown hB q1 d1 hc
        go_wp2_with fail
        go_quiet (fail)
        have hBq := belowN5 HB.out nq
        have hOq := own_lowX HO.out (belowN5 (Below.refl _ wr) nq)
        generalize wr.drewN nq = V at *
        clear c1 hbl b1 hxl e1 hg
        have hF := HF.out V hBq
        have c1 := hF.c1
        have hbl := hF.bl
        have hE := HYE.out V hBq
        have e0 := hE.e0
        have e1 := hE.e1
        have e2 := hE.e2
        have e3 := hE.e3
        have e4 := hE.e4
        have e5 := hE.e5
        have hg := hE.l
        have HXL := Hid3.mk (xl_one V y)
        have HSA : Hid3 (W2.heap.size ≤ (V.alloc (.cells #[.int .u32 y.id, .int .i64 y.st, .int .i64 y.ln, .int .u8 y.ow, .string y.nm, .int .u8 y.rt.toNat] 36)).heap.size) := ⟨by simp; have := hBq.size; omega⟩
        have HOQ := Hid3.mk (hOq.alloc (.cells #[.int .u32 y.id, .int .i64 y.st, .int .i64 y.ln, .int .u8 y.ow, .string y.nm, .int .u8 y.rt.toNat] 36))
        have HLE : Hid3 ((outX pre post (x.num (s.last + 1)) m).length + [y].length ≤ 2000) := ⟨by rw [List.length_singleton]; omega⟩
        have HEND : Hid3 (∀ va Wa, Wa.ownsRow W2.heap.size 36 6 va (outX pre post (x.num (s.last + 1)) m ++ [y]).length (exsC (outX pre post (x.num (s.last + 1)) m ++ [y])) → (V.alloc (.cells #[.int .u32 y.id, .int .i64 y.st, .int .i64 y.ln, .int .u8 y.ow, .string y.nm, .int .u8 y.rt.toNat] 36)).grownBy Wa (Value.ownBlock (.slice a0 (outX pre post (x.num (s.last + 1)) m).length cap0)) → Wa.ownsRow W2.heap.size 36 6 va (outX pre post (x.num (s.last + 1)) (m + 1)).length (exsC (outX pre post (x.num (s.last + 1)) (m + 1))) ∧ Below W2.heap.size W2 Wa) := ⟨fun va Wa ho hg => by
          rw [HQ1.out]
          exact ⟨ho, (hBq.trans ((below_new V _).mono hBq.size)).grown hg HSA.out (fun k e => (HOQ.out.lt k e).1)⟩⟩
        clear hF hE hOq
        go_wp2_with (at_builtin; refine wpList_appX rfl _ _ rfl W2.heap.size (.slice a0 (outX pre post (x.num (s.last + 1)) m).length cap0) (outX pre post (x.num (s.last + 1)) m) (.slice (some ⟨V.heap.size, 0, none⟩) 1 1) [y] rfl rfl HOQ.out HXL.out HLE.out HSA.out ?_; intro va Wa owna growa ata; have HR := Hid3.mk (HEND.out va Wa owna growa); clear owna growa ata)
        go_roundw
        case rel => exact ⟨m + 1, by omega, by go_num, by rw [HD1.out], HR.out.1, HR.out.2⟩
        case measure => simp [intOf]; omega
    · have hmz : ¬ (m : Int) < (n : Int) := by omega
      clear hF hown hB b1 hxl
      by_cases hc : pre.length < m
      · have d0 : decide (pre.length < m) = true := decide_eq_true hc
        have HE := Hid3.mk (outX_end (x := x.num (s.last + 1)) (post := post) hc (by omega))
        rw [d0]
        clear hc
        have hF := HF.out wr HB.out
        have fb := hF.fb
        have bx0 := hF.bx.cell 0
        have hxl := hF.bx.lt
        rw [HXE.out] at bx0
        simp only [List.getElem?_cons_zero] at bx0
        have hne2 : w.heap.size ≠ b := fun e => hne e.symm
        clear hF
        go_wp2
        go_ret
        refine ⟨rfl, ?_⟩
        have hr := XR.of_own HO.out
        rw [HE.out] at hr
        refine RStp.put HW.out (HAP.out.trans (Apart.of_below HB.out)) (v := .slice a s.l.length cap) (by rw [HLA.out]; exact HC2.out.below HB.out) ?_ HOK.out
        rw [HE.out]
        exact hr
      · have d0 : decide (pre.length < m) = false := decide_eq_false hc
        have HE := Hid3.mk (outX_fin (x := x.num (s.last + 1)) (post := post) hc (by omega))
        rw [d0]
        clear hc
        have hF := HF.out wr HB.out
        have x0 := hF.bx.cell 0
        have x1 := hF.bx.cell 1
        have x2 := hF.bx.cell 2
        have x3 := hF.bx.cell 3
        have x4 := hF.bx.cell 4
        have x5 := hF.bx.cell 5
        have hxl := hF.bx.lt
        rw [HXE.out] at x0 x1 x2 x3 x4 x5
        simp only [List.getElem?_cons_zero, List.getElem?_cons_succ] at x0 x1 x2 x3 x4 x5
        have hXL := xl_one wr (x.num (s.last + 1))
        have hBa := below_new wr (.cells (exCs (x.num (s.last + 1))).toArray 36)
        have hsA : W2.heap.size ≤ (wr.alloc (.cells (exCs (x.num (s.last + 1))).toArray 36)).heap.size := by simp; have := HB.out.size; omega
        rw [← exs_agg] at hXL
        rw [HXE.out] at hXL hBa hsA
        have HXL := Hid3.mk hXL
        have HBa := Hid3.mk hBa
        have HSA := Hid3.mk hsA
        have hne2 : w.heap.size ≠ b := fun e => hne e.symm
        have hle2 : (outX pre post (x.num (s.last + 1)) m).length + [x.num (s.last + 1)].length ≤ 2000 := by rw [List.length_singleton]; omega
        have HLE := Hid3.mk hle2
        have HEND : Hid3 (∀ va Wa, Wa.ownsRow W2.heap.size 36 6 va (outX pre post (x.num (s.last + 1)) m ++ [x.num (s.last + 1)]).length (exsC (outX pre post (x.num (s.last + 1)) m ++ [x.num (s.last + 1)])) → (wr.alloc (.cells #[.int .u32 la, .int .i64 x.st, .int .i64 x.ln, .int .u8 x.ow, .string x.nm, .int .u8 x.rt.toNat] 36)).grownBy Wa (Value.ownBlock (.slice a0 (outX pre post (x.num (s.last + 1)) m).length cap0)) → AddF Wa b w.heap.size s a n cap (x.num (s.last + 1)) ∧ RStp B w (Wa.setCell ⟨b, 1, none⟩ va) b ⟨s.N, pre ++ x.num (s.last + 1) :: post, s.last + 1⟩) := ⟨fun va Wa ho hg => by
          have hBB : Below W2.heap.size W2 Wa := (HB.out.trans (HBa.out.mono HB.out.size)).grown hg HSA.out (fun k e => (HO.out.lt k e).1)
          refine ⟨HF.out Wa hBB, ?_⟩
          have hr := XR.of_own ho
          rw [HE.out] at hr
          exact RStp.put HW.out (HAP.out.trans (Apart.of_below hBB)) (v := .slice a s.l.length cap) (by rw [HLA.out]; exact HC2.out.below hBB) hr HOK.out⟩
        clear hF hXL hBa hsA hle2
        go_wp2_with (at_builtin; refine wpList_appX rfl _ _ rfl W2.heap.size (.slice a0 (outX pre post (x.num (s.last + 1)) m).length cap0) (outX pre post (x.num (s.last + 1)) m) (.slice (some ⟨wr.heap.size, 0, none⟩) 1 1) [x.num (s.last + 1)] rfl rfl (HO.out.alloc _) HXL.out HLE.out HSA.out ?_; intro va Wa owna growa ata; obtain ⟨hF, hR⟩ := HEND.out va Wa owna growa; have HR := Hid3.mk hR; obtain ⟨a9, cap9, e9⟩ := slice_ofX owna; have d1 := hF.c1; have fb := hF.fb; have lb := hF.bl; have y0 := hF.bx.cell 0; have hxl9 := hF.bx.lt; rw [HXE.out] at y0; simp only [List.getElem?_cons_zero] at y0; subst e9; clear owna growa ata hF hR x0 x1 x2 x3 x4 x5 hxl)
        go_ret
        have hR := HR.out
        rw [List.length_append, List.length_singleton] at hR
        exact ⟨rfl, hR⟩
end Go.Proofs.YtmepnnlmhlndmaaDoor
namespace Go.Proofs.YtmepnnlmhlndmaaDoor
open Go.RowKit Go.Maps
set_option linter.unusedVariables false
set_option maxRecDepth 100000
theorem exsC_cons (x : Ex) (l : List Ex) : exsC (x :: l) = exCs x ++ exsC l := by unfold exsC; simp
/-- The head of a row; its tail. -/
theorem XR.head {w : World} {g n cap : Nat} {pre post : List Ex} {x : Ex} {c : Nat} (h : XR w (.slice (some ⟨g, 0, none⟩) n cap) (pre ++ x :: post)) : XL w (.slice (some ⟨g, 0, none⟩) pre.length c) pre := by
  rcases h with ⟨h1, _⟩ | ⟨g', cap', cur, h1, h2, h3, h4⟩
  · cases h1
  · cases h1
    refine .inr ⟨_, c, rfl, fun j u hu => xr_cells (w' := w) h2 h4 j u ?_⟩
    rw [exsC_append, List.getElem?_append_left (List.getElem?_eq_some_iff.1 hu).1]
    exact hu
theorem XR.tail {w : World} {g n cap : Nat} {pre post : List Ex} {x : Ex} {c : Nat} (h : XR w (.slice (some ⟨g, 0, none⟩) n cap) (pre ++ x :: post)) : XL w (.slice (some ⟨g, (pre.length + 1) * 6, none⟩) post.length c) post := by
  rcases h with ⟨h1, _⟩ | ⟨g', cap', cur, h1, h2, h3, h4⟩
  · cases h1
  · cases h1
    refine .inr ⟨_, c, rfl, fun j u hu => ?_⟩
    have e : (exsC (pre ++ x :: post))[(pre.length + 1) * 6 + j]? = some u := by
      rw [exsC_append, exsC_cons, List.getElem?_append_right (by rw [exsC_len]; omega), exsC_len, List.getElem?_append_right (by show 6 ≤ _; omega)]
      rw [show (pre.length + 1) * 6 + j - pre.length * 6 - (exCs x).length = j by show _ - 6 = j; omega]
      exact hu
    have h5 := xr_cells (w' := w) h2 h4 _ u e
    rw [show ((⟨g, 0, none⟩ : Addr).add ((pre.length + 1) * 6 + j)) = (⟨g, (pre.length + 1) * 6, none⟩ : Addr).add j by simp [Addr.add]] at h5
    exact h5
/-- What holds behind the first append. -/
structure RA (B : Nat) (W Wa : World) (va : Value) (T1 : List Ex) : Prop where
  below : Below W.heap.size W Wa
  own : Wa.ownsRow B 36 6 va ([] ++ T1).length (exsC ([] ++ T1))
  far : ∃ g, W.heap.size ≤ g ∧ va.ownBlock = some g
theorem RA.mk' {B : Nat} {W X Wa : World} {va : Value} {T1 : List Ex} {q c : Nat} (hX : Below W.heap.size W X) (hq : W.heap.size ≤ q) (own : Wa.ownsRow B 36 6 va ([] ++ T1).length (exsC ([] ++ T1))) (grow : X.grownBy Wa (Value.ownBlock (.slice (some ⟨q, 0, none⟩) 0 c))) (at' : va.ownBlock = Value.ownBlock (.slice (some ⟨q, 0, none⟩) 0 c) ∨ va.ownBlock = some X.heap.size) : RA B W Wa va T1 :=
  ⟨hX.grown grow hX.size (fun g e => by have e' : q = g := Option.some.inj e; omega), own, at'.elim (fun e => ⟨q, hq, e⟩) (fun e => ⟨_, hX.size, e⟩)⟩
theorem RB.mk' {B : Nat} {W Wa X Wb : World} {va : Value} {L : List Ex} (hA : RA B W Wa va L) (hX : Below Wa.heap.size Wa X) (grow : X.grownBy Wb va.ownBlock) : Below W.heap.size W Wb :=
  (hA.below.trans (hX.mono hA.below.size)).grown grow (Nat.le_trans hA.below.size hX.size) (fun g e => by
    obtain ⟨g', h1, h2⟩ := hA.far
    rw [h2] at e
    have := Option.some.inj e
    omega)
theorem drop_b {B : Nat} {w Wb : World} {b : Nat} {s : Xt} {vb : Value} {l : List Ex} (h : Rt B w b s) (hW : Below w.heap.size w Wb) (own : Wb.ownsRow w.heap.size 36 6 vb l.length (exsC l)) (ok : ({ s with l := l } : Xt).Ok) : RStp B w (Wb.setCell ⟨b, 1, none⟩ vb) b { s with l := l } ∧ (∃ x, Wb.cell? ⟨b, 1, none⟩ = some x) ∧ Wb.frozen? ⟨b, 1, none⟩ = false ∧ b < Wb.heap.size := by
  obtain ⟨v0, h1, h2⟩ := h.ex
  have hc := h1.below hW
  exact ⟨RStp.put h (Apart.of_below hW) hc (XR.of_own own) ok, ⟨_, hc.cell 1⟩, hc.thaw 1, hc.lt⟩
set_option maxHeartbeats 4000000 in
theorem rdrop_any (B b : Nat) (s : Xt) (pre post : List Ex) (x : Ex) (w : World) (h : Rt B w b s) (hl : s.l = pre ++ x :: post) :
    Calls Tryd.prog 70 #[.pointer (some ⟨b, 0, none⟩), .int .i64 pre.length] w fun e w' => (∃ v, e = .returned v) ∧ RStp B w w' b { s with l := pre ++ post } := by
  have ok : ({ s with l := pre ++ post } : Xt).Ok := h.ok.of_l (by rw [hl]; exact List.Sublist.append_left (List.sublist_cons_self _ _) _)
  have hlen := h.ok.len
  obtain ⟨v, h1, h2⟩ := h.ex
  obtain ⟨a, cap, hv, hel⟩ := h2.cells
  subst hv
  obtain ⟨g, hga, hE⟩ := hel pre.length x (by rw [hl]; simp)
  subst hga
  have hcap : s.l.length ≤ cap := by
    rcases h2 with ⟨h3, _⟩ | ⟨g', cap', cur, h3, _, h5, _⟩
    · cases h3
    · cases h3; exact h5
  have hll : s.l.length = pre.length + (post.length + 1) := by rw [hl, List.length_append, List.length_cons]
  have h2' := h2
  rw [hl] at h2'
  obtain ⟨K, hK⟩ : ∃ K, pre.length = K := ⟨_, rfl⟩
  obtain ⟨P, hP⟩ : ∃ P, post.length = P := ⟨_, rfl⟩
  have c1 := h1.cell 1
  simp only [List.getElem?_cons_zero, List.getElem?_cons_succ] at c1
  rw [hll, hK, hP] at c1 hcap
  rw [hll, hK, hP] at hlen
  have hb := h1.lt
  have HX1 : Hid3 (∀ c, XL w (.slice (some ⟨g, 0, none⟩) K c) pre) := ⟨fun c => by rw [← hK]; exact h2'.head⟩
  have HX2 : Hid3 (∀ c, XL w (.slice (some ⟨g, (K + 1) * 6, none⟩) P c) post) := ⟨fun c => by rw [← hK, ← hP]; exact h2'.tail⟩
  have HF : Hid3 (∀ vb Wb, Below w.heap.size w Wb → Wb.ownsRow w.heap.size 36 6 vb ([] ++ pre ++ post).length (exsC ([] ++ pre ++ post)) → RStp B w (Wb.setCell ⟨b, 1, none⟩ vb) b { s with l := pre ++ post } ∧ (∃ x, Wb.cell? ⟨b, 1, none⟩ = some x) ∧ Wb.frozen? ⟨b, 1, none⟩ = false ∧ b < Wb.heap.size) := ⟨fun vb Wb hW ow => drop_b h hW ow ok⟩
  have hL1 : ([] : List Ex).length + pre.length ≤ 2000 := by rw [List.length_nil]; omega
  have hL2 : ([] ++ pre).length + post.length ≤ 2000 := by rw [List.nil_append]; omega
  have hX1 : Below w.heap.size w (w.alloc (.cells #[] 36)).drew := ((Below.refl _ w).alloc (Nat.le_refl _) _).drew
  have HB1 := Hid3.mk hX1
  have HBs : Hid3 (w.heap.size ≤ (w.alloc (.cells #[] 36)).drew.heap.size) := ⟨hX1.size⟩
  have H0 : Hid3 ((w.alloc (.cells #[] 36)).drew.ownsRow w.heap.size 36 6 (.slice (some ⟨w.heap.size, 0, none⟩) 0 0) ([] : List Ex).length (exsC [])) := ⟨own_noneX w w.heap.size (Nat.le_refl _)⟩
  have HC1 : Hid3 (∀ W', Below w.heap.size w W' → W'.cell? ⟨b, 1, none⟩ = some (.slice (some ⟨g, 0, none⟩) (K + (P + 1)) cap)) := ⟨fun W' hW => (hW.cell (p := ⟨b, 1, none⟩) hb).trans c1⟩
  have HL1 := Hid3.mk hL1
  have HL2 := Hid3.mk hL2
  have HLN : Hid3 (([] ++ pre ++ post).length = K + P) := ⟨by rw [List.nil_append, List.length_append, hK, hP]⟩
  have z1 : (w.alloc (.cells #[] 36)).cell? ⟨b, 1, none⟩ = some (.slice (some ⟨g, 0, none⟩) (K + (P + 1)) cap) := HC1.out _ (below_new w _)
  rw [hK]
  have hwk : IntKind.i64.wrap ((K : Int) + 1) = (K : Int) + 1 := by rw [IntKind.wrap_i64]; omega
  have htn : ((K : Int) + 1).toNat = K + 1 := by omega
  have hk0 : (0 : Int) ≤ (K : Int) + 1 := by omega
  have HPE : Hid3 (P = 0 → XL w (.slice (some ⟨g, 0, none⟩) 0 0) post) := ⟨fun e => by
    have : post = [] := List.eq_nil_of_length_eq_zero (hP.trans e)
    subst this
    exact .inr ⟨_, 0, rfl, fun j u hu => by cases hu⟩⟩
  clear hl h h1 h2 hel hE h2' hll hK hP hL1 hL2 hX1 ok
  by_cases hc : cap = K + 1
  · subst hc
    have hP0 : P = 0 := by omega
    subst hP0
    have hk3 : (K : Int) ≤ (K : Int) + 1 := by omega
    have hk4 : (((K + (0 + 1) : Nat)) : Int) ≤ (K : Int) + 1 := by omega
    have HE0 : Hid3 (XL w (.slice (some ⟨g, 0, none⟩) 0 0) post) := ⟨HPE.out rfl⟩
    go_enter Tryd.func70, Tryd.ntmps70
    go_wp2_with fail
    go_region_law ((first
      | (refine step_appX (.tmp 0) (.pointer (some ⟨b, 0, none⟩)) (by rfl) (by rfl) _ _ (by rfl) w.heap.size (.slice (some ⟨w.heap.size, 0, none⟩) 0 0) [] (.slice (some ⟨g, 0, none⟩) K _) pre (by rfl) (by rfl) (by exact H0.out) (by exact (HX1.out _).below HB1.out) (by exact HL1.out) (by exact HBs.out) ?_; intro va Wa owna growa ata; have HA : Hid3 (RA w.heap.size w Wa va pre) := ⟨RA.mk' HB1.out (Nat.le_refl _) owna growa ata⟩; have z2 := HC1.out Wa HA.out.below; clear owna growa ata)
      | (refine step_appX (.tmp 0) (.pointer (some ⟨b, 0, none⟩)) (by rfl) (by rfl) _ _ (by rfl) w.heap.size va ([] ++ pre) (.slice (some ⟨g, 0, none⟩) 0 0) post (by rfl) (by rfl) (by exact HA.out.own) (by exact HE0.out.below HA.out.below) (by exact HL2.out) (by have := HA.out.below.size; omega) ?_; intro vb Wb ownb growb atb; have HQ := Hid3.mk (HF.out vb Wb (RB.mk' HA.out (Below.refl _ _) growb) ownb); obtain ⟨u54, c4⟩ := HQ.out.2.1; have f4 := HQ.out.2.2.1; have l4 := HQ.out.2.2.2; obtain ⟨a', cap', e'⟩ := slice_ofX ownb; rw [HLN.out] at e'; clear ownb growb atb; subst e')))
    all_goals
      go_wp2
      go_end0
      exact ⟨⟨_, rfl⟩, HQ.out.1⟩
  · have hcn : ¬ cap - (K + 1) = 0 := by omega
    have hcn2 : (K : Int) + 1 ≤ (cap : Int) := by omega
    have hcn3 : (K : Int) ≤ (cap : Int) := by omega
    have hcn4 : (K : Int) + 1 ≤ ((K + (P + 1) : Nat) : Int) := by omega
    have hcn5 : K + (P + 1) - (K + 1) = P := by omega
    have hcn6 : (((K + (P + 1) : Nat)) : Int) - ((K : Int) + 1) = (P : Int) := by omega
    have hcn8 : (1 : Int) ≤ (P : Int) + 1 := by omega
    have hcn7 : (((K + (P + 1) : Nat)) : Int) ≤ (cap : Int) := by omega
    have HE0 : Hid3 (∀ c, XL w (.slice (some ⟨g, (K + 1) * 6, none⟩) P c) post) := HX2
    go_enter Tryd.func70, Tryd.ntmps70
    go_wp2_with fail
    go_region_law ((first
      | (refine step_appX (.tmp 0) (.pointer (some ⟨b, 0, none⟩)) (by rfl) (by rfl) _ _ (by rfl) w.heap.size (.slice (some ⟨w.heap.size, 0, none⟩) 0 0) [] (.slice (some ⟨g, 0, none⟩) K _) pre (by rfl) (by rfl) (by exact H0.out) (by exact (HX1.out _).below HB1.out) (by exact HL1.out) (by exact HBs.out) ?_; intro va Wa owna growa ata; have HA : Hid3 (RA w.heap.size w Wa va pre) := ⟨RA.mk' HB1.out (Nat.le_refl _) owna growa ata⟩; have z2 := HC1.out Wa HA.out.below; clear owna growa ata)
      | (refine step_appX (.tmp 0) (.pointer (some ⟨b, 0, none⟩)) (by rfl) (by rfl) _ _ (by rfl) w.heap.size va ([] ++ pre) (.slice (some ⟨g, (K + 1) * 6, none⟩) P _) post (by rfl) (by rfl) (by exact HA.out.own) (by exact (HE0.out _).below HA.out.below) (by exact HL2.out) (by have := HA.out.below.size; omega) ?_; intro vb Wb ownb growb atb; have HQ := Hid3.mk (HF.out vb Wb (RB.mk' HA.out (Below.refl _ _) growb) ownb); obtain ⟨u54, c4⟩ := HQ.out.2.1; have f4 := HQ.out.2.2.1; have l4 := HQ.out.2.2.2; obtain ⟨a', cap', e'⟩ := slice_ofX ownb; rw [HLN.out] at e'; clear ownb growb atb; subst e')))
    all_goals
      go_wp2
      go_end0
      exact ⟨⟨_, rfl⟩, HQ.out.1⟩
end Go.Proofs.YtmepnnlmhlndmaaDoor
