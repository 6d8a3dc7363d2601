/- The document's table: one is another one, one is no more, of a row that need not be in order. -/
import Derived.Test.YtmepnnlmhlndmaaDoorEzG
namespace Go.Proofs.YtmepnnlmhlndmaaDoor
open Go.RowKit Go.Maps
set_option linter.unusedVariables false
set_option maxRecDepth 100000
/-- The document's table, its row in no order. -/
structure Rv (B : Nat) (w : World) (b : Nat) (s : Xt) : Prop where
  g : B ≤ b
  ex : ∃ v, Cl w b 88 [.int .i64 s.N, v, .int .u32 s.last] ∧ XR w v s.l
  n : s.l.length ≤ 24
theorem Rv.lt {B : Nat} {w : World} {b : Nat} {s : Xt} (h : Rv B w b s) : b < w.heap.size := h.ex.elim fun _ hv => hv.1.lt
structure RvS (B : Nat) (w w' : World) (b : Nat) (s' : Xt) : Prop where
  r : Rv B w' b s'
  ap : Apart (fun k => k = b) w w'
theorem Rt.v {B : Nat} {w : World} {b : Nat} {s : Xt} (h : Rt B w b s) : Rv B w b s := ⟨h.g, h.ex, h.ok.len⟩
theorem Rv.rt {B : Nat} {w : World} {b : Nat} {s : Xt} (h : Rv B w b s) (ok : s.Ok) : Rt B w b s := ⟨h.g, h.ex, ok⟩
/-- The row is another one. -/
theorem RvS.put {B : Nat} {w V : World} {b : Nat} {s s' : Xt} {va v : Value} (h : Rv B w b s) (ap : Apart (fun k => k = b) w V) (hc : Cl V b 88 [.int .i64 s'.N, v, .int .u32 s'.last]) (hx : XR V va s'.l) (ok : s'.l.length ≤ 24) : RvS B w (V.setCell ⟨b, 1, none⟩ va) b s' :=
  ⟨⟨h.g, ⟨va, hc.set 1 va, hx.stay (Apart.at (X := fun k => k = b) V b 1 va rfl) (xr_ne hc)⟩, ok⟩, ap.trans (Apart.at (X := fun k => k = b) V b 1 va rfl)⟩
theorem vset_row {B : Nat} {w W1 Wa : World} {b : Nat} {s : Xt} {va : Value} {K : Nat} {x : Ex} (h : Rv B w b s) (hK : K < s.l.length) (ok : (s.l.set K x).length ≤ 24) (hb0 : Below w.heap.size w W1) (hz : W1.heap.size = w.heap.size + 1) (hx : Cl W1 w.heap.size 36 (exCs x))
    (hown : Wa.ownsRow (w.heap.size + 1) 36 6 va s.l.length (exsC s.l)) (hb : Below (w.heap.size + 1) W1 Wa) :
    ∃ g cap, va = .slice (some ⟨g, 0, none⟩) s.l.length cap ∧ SetF Wa g b w.heap.size K s.l[K] x ∧
      RvS B w (((((((Wa.setCell ⟨g, K * 6, none⟩ (.int .u32 x.id)).setCell ⟨g, K * 6 + 1, none⟩ (.int .i64 x.st)).setCell ⟨g, K * 6 + 2, none⟩ (.int .i64 x.ln)).setCell ⟨g, K * 6 + 3, none⟩ (.int .u8 x.ow)).setCell ⟨g, K * 6 + 4, none⟩ (.string x.nm)).setCell ⟨g, K * 6 + 5, none⟩ (.int .u8 x.rt.toNat)).setCell ⟨b, 1, none⟩ va) b { s with l := s.l.set K x } := by
  have hxr := XR.of_own hown
  obtain ⟨v, h1, h2⟩ := h.ex
  have hbW : Below w.heap.size w Wa := hb0.trans (hb.mono (by omega))
  have hc := h1.below hbW
  rcases hown.2 with ⟨_, h0⟩ | ⟨g, cap, cur, rfl, hg, hgb, hk, hm, _, htk⟩
  · omega
  · obtain ⟨a, cap2, e1, hel⟩ := hxr.cells
    cases e1
    obtain ⟨g2, e2, hE⟩ := hel K s.l[K] (List.getElem?_eq_getElem hK)
    cases e2
    have hgw : w.heap.size + 1 ≤ g := hg
    have hbl := h.lt
    refine ⟨g, cap, rfl, ⟨hE, fun j => Lib.frozen_of_heap hgb j, (hb.block _ (by omega)).trans hx, ⟨_, hc.cell 1⟩, hc.thaw 1, hc.lt, by omega⟩, ?_⟩
    have ap := (Apart.of_below (X := fun k => k = b) hbW).fillA (i := g) (j := K * 6) (a0 := .int .u32 x.id) (a1 := .int .i64 x.st) (a2 := .int .i64 x.ln) (a3 := .int .u8 x.ow) (a4 := .string x.nm) (a5 := .int .u8 x.rt.toNat) (fun k hk e => by omega)
    have hcf : Cl _ b 88 _ := (((((hc.other (d := g) (by omega) (K * 6) (.int .u32 x.id)).other (d := g) (by omega) (K * 6 + 1) (.int .i64 x.st)).other (d := g) (by omega) (K * 6 + 2) (.int .i64 x.ln)).other (d := g) (by omega) (K * 6 + 3) (.int .u8 x.ow)).other (d := g) (by omega) (K * 6 + 4) (.string x.nm)).other (d := g) (by omega) (K * 6 + 5) (.int .u8 x.rt.toNat)
    exact RvS.put h ap hcf (hxr.fill rfl hK) ok
set_option maxHeartbeats 4000000 in
theorem vset_any (B b : Nat) (s : Xt) (K : Nat) (x : Ex) (w : World) (h : Rv B w b s) (hK : K < s.l.length) (ok : (s.l.set K x).length ≤ 24) :
    Calls Tryd.prog 69 #[.pointer (some ⟨b, 0, none⟩), .int .i64 K, exV x] w fun e w' => (∃ v, e = .returned v) ∧ RvS B w w' b { s with l := s.l.set K x } := by
  obtain ⟨v, h1, h2⟩ := h.ex
  have hlen := h.n
  obtain ⟨a, cap, hv, _⟩ := h2.cells
  subst hv
  have hX0 : Below w.heap.size w (w.alloc (.cells (exCs x).toArray 36)) := below_new w _
  have c1 := (h1.below hX0).cell 1
  simp only [List.getElem?_cons_zero, List.getElem?_cons_succ] at c1
  have hb := h1.lt
  have hbx := Cl.new w 36 (exCs x)
  rw [exs_agg] at hX0 c1 hbx
  have hz1 : (w.alloc (.cells #[.int .u32 x.id, .int .i64 x.st, .int .i64 x.ln, .int .u8 x.ow, .string x.nm, .int .u8 x.rt.toNat] 36)).heap.size = w.heap.size + 1 := by simp
  have hO := own_noneX (w.alloc (.cells #[.int .u32 x.id, .int .i64 x.st, .int .i64 x.ln, .int .u8 x.ow, .string x.nm, .int .u8 x.rt.toNat] 36)) (w.heap.size + 1) (by simp)
  have hB := below_new (w.alloc (.cells #[.int .u32 x.id, .int .i64 x.st, .int .i64 x.ln, .int .u8 x.ow, .string x.nm, .int .u8 x.rt.toNat] 36)) (.cells #[] 36)
  have hX2 := ((XL.of h2).below hX0).below (below_new _ (.cells #[] 36))
  have hs2 : w.heap.size + 1 ≤ ((w.alloc (.cells #[.int .u32 x.id, .int .i64 x.st, .int .i64 x.ln, .int .u8 x.ow, .string x.nm, .int .u8 x.rt.toNat] 36)).alloc (.cells #[] 36)).heap.size := by simp
  rw [hz1] at hO hB
  obtain ⟨n, hn⟩ : ∃ n, s.l.length = n := ⟨_, rfl⟩
  have HP : Hid3 (∀ va Wa, Wa.ownsRow (w.heap.size + 1) 36 6 va ([] ++ s.l).length (exsC ([] ++ s.l)) → ((w.alloc (.cells #[.int .u32 x.id, .int .i64 x.st, .int .i64 x.ln, .int .u8 x.ow, .string x.nm, .int .u8 x.rt.toNat] 36)).alloc (.cells #[] 36)).grownBy Wa (Value.ownBlock (.slice (some ⟨w.heap.size + 1, 0, none⟩) 0 0)) →
      ∃ g cap, va = .slice (some ⟨g, 0, none⟩) n cap ∧ SetF Wa g b w.heap.size K s.l[K] x ∧ RvS B w (((((((Wa.setCell ⟨g, K * 6, none⟩ (.int .u32 x.id)).setCell ⟨g, K * 6 + 1, none⟩ (.int .i64 x.st)).setCell ⟨g, K * 6 + 2, none⟩ (.int .i64 x.ln)).setCell ⟨g, K * 6 + 3, none⟩ (.int .u8 x.ow)).setCell ⟨g, K * 6 + 4, none⟩ (.string x.nm)).setCell ⟨g, K * 6 + 5, none⟩ (.int .u8 x.rt.toNat)).setCell ⟨b, 1, none⟩ va) b { s with l := s.l.set K x }) := ⟨fun va Wa ho hg => by
    rw [← hn]
    exact vset_row h hK ok hX0 hz1 hbx ho (hB.grown hg hs2 (fun g e => by have e' : w.heap.size + 1 = g := Option.some.inj e; omega))⟩
  have HX2 := Hid3.mk hX2
  have HO := Hid3.mk hO
  have HS2 := Hid3.mk hs2
  have HN := Hid3.mk hn
  have HLN : Hid3 (([] : List Ex).length + s.l.length ≤ 2000) := ⟨by simp; omega⟩
  rw [hn] at HX2 c1 hlen
  have hKz : (K : Int) < (n : Int) := by omega
  generalize s.l[K] = y at *
  clear h h1 h2 hn hX0 hbx ok hO hB hX2 hs2 hK
  unfold exV
  go_enter Tryd.func69, Tryd.ntmps69
  go_wp2_with (at_builtin; refine wpList_appX rfl _ _ rfl (w.heap.size + 1) (.slice (some ⟨w.heap.size + 1, 0, none⟩) 0 0) [] (.slice a n cap) s.l rfl rfl HO.out HX2.out HLN.out HS2.out ?_; intro va Wa owna growa ata; obtain ⟨g, cap2, rfl, hF, hR⟩ := HP.out va Wa owna growa; have HR := Hid3.mk hR; have e0 := hF.e.e0; have e1 := hF.e.e1; have e2 := hF.e.e2; have e3 := hF.e.e3; have e4 := hF.e.e4; have e5 := hF.e.e5; have hgl := hF.e.l; have f0 := hF.fz (K * 6); have f1 := hF.fz (K * 6 + 1); have f2 := hF.fz (K * 6 + 2); have f3 := hF.fz (K * 6 + 3); have f4 := hF.fz (K * 6 + 4); have f5 := hF.fz (K * 6 + 5); have x0 := hF.bx.cell 0; have x1 := hF.bx.cell 1; have x2 := hF.bx.cell 2; have x3 := hF.bx.cell 3; have x4 := hF.bx.cell 4; have x5 := hF.bx.cell 5; simp only [List.getElem?_cons_zero, List.getElem?_cons_succ, exCs] at x0 x1 x2 x3 x4 x5; have hxl := hF.bx.lt; obtain ⟨u1, d1⟩ := hF.c1; have fb := hF.fb; have lb := hF.lb; have hne := hF.ne; have hne2 := hF.ne.symm; clear owna growa ata hF hR c1)
  go_end0
  exact ⟨⟨_, rfl⟩, HR.out⟩
theorem vdrop_b {B : Nat} {w Wb : World} {b : Nat} {s : Xt} {vb : Value} {l : List Ex} (h : Rv B w b s) (hW : Below w.heap.size w Wb) (own : Wb.ownsRow w.heap.size 36 6 vb l.length (exsC l)) (ok : l.length ≤ 24) : RvS B w (Wb.setCell ⟨b, 1, none⟩ vb) b { s with l := l } ∧ (∃ x, Wb.cell? ⟨b, 1, none⟩ = some x) ∧ Wb.frozen? ⟨b, 1, none⟩ = false ∧ b < Wb.heap.size := by
  obtain ⟨v0, h1, h2⟩ := h.ex
  have hc := h1.below hW
  exact ⟨RvS.put h (Apart.of_below hW) hc (XR.of_own own) ok, ⟨_, hc.cell 1⟩, hc.thaw 1, hc.lt⟩
set_option maxHeartbeats 4000000 in
theorem vdrop_any (B b : Nat) (s : Xt) (pre post : List Ex) (x : Ex) (w : World) (h : Rv B w b s) (hl : s.l = pre ++ x :: post) :
    Calls Tryd.prog 70 #[.pointer (some ⟨b, 0, none⟩), .int .i64 pre.length] w fun e w' => (∃ v, e = .returned v) ∧ RvS B w w' b { s with l := pre ++ post } := by
  have ok : (pre ++ post).length ≤ 24 := by
    have := h.n
    rw [hl] at this
    simp at this ⊢
    omega
  have hlen := h.n
  obtain ⟨v, h1, h2⟩ := h.ex
  obtain ⟨a, cap, hv, hel⟩ := h2.cells
  subst hv
  obtain ⟨g, hga, hE⟩ := hel pre.length x (by rw [hl]; simp)
  subst hga
  have hcap : s.l.length ≤ cap := by
    rcases h2 with ⟨h3, _⟩ | ⟨g', cap', cur, h3, _, h5, _⟩
    · cases h3
    · cases h3; exact h5
  have hll : s.l.length = pre.length + (post.length + 1) := by rw [hl, List.length_append, List.length_cons]
  have h2' := h2
  rw [hl] at h2'
  obtain ⟨K, hK⟩ : ∃ K, pre.length = K := ⟨_, rfl⟩
  obtain ⟨P, hP⟩ : ∃ P, post.length = P := ⟨_, rfl⟩
  have c1 := h1.cell 1
  simp only [List.getElem?_cons_zero, List.getElem?_cons_succ] at c1
  rw [hll, hK, hP] at c1 hcap
  rw [hll, hK, hP] at hlen
  have hb := h1.lt
  have HX1 : Hid3 (∀ c, XL w (.slice (some ⟨g, 0, none⟩) K c) pre) := ⟨fun c => by rw [← hK]; exact h2'.head⟩
  have HX2 : Hid3 (∀ c, XL w (.slice (some ⟨g, (K + 1) * 6, none⟩) P c) post) := ⟨fun c => by rw [← hK, ← hP]; exact h2'.tail⟩
  have HF : Hid3 (∀ vb Wb, Below w.heap.size w Wb → Wb.ownsRow w.heap.size 36 6 vb ([] ++ pre ++ post).length (exsC ([] ++ pre ++ post)) → RvS B w (Wb.setCell ⟨b, 1, none⟩ vb) b { s with l := pre ++ post } ∧ (∃ x, Wb.cell? ⟨b, 1, none⟩ = some x) ∧ Wb.frozen? ⟨b, 1, none⟩ = false ∧ b < Wb.heap.size) := ⟨fun vb Wb hW ow => vdrop_b h hW ow ok⟩
  have hL1 : ([] : List Ex).length + pre.length ≤ 2000 := by rw [List.length_nil]; omega
  have hL2 : ([] ++ pre).length + post.length ≤ 2000 := by rw [List.nil_append]; omega
  have hX1 : Below w.heap.size w (w.alloc (.cells #[] 36)).drew := ((Below.refl _ w).alloc (Nat.le_refl _) _).drew
  have HB1 := Hid3.mk hX1
  have HBs : Hid3 (w.heap.size ≤ (w.alloc (.cells #[] 36)).drew.heap.size) := ⟨hX1.size⟩
  have H0 : Hid3 ((w.alloc (.cells #[] 36)).drew.ownsRow w.heap.size 36 6 (.slice (some ⟨w.heap.size, 0, none⟩) 0 0) ([] : List Ex).length (exsC [])) := ⟨own_noneX w w.heap.size (Nat.le_refl _)⟩
  have HC1 : Hid3 (∀ W', Below w.heap.size w W' → W'.cell? ⟨b, 1, none⟩ = some (.slice (some ⟨g, 0, none⟩) (K + (P + 1)) cap)) := ⟨fun W' hW => (hW.cell (p := ⟨b, 1, none⟩) hb).trans c1⟩
  have HL1 := Hid3.mk hL1
  have HL2 := Hid3.mk hL2
  have HLN : Hid3 (([] ++ pre ++ post).length = K + P) := ⟨by rw [List.nil_append, List.length_append, hK, hP]⟩
  have z1 : (w.alloc (.cells #[] 36)).cell? ⟨b, 1, none⟩ = some (.slice (some ⟨g, 0, none⟩) (K + (P + 1)) cap) := HC1.out _ (below_new w _)
  rw [hK]
  have hwk : IntKind.i64.wrap ((K : Int) + 1) = (K : Int) + 1 := by rw [IntKind.wrap_i64]; omega
  have htn : ((K : Int) + 1).toNat = K + 1 := by omega
  have hk0 : (0 : Int) ≤ (K : Int) + 1 := by omega
  have HPE : Hid3 (P = 0 → XL w (.slice (some ⟨g, 0, none⟩) 0 0) post) := ⟨fun e => by
    have : post = [] := List.eq_nil_of_length_eq_zero (hP.trans e)
    subst this
    exact .inr ⟨_, 0, rfl, fun j u hu => by cases hu⟩⟩
  clear hl h h1 h2 hel hE h2' hll hK hP hL1 hL2 hX1 ok
  by_cases hc : cap = K + 1
  · subst hc
    have hP0 : P = 0 := by omega
    subst hP0
    have hk3 : (K : Int) ≤ (K : Int) + 1 := by omega
    have hk4 : (((K + (0 + 1) : Nat)) : Int) ≤ (K : Int) + 1 := by omega
    have HE0 : Hid3 (XL w (.slice (some ⟨g, 0, none⟩) 0 0) post) := ⟨HPE.out rfl⟩
    go_enter Tryd.func70, Tryd.ntmps70
    go_wp2_with fail
    go_region_law ((first
      | (refine step_appX (.tmp 0) (.pointer (some ⟨b, 0, none⟩)) (by rfl) (by rfl) _ _ (by rfl) w.heap.size (.slice (some ⟨w.heap.size, 0, none⟩) 0 0) [] (.slice (some ⟨g, 0, none⟩) K _) pre (by rfl) (by rfl) (by exact H0.out) (by exact (HX1.out _).below HB1.out) (by exact HL1.out) (by exact HBs.out) ?_; intro va Wa owna growa ata; have HA : Hid3 (RA w.heap.size w Wa va pre) := ⟨RA.mk' HB1.out (Nat.le_refl _) owna growa ata⟩; have z2 := HC1.out Wa HA.out.below; clear owna growa ata)
      | (refine step_appX (.tmp 0) (.pointer (some ⟨b, 0, none⟩)) (by rfl) (by rfl) _ _ (by rfl) w.heap.size va ([] ++ pre) (.slice (some ⟨g, 0, none⟩) 0 0) post (by rfl) (by rfl) (by exact HA.out.own) (by exact HE0.out.below HA.out.below) (by exact HL2.out) (by have := HA.out.below.size; omega) ?_; intro vb Wb ownb growb atb; have HQ := Hid3.mk (HF.out vb Wb (RB.mk' HA.out (Below.refl _ _) growb) ownb); obtain ⟨u54, c4⟩ := HQ.out.2.1; have f4 := HQ.out.2.2.1; have l4 := HQ.out.2.2.2; obtain ⟨a', cap', e'⟩ := slice_ofX ownb; rw [HLN.out] at e'; clear ownb growb atb; subst e')))
    all_goals
      go_wp2
      go_end0
      exact ⟨⟨_, rfl⟩, HQ.out.1⟩
  · have hcn : ¬ cap - (K + 1) = 0 := by omega
    have hcn2 : (K : Int) + 1 ≤ (cap : Int) := by omega
    have hcn3 : (K : Int) ≤ (cap : Int) := by omega
    have hcn4 : (K : Int) + 1 ≤ ((K + (P + 1) : Nat) : Int) := by omega
    have hcn5 : K + (P + 1) - (K + 1) = P := by omega
    have hcn6 : (((K + (P + 1) : Nat)) : Int) - ((K : Int) + 1) = (P : Int) := by omega
    have hcn8 : (1 : Int) ≤ (P : Int) + 1 := by omega
    have hcn7 : (((K + (P + 1) : Nat)) : Int) ≤ (cap : Int) := by omega
    have HE0 : Hid3 (∀ c, XL w (.slice (some ⟨g, (K + 1) * 6, none⟩) P c) post) := HX2
    go_enter Tryd.func70, Tryd.ntmps70
    go_wp2_with fail
    go_region_law ((first
      | (refine step_appX (.tmp 0) (.pointer (some ⟨b, 0, none⟩)) (by rfl) (by rfl) _ _ (by rfl) w.heap.size (.slice (some ⟨w.heap.size, 0, none⟩) 0 0) [] (.slice (some ⟨g, 0, none⟩) K _) pre (by rfl) (by rfl) (by exact H0.out) (by exact (HX1.out _).below HB1.out) (by exact HL1.out) (by exact HBs.out) ?_; intro va Wa owna growa ata; have HA : Hid3 (RA w.heap.size w Wa va pre) := ⟨RA.mk' HB1.out (Nat.le_refl _) owna growa ata⟩; have z2 := HC1.out Wa HA.out.below; clear owna growa ata)
      | (refine step_appX (.tmp 0) (.pointer (some ⟨b, 0, none⟩)) (by rfl) (by rfl) _ _ (by rfl) w.heap.size va ([] ++ pre) (.slice (some ⟨g, (K + 1) * 6, none⟩) P _) post (by rfl) (by rfl) (by exact HA.out.own) (by exact (HE0.out _).below HA.out.below) (by exact HL2.out) (by have := HA.out.below.size; omega) ?_; intro vb Wb ownb growb atb; have HQ := Hid3.mk (HF.out vb Wb (RB.mk' HA.out (Below.refl _ _) growb) ownb); obtain ⟨u54, c4⟩ := HQ.out.2.1; have f4 := HQ.out.2.2.1; have l4 := HQ.out.2.2.2; obtain ⟨a', cap', e'⟩ := slice_ofX ownb; rw [HLN.out] at e'; clear ownb growb atb; subst e')))
    all_goals
      go_wp2
      go_end0
      exact ⟨⟨_, rfl⟩, HQ.out.1⟩
end Go.Proofs.YtmepnnlmhlndmaaDoor
