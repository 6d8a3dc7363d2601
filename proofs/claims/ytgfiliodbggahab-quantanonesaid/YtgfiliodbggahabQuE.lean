/- The places of an environment. -/
import Derived.Test.YtgfiliodbggahabQuD
import Derived.Lib.SmallJoins
namespace Go.Proofs.Ytgfiliodbggahab
open Go.RowKit Go.Shelf Go.Maps
set_option linter.unusedVariables false
set_option maxRecDepth 100000
attribute [local go_sem] Oper.semAt_some

theorem infoI : (Try.prog.info? 3).map (fun i => (i.zero, i.size, i.bytes)) = some (some (.int .i64 0), 1, 8) := by kernel_rfl
def pcL (env : Int) (pre : List Pe) : List Nat := (pre.filter (fun x => (x.2.1 : Int) == env)).map (fun x => x.1.1)
def natV (n : Nat) : Value := .int .i64 n
theorem box_kept {W W' : World} {row : Option Nat} {B : Nat} {t : TypeId} {v : Value} (h : Boxed W B t v) (hg : W.grownBy W' row) (hr : ∀ r, row = some r → ∃ o : Obj, W.heap[r]? = some o ∧ o.isCells = false) : Boxed W' B t v :=
  h.kept hg (fun e => by
    obtain ⟨o, ho, hc⟩ := hr B e.symm
    have h' : W.heap[B]? = some (.cells #[v] t (0, 0)) := h
    rw [h'] at ho
    cases ho
    cases hc)
theorem row_block {W : World} {base : Nat} {e : TypeId} {v : Value} {k : Nat} {xs : List Value} (h : W.ownsRow base e 1 v k xs) {B : Nat} (hB : B < base) : some B ≠ v.ownBlock := by
  rcases h.2 with ⟨rfl, _⟩ | ⟨g, cap, cur, rfl, hb, _⟩
  · simp [Value.ownBlock]
  · simp [Value.ownBlock]; omega
theorem kpC_of {n bv bf vb pb : Nat} {w W W' : World} {tv tf : TypeId} {xv xf : Value} (hb : Below n w W) (hb' : Below n w W') (hk : KeepsWalks W W') (hv : vb < n) (hp : pb < n) (b1 : Boxed W bv tv xv) (b2 : Boxed W' bv tv xv) (b3 : Boxed W bf tf xf) (b4 : Boxed W' bf tf xf) : KpC (XA bv bf vb pb) W W' := by
  refine ⟨hk, fun a v hx h => ?_⟩
  rcases hx with (rfl | rfl) | (rfl | ⟨j, rfl⟩)
  · rw [b1.cell] at h; cases h; exact b2.cell
  · rw [b3.cell] at h; cases h; exact b4.cell
  · rw [hb'.cell (p := ⟨vb, 0, none⟩) hv, ← hb.cell (p := ⟨vb, 0, none⟩) hv]; exact h
  · rw [hb'.cell (p := ⟨pb, j, none⟩) hp, ← hb.cell (p := ⟨pb, j, none⟩) hp]; exact h

set_option maxHeartbeats 1000000 in
theorem places_in (vb pb : Nat) (q : Qs) (env : Int) (w : World) (h : VecC w vb pb q) (n : Nat) (hn : 5 ≤ n) :
    CallsIn Fence.wide n Try.prog 12 #[.pointer (some ⟨vb, 0, none⟩), .int .u8 env] w fun e W' => ∃ v, e = .returned v ∧ W'.ownsRow w.heap.size 3 1 v (pcL env (tkL q.pl 0 8)).length ((pcL env (tkL q.pl 0 8)).map natV) ∧ Below w.heap.size w W' := by
  have hw1 : 1 ≤ n := by omega
  have hro : Fence.wide.round = none := rfl
  obtain ⟨i0, hi, hz0, hz1, hz2⟩ := info_parts infoI
  have hlv := h.lv
  have hlp := h.lp
  refine callsIn_of_wp_marks Try.func12 rfl trivial ?_ rfl
  simp only [Try.ntmps12, List.size_toArray, List.length_cons, List.length_nil, Nat.reduceAdd, Nat.reduceSub, Array.replicate_succ, Array.replicate_zero, List.push_toArray, List.append_toArray, List.nil_append, List.cons_append]
  gi_wp2_with (refine ⟨trivial, ?_⟩; gi_at_call 16; refine (tk_in (n - 1) _ _ _).mono ?_; rintro e w' ⟨rfl, rfl⟩)
  have bE := Boxed.new w 5 (.int .u8 env)
  have bL := Boxed.new (w.alloc (.cells #[.int .u8 env] 5)) 34 (.slice none 0 0)
  have bV := Boxed.new ((w.alloc (.cells #[.int .u8 env] 5)).alloc (.cells #[.slice none 0 0] 34)) 24 (.pointer (some ⟨vb, 0, none⟩))
  have bF := Boxed.new (((w.alloc (.cells #[.int .u8 env] 5)).alloc (.cells #[.slice none 0 0] 34)).alloc (.cells #[.pointer (some ⟨vb, 0, none⟩)] 24)) 3 (.int .i64 0)
  simp only [World.size_alloc] at bL bV bF
  have hB0 : Below w.heap.size w ((((w.alloc (.cells #[.int .u8 env] 5)).alloc (.cells #[.slice none 0 0] 34)).alloc (.cells #[.pointer (some ⟨vb, 0, none⟩)] 24)).alloc (.cells #[.int .i64 0] 3)) := ((((Below.refl _ w).alloc (Nat.le_refl _) _).alloc (by simp) _).alloc (by simp; omega) _).alloc (by simp; omega) _
  have bE0 := ((bE.alloc (.cells #[.slice none 0 0] 34)).alloc (.cells #[.pointer (some ⟨vb, 0, none⟩)] 24)).alloc (.cells #[.int .i64 0] 3)
  have bL0 := (bL.alloc (.cells #[.pointer (some ⟨vb, 0, none⟩)] 24)).alloc (.cells #[.int .i64 0] 3)
  have bV0 := bV.alloc (.cells #[.int .i64 0] 3)
  have hsz : ((((w.alloc (.cells #[.int .u8 env] 5)).alloc (.cells #[.slice none 0 0] 34)).alloc (.cells #[.pointer (some ⟨vb, 0, none⟩)] 24)).alloc (.cells #[.int .i64 0] 3)).heap.size = w.heap.size + 1 + 1 + 1 + 1 := by simp
  clear bE bL bV
  generalize ((((w.alloc (.cells #[.int .u8 env] 5)).alloc (.cells #[.slice none 0 0] 34)).alloc (.cells #[.pointer (some ⟨vb, 0, none⟩)] 24)).alloc (.cells #[.int .i64 0] 3)) = W0 at *
  have hcv : TkC W0 (w.heap.size + 1 + 1) (w.heap.size + 1 + 1 + 1) vb pb 0 q.pl := by
    refine ⟨bV0.cell, bF.cell, ?_, fun k => ?_, fun k => ?_⟩
    · exact (hB0.cell (p := ⟨vb, 0, none⟩) hlv).trans h.c0
    · exact (hB0.cell (p := ⟨pb, k.1 * 2, none⟩) hlp).trans (h.h0 k)
    · exact (hB0.cell (p := ⟨pb, k.1 * 2 + 1, none⟩) hlp).trans (h.h1 k)
  clear h
  refine wpIn_rangeFunc_ownG hro hw1 (gf := 20) (lb := #[.pointer (some ⟨w.heap.size + 1 + 1, 0, none⟩), .pointer (some ⟨w.heap.size + 1 + 1 + 1, 0, none⟩)]) rfl trivial (enters_of Try.func20 (by kernel_rfl) rfl)
    (tk_stops (n - 1) (by omega) (w.heap.size + 1 + 1) (w.heap.size + 1 + 1 + 1) vb pb 0 (by omega) q.pl _ hcv) kpC_t kpC_b (Below.refl _ _) (fun _ => rfl)
    (fun pre W => ((∃ v, Boxed W (w.heap.size + 1) 34 v ∧ W.ownsRow (w.heap.size + 1 + 1 + 1 + 1) 3 1 v (pcL env pre).length ((pcL env pre).map natV) ∧ pre.length ≤ 8) ∧ (Boxed W w.heap.size 5 (.int .u8 env) ∧ Boxed W (w.heap.size + 1 + 1) 24 (.pointer (some ⟨vb, 0, none⟩)) ∧ Boxed W (w.heap.size + 1 + 1 + 1) 3 (.int .i64 0))) ∧ Below w.heap.size w W)
    (fun _ _ _ => False)
    (OwnFrom.and (OwnFrom.and (Own.from (holdsRow_own (w.heap.size + 1 + 1 + 1 + 1) (w.heap.size + 1) 34 3 1 (fun pre : List Pe => (pcL env pre).length) (fun pre : List Pe => (pcL env pre).map natV) (fun pre _ => pre.length ≤ 8)) _) (Own.from (fun s A B row hs hg hr => ⟨box_kept hs.1 hg hr, box_kept hs.2.1 hg hr, box_kept hs.2.2 hg hr⟩) _)) (ownFrom_below (Nat.le_refl _) (by omega)))
    (fun c => Own.from (fun _ _ _ _ h _ _ => h) _)
    ⟨⟨⟨_, bL0, World.ownsRow_nil _ _ _ _, by simp⟩, bE0, bV0, bF⟩, hB0⟩
    (fun x => { tmps := #[.pointer (some ⟨vb, 0, none⟩), .int .u8 env, undef, .pointer (some ⟨w.heap.size, 0, none⟩), .slice none 0 0, .pointer (some ⟨w.heap.size + 1, 0, none⟩), .int .i64 x.1.1, .int .u8 x.2.1, .pointer (some ⟨vb, 0, none⟩), .func (.func 20) #[] #[.pointer (some ⟨w.heap.size + 1 + 1, 0, none⟩), .pointer (some ⟨w.heap.size + 1 + 1 + 1, 0, none⟩)], .int .i64 x.1.1, .int .u8 x.2.1, undef, undef, undef, undef, undef, undef, undef, undef], defers := [] }) ?assign ?body ?done ?stop
  case assign =>
    intro l x W K hK
    simp only [peV]
    gi_wp2
    exact hK
  case body =>
    rintro l pre x W ⟨⟨⟨v, hv, hrow, hlen⟩, hE, hV, hF⟩, hB⟩ hlt
    obtain ⟨a0, cap0, hvf⟩ : ∃ a cap, v = .slice a (pcL env pre).length cap := by
      rcases hrow.2 with ⟨hv0, hk0⟩ | ⟨g, cap, cur, hv0, _⟩
      · exact ⟨none, 0, by rw [hk0]; exact hv0⟩
      · exact ⟨_, _, hv0⟩
    subst hvf
    have hcv := hv.cell
    have hcE := hE.cell
    have hfv := hv.frozen
    have hpl : (pcL env pre).length ≤ 8 := by unfold pcL; rw [List.length_map]; exact Nat.le_trans (List.length_filter_le _ _) hlen
    by_cases he : (x.2.1 : Int) = env
    · have heb : ((x.2.1 : Int) == env) = true := by rw [beq_iff_eq]; exact he
      have hnx : pcL env (pre ++ [x]) = pcL env pre ++ [x.1.1] := by simp [pcL, he]
      have hsz1 : w.heap.size + 1 + 1 + 1 + 1 ≤ W.heap.size := hF.lt
      obtain ⟨⟨xi, hxi⟩, ⟨xe, hxe⟩⟩ := x
      simp only at he heb hnx
      gi_wp2_with (gi_at_builtin; refine wpListIn_append_own _ rfl _ _ 34 rfl (w.heap.size + 1 + 1 + 1 + 1) 3 i0 (.int .i64 0) 1 8 Try.underlying34 hi hz0 hz1 hz2 rfl (by decide) _ _ _ rfl (hrow.alloc _) ⟨W.heap.size, 0, none⟩ 1 1 [natV xi] rfl rfl (cell_one_new _ _ _) (by simp [Value.oneCell', natV]) (by unfold maxLen; omega) (by omega) (by simp; omega) ?_; intro v' w1 hown' hgrow _; obtain ⟨g', cap', rfl⟩ := ownsRow_succ hown'; have hv1' := (hv.alloc _).kept hgrow (row_block hrow (by omega)); have hv1c := hv1'.cell; have hv1f := hv1'.frozen)
      obtain ⟨_, hA2, _, hA4, hA5⟩ := Boxed.appended (n₀ := w.heap.size) hv (by decide) (Go.Joins.ownsRow_le hrow (by omega)) (by omega) (by omega) (Go.Joins.ownsRow_le hown' (by omega)) hgrow
      have hrn : ∀ B, B < w.heap.size + 1 + 1 + 1 + 1 → some B ≠ (Value.slice a0 (pcL env pre).length cap0).ownBlock := fun B hb => row_block hrow hb
      have hE2 := (((hE.alloc _).kept hgrow (hrn _ (by omega))).other (B' := w.heap.size + 1) (by omega) (.slice (some ⟨g', 0, none⟩) ((pcL env pre).length + 1) cap'))
      have hV2 := (((hV.alloc _).kept hgrow (hrn _ (by omega))).other (B' := w.heap.size + 1) (by omega) (.slice (some ⟨g', 0, none⟩) ((pcL env pre).length + 1) cap'))
      have hF2 := (((hF.alloc _).kept hgrow (hrn _ (by omega))).other (B' := w.heap.size + 1) (by omega) (.slice (some ⟨g', 0, none⟩) ((pcL env pre).length + 1) cap'))
      refine ⟨hA4.from _, kpC_of hB (hB.trans hA5) hA4.walks hlv hlp hV hV2 hF hF2, ⟨⟨_, hA2, ?_, by simp; omega⟩, hE2, hV2, hF2⟩, hB.trans hA5⟩
      rw [hnx, List.length_append, List.map_append]
      exact hown'.kept (grownBy_setCell' w1 _ _) (.inr (row_block hown' (by omega)).symm)
    · have heb : ((x.2.1 : Int) == env) = false := by rw [beq_eq_false_iff_ne]; exact he
      have hnx : pcL env (pre ++ [x]) = pcL env pre := by simp [pcL, he]
      gi_wp2
      refine ⟨KeepsFrom.refl _ _, kpC_r _, ⟨⟨_, hv, ?_, by simp; omega⟩, hE, hV, hF⟩, hB⟩
      rw [hnx]
      exact hrow
  case done =>
    rintro D ys W hD rfl ⟨⟨⟨v, hv, hrow, _⟩, hE, hV, hF⟩, hB⟩ hK
    have hcv := hv.cell
    gi_wp2
    have hrow2 := ownsRow_putObj hrow (.deferred none) hK rfl
    refine ⟨by simp, .inl ⟨_, _, rfl, run_takeDeferred hK, ?_⟩⟩
    refine ⟨v, by simp [results, Try.f12, go_sem], v, rfl, Go.Joins.ownsRow_le hrow2 (by omega), hB.trans (belowK_b (w := w) (Nat.le_refl _) _ D _ _ (by omega) hK rfl rfl)⟩
  case stop =>
    rintro D c pre W hD hpre hf hK
    exact hf.elim
theorem places_any (vb pb : Nat) (q : Qs) (env : Int) (w : World) (h : VecC w vb pb q) :
    Calls Try.prog 12 #[.pointer (some ⟨vb, 0, none⟩), .int .u8 env] w fun e W' => ∃ v, e = .returned v ∧ W'.ownsRow w.heap.size 3 1 v (pcL env (tkL q.pl 0 8)).length ((pcL env (tkL q.pl 0 8)).map natV) ∧ Below w.heap.size w W' :=
  (callsIn_wide (n := 5)).1 (places_in vb pb q env w h 5 (by omega))
end Go.Proofs.Ytgfiliodbggahab
