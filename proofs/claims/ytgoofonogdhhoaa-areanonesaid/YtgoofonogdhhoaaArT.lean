/- The document's Return. -/
import Derived.Test.YtgoofonogdhhoaaArS
namespace Go.Proofs.Ytgoofonogdhhoaa
open Go.RowKit Go.Maps
set_option linter.unusedVariables false
set_option maxRecDepth 100000
set_option maxHeartbeats 1000000 in
theorem rret_none (B b : Nat) (q : Ar) (w : World) (h : Rr B w b q) (hk : q.kp = []) : Calls Try.prog 42 #[.pointer (some ⟨b, 0, none⟩)] w fun r w' => r = .returned (.int .i64 9) ∧ w' = w := by
  have c1 := h.k.cd
  obtain ⟨a0, cap0, c2⟩ := h.k.ck
  rw [hk] at c2
  have hl := h.lt
  generalize (!q.al) = z at *
  clear h hk
  cases z
  all_goals (
    go_enter Try.func42, Try.ntmps42
    go_wp2
    go_ret
    exact ⟨rfl, rfl⟩)
theorem rCs_k (v x : Value) (q : Ar) (r : List Rg) : (rCs v q).set 9 x = rCs x { q with kp := r } := rfl
set_option maxHeartbeats 4000000 in
theorem rret_some (B b : Nat) (q : Ar) (r : List Rg) (t : Rg) (w : World) (h : Rr B w b q) (hk : q.kp = r ++ [t]) : Calls Try.prog 42 #[.pointer (some ⟨b, 0, none⟩)] w fun e w' => e = .returned (.int .i64 0) ∧ RStp B w w' b (popQ r t q) := by
  have hr4 : r.length < 4 := by have := h.ok.1; rw [hk] at this; simp at this; omega
  have hal : q.al = true := by
    cases e : q.al with
    | true => rfl
    | false =>
      have := (h.ok.2 e).2
      rw [hk] at this
      cases r <;> cases this
  have hok : (popQ r t q).Ok := ⟨by show r.length ≤ 4; omega, fun e => by rw [show q.al = false from e] at hal; cases hal⟩
  have hok1 : ({ q with s := t } : Ar).Ok := ⟨h.ok.1, fun e => by rw [show q.al = false from e] at hal; cases hal⟩
  have c1 := h.k.cd
  rw [hal] at c1
  have hl := h.lt
  have hg := h.g
  have H0 := Hid3.mk h
  obtain ⟨v0, hc, ho⟩ := h.c
  rw [hk] at ho
  have hol := ho
  rcases ho.2 with ⟨_, h0⟩ | ⟨g, cap, cur, rfl, hgB, hgb, hcap, hmx, hcs, htk⟩
  · simp at h0
  have hlen : (r ++ [t]).length = r.length + 1 := by simp
  rw [hlen] at hol hcap
  have c2 : w.cell? ⟨b, 9, none⟩ = some (.slice (some ⟨g, 0, none⟩) (r.length + 1) cap) := by
    have := hc.cell 9
    rw [show (rCs (.slice (some ⟨g, 0, none⟩) (r ++ [t]).length cap) q)[9]? = some (.slice (some ⟨g, 0, none⟩) (r ++ [t]).length cap) from rfl, hlen] at this
    exact this
  -- the registers that were kept last
  have hL : Hid3 ((Instr.loadAt 26 (.pointer (some ⟨g, r.length * 9, none⟩))).run Try.prog w.drew = .ok (.agg t.vs.toArray) w.drew) := ⟨by
    have hcl : Cl w.drew g 26 cur.toList := by
      show w.heap[g]? = _
      rw [hgb]
    refine loads hcl 26 (r.length * 9) 9 t.vs (aggR _) sizR ?_ rfl
    have e : cur.toList.take ((r ++ [t]).length * 9) = rgsCs r ++ t.vs := by rw [htk, rgsCs_append]; simp [rgsCs]
    have e2 : (cur.toList.drop (r.length * 9)).take 9 = ((cur.toList.take ((r ++ [t]).length * 9)).drop (r.length * 9)).take 9 := by
      rw [List.drop_take, List.take_take, hlen]
      congr 1
      omega
    rw [e2, e, List.drop_append_of_le_length (by rw [rgsCs_len]; exact Nat.le_refl _), List.drop_eq_nil_of_le (by rw [rgsCs_len]; exact Nat.le_refl _)]
    rfl⟩
  have hcd := hc.drew
  have hs := stores hcd 26 0 9 t.vs sizR rfl (vs_one t) (by show 0 + 9 ≤ 21; omega)
  rw [show 0 + 9 = 9 from rfl, rCs_s] at hs
  have HSt := Hid3.mk hs
  have HS1 : Hid3 (RStp B w (w.drew.setRow b (rCs (.slice (some ⟨g, 0, none⟩) (r ++ [t]).length cap) { q with s := t }).toArray) b { q with s := t }) := ⟨RStp.pre (below_drew w) (RStp.of (q' := { q with s := t }) (H0.out.below (below_drew w)) (hcd.row _) (by
    have := own_below ho (below_drew w)
    rw [show ({ q with s := t } : Ar).kp = r ++ [t] from hk]
    exact this) (Apart.row _ b _) hok1)⟩
  have HC1 : Hid3 (Cl (w.drew.setRow b (rCs (.slice (some ⟨g, 0, none⟩) (r ++ [t]).length cap) { q with s := t }).toArray) b 74 (rCs (.slice (some ⟨g, 0, none⟩) (r ++ [t]).length cap) { q with s := t })) := ⟨hcd.row _⟩
  have HO1 : Hid3 ((w.drew.setRow b (rCs (.slice (some ⟨g, 0, none⟩) (r ++ [t]).length cap) { q with s := t }).toArray).ownsRow B 26 9 (.slice (some ⟨g, 0, none⟩) (r ++ [t]).length cap) (r ++ [t]).length (rgsCs (r ++ [t]))) := ⟨own_stay (own_below ho (below_drew w)) (Apart.row _ b _) (fun g' hg' e => by
    obtain ⟨cur', hg'⟩ := hg'
    have e : g' = b := e
    subst e
    have := hcd.typ hg'
    revert this
    decide)⟩
  have hz : 0 ≤ (r.length : Int) := by omega
  have hne : ¬ ((r.length : Int) + 1 = 0) := by omega
  have hlt9 : (r.length : Int) < (r.length : Int) + 1 := by omega
  have hw : IntKind.i64.wrap ((r.length : Int) + 1 - 1) = r.length := by rw [IntKind.wrap_i64]; omega
  have hw2 : IntKind.i64.wrap (r.length : Int) = r.length := by rw [IntKind.wrap_i64]; omega
  have Hk := Hid3.mk hk
  clear h hc ho hol hcs htk hgb hs hcd hal hok1 hk
  go_enter Try.func42, Try.ntmps42
  go_wp2_with fail
  refine still_tail 15 (by kernel_rfl) (by kernel_rfl) ?_
  simp only [List.take_succ_cons, List.take_zero, List.drop_succ_cons, List.drop_zero]
  repeat (first | (refine wpStill_loads (by rfl) 26 _ rfl _ (.agg t.vs.toArray) rfl hL.out ?_) | still_step)
  refine wpStill_nil ?_
  refine wpList_stores rfl 26 _ _ rfl _ (.agg t.vs.toArray) rfl rfl HSt.out ?_
  generalize w.drew.setRow b (rCs (.slice (some ⟨g, 0, none⟩) (r ++ [t]).length cap) { q with s := t }).toArray = W1 at *
  clear hL HSt c1 c2
  have hB1 : B ≤ W1.heap.size := Nat.le_trans hg (Nat.le_of_lt (HS1.out.a.lt))
  have hl1 := HS1.out.a.lt
  have c2 : W1.cell? ⟨b, 9, none⟩ = some (.slice (some ⟨g, 0, none⟩) (r.length + 1) cap) := by
    have := HC1.out.cell 9
    rw [show (rCs (.slice (some ⟨g, 0, none⟩) (r ++ [t]).length cap) { q with s := t })[9]? = some (.slice (some ⟨g, 0, none⟩) (r ++ [t]).length cap) from rfl, hlen] at this
    exact this
  have f2 := HC1.out.thaw 9
  have hlec : ((r.length : Int) ≤ (cap : Int)) := by omega
  have hX1 := (below_new W1 (.cells #[] 26)).trans ((below_drew _).mono (below_new W1 (.cells #[] 26)).size)
  have HX1 := Hid3.mk hX1
  have HXs : Hid3 (B ≤ (W1.alloc (.cells #[] 26)).drew.heap.size) := ⟨Nat.le_trans hB1 hX1.size⟩
  have H01 : Hid3 ((W1.alloc (.cells #[] 26)).drew.ownsRow B 26 9 (.slice (some ⟨W1.heap.size, 0, none⟩) 0 0) ([] : List Rg).length (rgsCs [])) := ⟨own_none W1 B hB1⟩
  have H11 : Hid3 (Rgs (W1.alloc (.cells #[] 26)).drew (.slice (some ⟨g, 0, none⟩) r.length cap) r) := ⟨by
    have := (Rgs.of_own HO1.out).take (n := r.length) (by rw [hlen]; omega) cap
    rw [List.take_left] at this
    exact this.below hX1⟩
  have hr1000 : ([] : List Rg).length + r.length ≤ 1000 := by simp; omega
  have HR : Hid3 (∀ va Wa, Wa.ownsRow B 26 9 va ([] ++ r).length (rgsCs ([] ++ r)) → (W1.alloc (.cells #[] 26)).drew.grownBy Wa (Value.ownBlock (.slice (some ⟨W1.heap.size, 0, none⟩) 0 0)) →
      RStp B w (Wa.setCell ⟨b, 9, none⟩ va) b (popQ r t q) ∧ Wa.cell? ⟨b, 9, none⟩ = some (.slice (some ⟨g, 0, none⟩) (r.length + 1) cap) ∧ Wa.frozen? ⟨b, 9, none⟩ = false) := ⟨fun va Wa howa hgr => by
    have hBa : Below W1.heap.size W1 Wa := HX1.out.grown hgr HX1.out.size (fun k e => by cases e; exact Nat.le_refl _)
    have hcw := HC1.out.below hBa
    have k1 := hcw.set 9 va
    rw [rCs_k _ va _ r] at k1
    refine ⟨⟨⟨hg, ⟨va, k1, ?_⟩, hok⟩, (HS1.out.ap.trans (Apart.of_below hBa)).trans (Apart.at (X := XB b) _ b _ _ rfl)⟩, (hBa.cell (p := ⟨b, 9, none⟩) hl1).trans c2, hcw.thaw 9⟩
    exact own_stay (by rw [List.nil_append] at howa; exact howa) (Apart.at (X := XB b) _ b _ _ rfl) (fun g' hg' e => by
      obtain ⟨cur', hg'⟩ := hg'
      have e : g' = b := e
      subst e
      have := hcw.typ hg'
      revert this
      decide)⟩
  clear hX1
  go_wp2_with fail
  go_region_law (refine step_app (.tmp 0) _ (by rfl) (by rfl) _ _ (by rfl) B (.slice (some ⟨W1.heap.size, 0, none⟩) 0 0) [] (.slice (some ⟨g, 0, none⟩) r.length cap) r (by rfl) (by rfl) (by exact H01.out) (by exact H11.out) (by exact hr1000) (by exact HXs.out) ?_; intro va Wa owna growa ata; obtain ⟨hSa, ca, fa⟩ := HR.out va Wa owna growa; have HSa := Hid3.mk hSa; obtain ⟨a', cap', e'⟩ := form9 owna; have e'' : va = .slice a' r.length cap' := by { rw [e']; simp }; clear e' owna growa ata hSa; subst e'')
  all_goals (
    go_wp2
    go_ret
    exact ⟨rfl, HSa.out⟩)
end Go.Proofs.Ytgoofonogdhhoaa
