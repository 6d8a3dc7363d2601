/- The document's Done. -/
import Derived.Test.YtpmndhbcohjboaaRvT
namespace Go.Proofs.Ytpmndhbcohjboaa
open Go.RowKit Go.Maps
set_option linter.unusedVariables false
set_option maxRecDepth 100000
theorem RowO.pre {w : World} {B : Nat} {e : TypeId} {size g off n cap : Nat} {xs : List Value} (h : RowO w B e size (.slice (some ⟨g, off, none⟩) n cap) n xs) (k : Nat) (hk : k ≤ n) : RowO w B e size (.slice (some ⟨g, off, none⟩) k cap) k (xs.take (k * size)) := by
  have hlen := h.1
  have hm := Nat.mul_le_mul_right size hk
  rcases h.2 with ⟨h, _⟩ | ⟨g', off0, cap', cur, h1, h2, h3, h4, h5, h6, h7⟩
  · cases h
  · injection h1 with h1 _ hc
    injection h1 with h1
    injection h1 with hg ho'
    subst hg ho' hc
    refine ⟨by rw [List.length_take]; omega, .inr ⟨g, off, cap, cur, rfl, h2, h3, by omega, h5, h6, ?_⟩⟩
    rw [← h7, List.take_take]
    congr 1
    omega
theorem RowO.suf {w : World} {B : Nat} {e : TypeId} {size g off n cap : Nat} {xs : List Value} (h : RowO w B e size (.slice (some ⟨g, off, none⟩) n cap) n xs) (k : Nat) (hk : k ≤ n) : RowO w B e size (.slice (some ⟨g, off + k * size, none⟩) (n - k) (cap - k)) (n - k) (xs.drop (k * size)) := by
  have hlen := h.1
  have hm := Nat.mul_le_mul_right size hk
  rcases h.2 with ⟨h, _⟩ | ⟨g', off0, cap', cur, h1, h2, h3, h4, h5, h6, h7⟩
  · cases h
  · injection h1 with h1 _ hc
    injection h1 with h1
    injection h1 with hg ho'
    subst hg ho' hc
    have hm2 := Nat.mul_le_mul_right size (Nat.le_trans hk h4)
    refine ⟨by rw [List.length_drop, Nat.sub_mul]; omega, .inr ⟨g, _, cap - k, cur, rfl, h2, h3, by omega, by omega, ?_, ?_⟩⟩
    · rw [Nat.sub_mul]
      omega
    · rw [← h7, List.drop_take, List.drop_drop, Nat.sub_mul]
theorem RowO.end0 {w : World} {B : Nat} {e : TypeId} {size g off n cap : Nat} {xs : List Value} (h : RowO w B e size (.slice (some ⟨g, off, none⟩) n cap) n xs) : RowO w B e size (.slice (some ⟨g, off, none⟩) 0 0) 0 [] := by
  rcases h.2 with ⟨h, _⟩ | ⟨g', off0, cap', cur, h1, h2, h3, h4, h5, h6, h7⟩
  · cases h
  · injection h1 with h1 _ hc
    injection h1 with h1
    injection h1 with hg ho'
    subst hg ho' hc
    exact ⟨by simp, .inr ⟨g, off, 0, cur, rfl, h2, h3, Nat.le_refl _, Nat.zero_le _, by omega, by simp⟩⟩
theorem aCs_takek (L : List Dm) (k : Nat) : (aCs L).take (k * 3) = aCs (L.take k) := by
  induction L generalizing k with
  | nil => simp [aCs]
  | cons d L ih =>
    cases k with
    | zero => simp [aCs]
    | succ k =>
      have e : (k + 1) * 3 = k * 3 + 1 + 1 + 1 := by omega
      rw [e, List.take_succ_cons]
      show (.int .u8 d.1 :: .int .u8 d.2.1 :: .int .i64 d.2.2 :: aCs L).take _ = .int .u8 d.1 :: .int .u8 d.2.1 :: .int .i64 d.2.2 :: aCs (L.take k)
      rw [List.take_succ_cons, List.take_succ_cons, List.take_succ_cons, ih]
theorem aCs_dropk (L : List Dm) (k : Nat) : (aCs L).drop (k * 3) = aCs (L.drop k) := by
  induction L generalizing k with
  | nil => simp [aCs]
  | cons d L ih =>
    cases k with
    | zero => simp [aCs]
    | succ k =>
      have e : (k + 1) * 3 = k * 3 + 1 + 1 + 1 := by omega
      rw [e, List.drop_succ_cons]
      show (.int .u8 d.1 :: .int .u8 d.2.1 :: .int .i64 d.2.2 :: aCs L).drop _ = aCs (L.drop k)
      rw [List.drop_succ_cons, List.drop_succ_cons, List.drop_succ_cons, ih]
theorem out_at {L : List Dm} (hK : KeysD L) {x y : Int} {k : Nat} (hk : k < L.length) (h1 : hasK x y L[k] = true) (h2 : ∀ j (hj : j < L.length), j < k → hasK x y L[j] = false) : L.filter (fun d => !hasK x y d) = L.take k ++ L.drop (k + 1) ∧ (L.filter (hasK x y)).length ≠ 0 := by
  have hm : L[k] ∈ L := List.getElem_mem hk
  refine ⟨?_, fun e => ?_⟩
  · have hs : L = L.take k ++ L[k] :: L.drop (k + 1) := by
      rw [List.getElem_cons_drop, List.take_append_drop]
    have hk1 : L[k].1 = x ∧ L[k].2.1 = y := of_decide_eq_true h1
    have ht : (L.take k).filter (fun d => !hasK x y d) = L.take k := List.filter_eq_self.2 (fun d hd => by
      obtain ⟨j, hj, rfl⟩ := List.getElem_of_mem hd
      rw [List.length_take] at hj
      rw [List.getElem_take]
      simp [h2 j (by omega) (by omega)])
    have hp : ∀ d ∈ L.drop (k + 1), hasK x y d = false := fun d hd => by
      refine decide_eq_false (fun i => ?_)
      have hK2 := hK
      unfold KeysD at hK2
      rw [hs] at hK2
      have := (List.pairwise_cons.1 (List.pairwise_append.1 hK2).2.1).1 d hd
      exact this ⟨by rw [i.1, hk1.1], by rw [i.2, hk1.2]⟩
    have hd : (L.drop (k + 1)).filter (fun d => !hasK x y d) = L.drop (k + 1) := List.filter_eq_self.2 (fun d hd => by simp [hp d hd])
    conv => lhs; rw [hs]
    rw [List.filter_append, List.filter_cons, h1, ht]
    simp only [Bool.not_true, Bool.false_eq_true, if_false]
    rw [hd]
  · have : L[k] ∈ L.filter (hasK x y) := List.mem_filter.2 ⟨hm, h1⟩
    rw [List.eq_nil_of_length_eq_zero e] at this
    cases this
theorem out_none {L : List Dm} {x y : Int} (h : dget L x y = none) : L.filter (fun d => !hasK x y d) = L ∧ (L.filter (hasK x y)).length = 0 := by
  have hn : ∀ d ∈ L, hasK x y d = false := fun d hd => by
    unfold dget at h
    have := List.find?_eq_none.1 (Option.map_eq_none_iff.1 h) d hd
    simpa using this
  refine ⟨List.filter_eq_self.2 (fun d hd => by simp [hn d hd]), ?_⟩
  rw [List.filter_eq_nil_iff.2 (fun d hd => by simp [hn d hd])]
  rfl
set_option maxHeartbeats 8000000 in
theorem rdone_any (B b : Nat) (lv : Value) (ls : Fin 6 → Value) (q : Rs) (N : Nat) (x y : Int) (w : World) (h : Rk B w b lv ls q) (hO : q.Ok N) : Calls Try.prog 44 #[.pointer (some ⟨b, 0, none⟩), .int .u8 x, .int .u8 y] w fun e w' => e = .returned (.int .i64 (doneE x y q)) ∧ RStp B w w' b lv ls (doneQ x y q) := by
  have hfew := hO.few
  have cA := rat_any B b lv ls q x y w h hfew
  unfold doneE doneQ
  rcases at_get q.d x y with ⟨h1, h2⟩ | ⟨k, hk, h1, h2, h3, h4⟩
  · rw [h1] at cA
    rw [(out_none h2).1, (out_none h2).2, if_pos rfl]
    have HS := Hid3.mk (RStp.same h (Below.refl _ w))
    clear h hO h1 h2
    go_enter Try.func44, Try.ntmps44
    go_wp2_with fail
    refine cA.mono ?_
    rintro e W ⟨rfl, rfl⟩
    go_wp2
    go_ret
    exact ⟨rfl, HS.out⟩
  · obtain ⟨o1, o2⟩ := out_at hO.keys hk h3 h4
    rw [h1] at cA
    rw [o1, if_neg o2]
    have HB := Hid3.mk h
    obtain ⟨a0, cap0, rfl⟩ := h.l.sl
    obtain ⟨g, off, rfl, hg, _, _, _⟩ := Row3.at h.l k hk
    have hl := h.l
    have c0 := h.c.c0
    have f0 := h.c.f 0
    have hbl := h.c.l
    have hcap : q.d.length ≤ cap0 := by
      rcases h.l.form with ⟨i, _⟩ | ⟨_, _, _, i, j, _⟩
      · cases i
      · injection i with _ _ i
        omega
    have HG : Hid3 (∀ vb Wb, Below w.heap.size w Wb → RowO Wb w.heap.size 39 3 vb (0 + k + (q.d.length - (k + 1))) ([] ++ aCs (q.d.take k) ++ aCs (q.d.drop (k + 1))) → RStp B w (Wb.setCell ⟨b, 0, none⟩ vb) b (.slice (some ⟨g, off, none⟩) q.d.length cap0) ls ⟨q.d.take k ++ q.d.drop (k + 1), q.v⟩) := ⟨fun vb Wb hb hr => by
      refine RStp.list _ HB.out hb ?_
      rw [aCs_append, List.length_append, List.length_take, List.length_drop, Nat.min_eq_left (by omega)]
      rw [Nat.zero_add, List.nil_append] at hr
      exact hr⟩
    have hwk : IntKind.i64.wrap ((k : Int) + 1) = (k : Int) + 1 := by rw [IntKind.wrap_i64]; omega
    have htn : ((k : Int) + 1).toNat = k + 1 := by omega
    have hk0 : (0 : Int) ≤ (k : Int) + 1 := by omega
    have hkz : ¬ (k : Int) < 0 := by omega
    have hk9 : (k : Int) ≤ (cap0 : Int) := by omega
    have hk8 : (k : Int) + 1 ≤ (q.d.length : Int) := by omega
    have hk7 : (q.d.length : Int) ≤ (cap0 : Int) := by omega
    clear h1 h2 h3 h4 o1 o2 hO
    by_cases hc : cap0 = k + 1
    · subst hc
      have hqn : q.d.length = k + 1 := by omega
      have hdr : q.d.drop (k + 1) = [] := List.drop_of_length_le (by omega)
      have hn0 : q.d.length - (k + 1) = 0 := by omega
      rw [hdr, hn0] at HG
      rw [hdr]
      simp only [hqn] at *
      have hk3 : (k : Int) ≤ (k : Int) + 1 := by omega
      have H2 := Hid3.mk (hl.end0)
      have hX : Below w.heap.size w (w.alloc (.cells #[] 39)).drew := below_newd w _
      have HX := Hid3.mk hX
      have H0 : Hid3 (RowO (w.alloc (.cells #[] 39)).drew w.heap.size 39 3 (.slice (some ⟨w.heap.size, 0, none⟩) 0 0) 0 []) := ⟨(row_none w 39 3 w.heap.size (Nat.le_refl _)).below (below_drew _)⟩
      have H1 : Hid3 (RowO (w.alloc (.cells #[] 39)).drew B 39 3 (.slice (some ⟨g, off, none⟩) k (k + 1)) k (aCs (q.d.take k))) := ⟨by
        have := (hl.pre k (by omega)).below hX
        rw [aCs_takek] at this
        exact this⟩
      clear h hX hl
      go_enter Try.func44, Try.ntmps44
      go_wp2_with fail
      refine cA.mono ?_
      rintro e W ⟨rfl, hW⟩
      rw [hW]
      clear cA hW
      go_wp2_with fail
      go_region_law ((first
        | (refine step_appR (.tmp 0) _ (by rfl) (by rfl) _ _ 35 39 3 appA (by rfl) w.heap.size (.slice (some ⟨w.heap.size, 0, none⟩) 0 0) 0 [] (by rfl) (by exact H0.out) B (.slice (some ⟨g, off, none⟩) k (k + 1)) k (aCs (q.d.take k)) (by rfl) (by exact H1.out) (by exact aCs_one _) (by omega) (by exact HX.out.size) ?_; intro va Wa owna growa ata; have HBa := Hid3.mk (below_grown (B := B) HX.out H0.out growa); have HOa := Hid3.mk owna; have g2 : Wa.cell? ⟨b, 0, none⟩ = some (.slice (some ⟨g, off, none⟩) (k + 1) (k + 1)) := (HBa.out.cell hbl).trans c0; have g3 := Nat.lt_of_lt_of_le hbl HBa.out.size; clear owna growa ata)
        | (refine step_appR (.tmp 0) _ (by rfl) (by rfl) _ _ 35 39 3 appA (by rfl) w.heap.size va (0 + k) ([] ++ aCs (q.d.take k)) (by rfl) (by exact HOa.out) B (.slice (some ⟨g, off, none⟩) 0 0) 0 [] (by rfl) (by exact H2.out.below HBa.out) (by exact fun y hy => by cases hy) (by omega) (by exact HBa.out.size) ?_; intro vb Wb ownb growb atb; have hbb := below_grown (B := B) HBa.out HOa.out growb; have e0 := (HB.out.below hbb).c.c0; have e1 := (HB.out.below hbb).c.f 0; have e2 := (HB.out.below hbb).c.l; obtain ⟨a2, k2, rfl⟩ := ownb.sl; have HF := Hid3.mk (HG.out _ Wb hbb ownb); clear ownb growb atb hbb)))
      all_goals
        go_wp2
        go_ret
        have hfin := HF.out
        simp only [Nat.zero_add, Nat.add_zero] at hfin
        exact ⟨rfl, hfin⟩
    · have hcn : ¬ cap0 - (k + 1) = 0 := by omega
      have hcn2 : (k : Int) + 1 ≤ (cap0 : Int) := by omega
      have H2 := Hid3.mk ((by have := hl.suf (k + 1) (by omega); rw [aCs_dropk] at this; exact this : RowO w B 39 3 (.slice (some ⟨g, off + (k + 1) * 3, none⟩) (q.d.length - (k + 1)) (cap0 - (k + 1))) (q.d.length - (k + 1)) (aCs (q.d.drop (k + 1)))))
      have hX : Below w.heap.size w (w.alloc (.cells #[] 39)).drew := below_newd w _
      have HX := Hid3.mk hX
      have H0 : Hid3 (RowO (w.alloc (.cells #[] 39)).drew w.heap.size 39 3 (.slice (some ⟨w.heap.size, 0, none⟩) 0 0) 0 []) := ⟨(row_none w 39 3 w.heap.size (Nat.le_refl _)).below (below_drew _)⟩
      have H1 : Hid3 (RowO (w.alloc (.cells #[] 39)).drew B 39 3 (.slice (some ⟨g, off, none⟩) k cap0) k (aCs (q.d.take k))) := ⟨by
        have := (hl.pre k (by omega)).below hX
        rw [aCs_takek] at this
        exact this⟩
      clear h hX hl
      go_enter Try.func44, Try.ntmps44
      go_wp2_with fail
      refine cA.mono ?_
      rintro e W ⟨rfl, hW⟩
      rw [hW]
      clear cA hW
      go_wp2_with fail
      go_region_law ((first
        | (refine step_appR (.tmp 0) _ (by rfl) (by rfl) _ _ 35 39 3 appA (by rfl) w.heap.size (.slice (some ⟨w.heap.size, 0, none⟩) 0 0) 0 [] (by rfl) (by exact H0.out) B (.slice (some ⟨g, off, none⟩) k cap0) k (aCs (q.d.take k)) (by rfl) (by exact H1.out) (by exact aCs_one _) (by omega) (by exact HX.out.size) ?_; intro va Wa owna growa ata; have HBa := Hid3.mk (below_grown (B := B) HX.out H0.out growa); have HOa := Hid3.mk owna; have g2 : Wa.cell? ⟨b, 0, none⟩ = some (.slice (some ⟨g, off, none⟩) q.d.length cap0) := (HBa.out.cell hbl).trans c0; have g3 := Nat.lt_of_lt_of_le hbl HBa.out.size; clear owna growa ata)
        | (refine step_appR (.tmp 0) _ (by rfl) (by rfl) _ _ 35 39 3 appA (by rfl) w.heap.size va (0 + k) ([] ++ aCs (q.d.take k)) (by rfl) (by exact HOa.out) B (.slice (some ⟨g, off + (k + 1) * 3, none⟩) (q.d.length - (k + 1)) (cap0 - (k + 1))) (q.d.length - (k + 1)) (aCs (q.d.drop (k + 1))) (by rfl) (by exact H2.out.below HBa.out) (by exact aCs_one _) (by omega) (by exact HBa.out.size) ?_; intro vb Wb ownb growb atb; have hbb := below_grown (B := B) HBa.out HOa.out growb; have e0 := (HB.out.below hbb).c.c0; have e1 := (HB.out.below hbb).c.f 0; have e2 := (HB.out.below hbb).c.l; obtain ⟨a2, k2, rfl⟩ := ownb.sl; have HF := Hid3.mk (HG.out _ Wb hbb ownb); clear ownb growb atb hbb)))
      all_goals
        go_wp2
        go_ret
        have hfin := HF.out
        simp only [Nat.zero_add] at hfin
        exact ⟨rfl, hfin⟩
end Go.Proofs.Ytpmndhbcohjboaa
