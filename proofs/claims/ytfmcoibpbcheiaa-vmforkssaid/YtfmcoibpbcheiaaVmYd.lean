/- The program's vm: Copy, space by space. -/
import Derived.Test.YtfmcoibpbcheiaaVmYc
import Derived.Deep.RegionHeld3
namespace Go.Proofs.Ytfmcoibpbcheiaa
open Go.RowKit Go.Maps
set_option linter.unusedVariables false
set_option maxRecDepth 100000
theorem mclone_nil (w : World) : Calls Try.prog 39 #[.map none] w fun e w' => e = .returned (.map none) ∧ w' = w := by
  have hq := fun w => run_eql_map_nil_sl (P := Try.prog) w 60 _ _ none Try.underlying60
  go_enter Try.func39, Try.ntmps39
  go_wp2
  go_ret
  exact ⟨rfl, rfl⟩
theorem mclone_s (r : Nat) (f : Int → Option Int) (w : World) (h : Sp w r f) : Calls Try.prog 39 #[.map (some r)] w fun e w' => e = .returned (.map (some w.heap.size)) ∧ Sp w' w.heap.size f ∧ Below w.heap.size w w' := by
  obtain ⟨es, ⟨arr, c, h1, h2⟩, h3⟩ := h
  have hq := fun w => run_eql_map_nil_sl (P := Try.prog) w 60 _ _ (some r) Try.underlying60
  have HF : Hid3 (Sp (w.alloc (.map arr c)) w.heap.size f ∧ Below w.heap.size w (w.alloc (.map arr c))) := ⟨⟨es, ⟨arr, c, heap_alloc_new w _, h2⟩, h3⟩, below_new w _⟩
  clear h2 h3
  go_enter Try.func39, Try.ntmps39
  go_wp2
  rw [run_callFunc_extern Try.func68 (by kernel_rfl) (by kernel_rfl) (by kernel_rfl) (e := Extern.MapsClone.clone) (by kernel_rfl), run_maps_clone_sl w 60 h1]
  simp only [Result.andThen]
  rw [Oper.upon_value]
  go_wp2
  rw [run_typeAssert_map_sl _ 60 20 _ _ _ Try.underlying60]
  simp only [Result.andThen]
  rw [Oper.upon_value]
  go_wp2
  go_ret
  exact ⟨rfl, HF.out⟩
/-- The spaces of the first so many. -/
def cpT (s : Vs) (k : Nat) : Vs := { s with has := fun p => decide (p.1 < k) && s.has p }
theorem cpT_all (s : Vs) : cpT s 6 = s := by
  have e : (fun p : Fin 6 => decide (p.1 < 6) && s.has p) = s.has := by
    funext p
    rw [decide_eq_true p.2, Bool.true_and]
  unfold cpT
  rw [e]
theorem cpT_has (s : Vs) (k : Nat) (hk : k < 6) : (cpT s (k + 1)).has = upF (cpT s k).has ⟨k, hk⟩ (s.has ⟨k, hk⟩) := by
  funext p
  show (decide (p.1 < k + 1) && s.has p) = _
  by_cases c : p = ⟨k, hk⟩
  · subst c
    rw [upF_same, decide_eq_true (by show k < k + 1; omega), Bool.true_and]
  · rw [upF_other _ _ _ _ c]
    have hne : p.1 ≠ k := fun e => c (Fin.ext e)
    show _ = (decide (p.1 < k) && s.has p)
    by_cases d : p.1 < k
    · rw [decide_eq_true d, decide_eq_true (by omega)]
    · rw [decide_eq_false d, decide_eq_false (by omega)]
theorem up_self (pg : Fin 6 → Int → Option Int) (p : Fin 6) : upF pg p (pg p) = pg := by
  funext q
  unfold upF
  split
  · rename_i e; rw [e]
  · rfl
theorem cp_idx (h : Fin 6 → Bool) (r : Fin 6 → Nat) : ∀ (k : Fin 6) (w : World), (Instr.index 61 (.agg (sCs h r).toArray) (.int .i64 k.1)).run Try.prog w = .ok (mpV (h k) (r k)) w := by
  intro k w
  revert k
  refine all6 ?_ ?_ ?_ ?_ ?_ ?_ <;> (unfold sCs; generalize mpV (h 0) (r 0) = x0; generalize mpV (h 1) (r 1) = x1; generalize mpV (h 2) (r 2) = x2; generalize mpV (h 3) (r 3) = x3; generalize mpV (h 4) (r 4) = x4; generalize mpV (h 5) (r 5) = x5; kernel_rfl)
theorem Vb.sps {B : Nat} {w : World} {l : Lo} {s : Vs} (h : Vb B w l s) : w.rangeAt l.b 0 (sCs s.has l.r) := fun j v hv => by
  have hj : j < 6 := (List.getElem?_eq_some_iff.1 hv).1
  rw [h.c.cell, ← hv]
  unfold vCs
  rw [Nat.zero_add, List.getElem?_append_left (by exact hj)]
theorem sp6_size : (Try.prog.info? 61).map (·.size) = some 6 := by kernel_rfl
/-- The other one, space by space. -/
structure Cpk (w W : World) (ob : Nat) (s : Vs) (k : Nat) : Prop where
  ex : ∃ l', l'.b = ob ∧ Vb w.heap.size W l' (cpT s k)
  bl : Below w.heap.size w W
theorem cpk_no {w W : World} {ob : Nat} {s : Vs} {k : Nat} (h : Cpk w W ob s k) (hk : k < 6) (hs : s.has ⟨k, hk⟩ = false) : Cpk w (W.setCell ⟨ob, k, none⟩ (.map none)) ob s (k + 1) := by
  obtain ⟨l', rfl, hv⟩ := h.ex
  have hg := hv.gone ⟨k, hk⟩ (s.pg ⟨k, hk⟩)
  have e : ({ cpT s k with has := upF (cpT s k).has ⟨k, hk⟩ false, pg := upF (cpT s k).pg ⟨k, hk⟩ (s.pg ⟨k, hk⟩) } : Vs) = cpT s (k + 1) := by
    have e1 : upF (cpT s k).pg ⟨k, hk⟩ (s.pg ⟨k, hk⟩) = s.pg := up_self s.pg ⟨k, hk⟩
    have e2 := cpT_has s k hk
    rw [hs] at e2
    rw [e1, ← e2]
    rfl
  rw [e] at hg
  exact ⟨⟨l', rfl, hg⟩, h.bl.trans ((Apart.at (X := XB l'.b) W l'.b k (.map none) rfl).below w.heap.size (fun j (e : j = l'.b) => by rw [e]; exact hv.g) h.bl.size)⟩
theorem cpk_yes {w W W2 : World} {ob r : Nat} {s : Vs} {k : Nat} (h : Cpk w W ob s k) (hk : k < 6) (hs : s.has ⟨k, hk⟩ = true) (hB : Below W.heap.size W W2) (hr : W.heap.size ≤ r) (sp : Sp W2 r (s.pg ⟨k, hk⟩)) : Cpk w (W2.setCell ⟨ob, k, none⟩ (.map (some r))) ob s (k + 1) := by
  obtain ⟨l', rfl, hv⟩ := h.ex
  have ap : Apart (XB l'.b) W (W2.setCell ⟨l'.b, k, none⟩ (.map (some r))) := (Apart.of_below hB).trans (Apart.at (X := XB l'.b) W2 l'.b k _ rfl)
  have hg := hv.fresh h.bl.size ⟨k, hk⟩ (by show (decide (k < k) && _) = false; rw [decide_eq_false (by omega), Bool.false_and]) r (s.pg ⟨k, hk⟩) hr ap ((hv.c.below hB).set k _) (sp.stay (Apart.at (X := XB l'.b) W2 l'.b k _ rfl) (sp.ne (hv.c.below hB)))
  have e : ({ cpT s k with has := upF (cpT s k).has ⟨k, hk⟩ true, pg := upF (cpT s k).pg ⟨k, hk⟩ (s.pg ⟨k, hk⟩) } : Vs) = cpT s (k + 1) := by
    have e1 : upF (cpT s k).pg ⟨k, hk⟩ (s.pg ⟨k, hk⟩) = s.pg := up_self s.pg ⟨k, hk⟩
    have e2 := cpT_has s k hk
    rw [hs] at e2
    rw [e1, ← e2]
    rfl
  rw [e] at hg
  exact ⟨⟨⟨l'.b, l'.m, upF l'.r ⟨k, hk⟩ r⟩, rfl, hg⟩, h.bl.trans (ap.below w.heap.size (fun j (e : j = l'.b) => by rw [e]; exact hv.g) h.bl.size)⟩
theorem Cpk.at {w W : World} {ob : Nat} {s : Vs} {k : Nat} (h : Cpk w W ob s k) (hk : k < 6) : W.cell? ⟨ob, k, none⟩ = some (.map none) ∧ W.frozen? ⟨ob, k, none⟩ = false ∧ ob < W.heap.size := by
  obtain ⟨l', rfl, hv⟩ := h.ex
  have := hv.at ⟨k, hk⟩
  have e : (cpT s k).has ⟨k, hk⟩ = false := by show (decide (k < k) && _) = false; rw [decide_eq_false (by omega), Bool.false_and]
  rw [e] at this
  exact ⟨this, hv.c.thaw _, hv.c.lt⟩
theorem Cpk.low {w W W' : World} {ob : Nat} {s : Vs} {k : Nat} (h : Cpk w W ob s k) (j : Below W.heap.size W W') : Cpk w W' ob s k := ⟨h.ex.elim fun l' x => ⟨l', x.1, x.2.below j⟩, h.bl.trans (j.mono h.bl.size)⟩
set_option maxHeartbeats 4000000 in
theorem vcopy_any (B : Nat) (l : Lo) (s : Vs) (w : World) (h : Vb B w l s) : Calls Try.prog 14 #[.pointer (some ⟨l.b, 0, none⟩)] w fun r w' => ∃ l', r = .returned (.pointer (some ⟨l'.b, 0, none⟩)) ∧ Vb w.heap.size w' l' s ∧ Below w.heap.size w w' := by
  have cF := sfork_any B l s w h
  have HV := Hid3.mk h
  have HVB : Hid3 (∀ W', Below w.heap.size w W' → Vb B W' l s) := ⟨fun W' k => HV.out.below k⟩
  have hlb := h.c.lt
  clear h
  go_enter Try.func14, Try.ntmps14
  go_wp2_with fail
  refine cF.mono ?_
  rintro r W1 ⟨m, rfl, hM, hm, hB1⟩
  have hb2 := vm_built2 m s.cp HV.out.len
  have HC0 : Hid3 (Cpk w (W1.alloc (.cells (vCs (fun _ => false) (fun _ => 0) m s.rf s.cp).toArray 63)) W1.heap.size s 0) := ⟨by
    have e : cpT s 0 = { s with has := fun _ => false } := by
      have e0 : (fun p : Fin 6 => decide (p.1 < 0) && s.has p) = fun _ => false := by
        funext p
        rw [decide_eq_false (by omega), Bool.false_and]
      unfold cpT
      rw [e0]
    refine ⟨⟨⟨W1.heap.size, m, fun _ => 0⟩, rfl, ?_⟩, hB1.trans ((below_new W1 _).mono hB1.size)⟩
    rw [e]
    exact ⟨hB1.size, hm, Cl.new W1 _ _, hM.below (below_new W1 _), HV.out.len, fun p hp => (by cases hp), fun p q hp => (by cases hp)⟩⟩
  have HV2 := Hid3.mk (HV.out.below (hB1.trans ((below_new W1 (.cells (vCs (fun _ => false) (fun _ => 0) m s.rf s.cp).toArray 63)).mono hB1.size)))
  have hr0 := HV2.out.sps
  have hsz6 : (Try.prog.info? 61).map (·.size) = some (sCs s.has l.r).length := sp6_size
  have HI := Hid3.mk (cp_idx s.has l.r)
  generalize (vCs (fun _ => false) (fun _ => 0) m s.rf s.cp).toArray = V0 at *
  generalize (stV m s.rf s.cp).toArray = ST at *
  generalize hSC : sCs s.has l.r = SC at *
  clear hM hm hSC cF HV
  have hBW : Hid3 (Below w.heap.size w W1) := ⟨hB1⟩
  clear hB1
  go_wp2_with (first | (refine Go.wpList_buildTo rfl _ _ rfl _ rfl V0 ?hx ?_; case hx => (simp [Act.eval]; exact hb2)) | (refine wpList_load_mid rfl 61 _ rfl l.b 0 rfl SC _ hr0 Try.underlying61 rfl hsz6 ?_))
  clear hr0 hsz6 hb2
  go_loopw [18] (fun i W => ∃ k : Nat, k ≤ 6 ∧ i = .int .i64 (k : Int) ∧ Hid3 (Cpk w W W1.heap.size s k)) (fun i _ => 6 - (intOf i).toNat)
  case atStart => exact ⟨0, Nat.zero_le _, rfl, HC0⟩
  case round =>
    obtain ⟨k, hk, rfl, HC⟩ := hrel
    clear HC0
    by_cases hk6 : k < 6
    · have HK6 := Hid3.mk hk6
      have hki : (k : Int) < 6 := by omega
      have hk0 : (0 : Int) ≤ (k : Int) := by omega
      have hix := fun w => HI.out ⟨k, hk6⟩ w
      have HSP : Hid3 (s.has ⟨k, hk6⟩ = true → Sp wr (l.r ⟨k, hk6⟩) (s.pg ⟨k, hk6⟩)) := ⟨fun e => (HVB.out wr HC.out.bl).sp _ e |>.2⟩
      simp only at hix
      generalize hB : s.has ⟨k, hk6⟩ = hs at *
      have HB1 := Hid3.mk hB
      clear hB
      cases hs
      · rw [mpV] at hix
        go_wp2_with fail
        refine wp_region_held_drew (S := fun _ => True) (by kernel_rfl) trivial (fun hHeld => ?_)
        refine takeD (i := 0) (v := ?v0) (some 22) rfl rfl (by kernel_rfl) (by kernel_rfl) (by kernel_rfl) (fun _ _ _ h => h) (Or.inl ⟨by rfl, ?hy0⟩) (by assumption) ?_
        case hy0 => (intro w' hSw; (try dsimp only at hSw); go_simp; try (with_reducible rfl))
        simp only [Act.put, List.setIfInBounds_toArray, List.set_cons_zero, List.set_cons_succ]
        refine takeD (i := 1) (v := ?v1) (some 23) rfl rfl (by kernel_rfl) (by kernel_rfl) (by kernel_rfl) (fun _ _ _ h => h) (Or.inl ⟨by rfl, ?hy1⟩) (by assumption) ?_
        case hy1 => (intro w' hSw; (try dsimp only at hSw); go_simp; try (with_reducible rfl))
        simp only [Act.put, List.setIfInBounds_toArray, List.set_cons_zero, List.set_cons_succ]
        refine takeD (i := 2) (v := ?v2) (some 24) rfl rfl (by kernel_rfl) (by kernel_rfl) (by kernel_rfl) (fun _ _ _ h => h) (Or.inl ⟨by rfl, ?hy2⟩) (by assumption) ?_
        case hy2 => (intro w' hSw; (try dsimp only at hSw); go_simp; try (with_reducible rfl))
        simp only [Act.put, List.setIfInBounds_toArray, List.set_cons_zero, List.set_cons_succ]
        refine takeD (i := 4) (v := ?v4) (some 26) rfl rfl (by kernel_rfl) (by kernel_rfl) (by kernel_rfl) (fun _ _ _ h => h) (Or.inl ⟨by rfl, ?hy4⟩) (by assumption) ?_
        case hy4 => (intro w' hSw; (try dsimp only at hSw); go_simp; try (with_reducible rfl))
        simp only [Act.put, List.setIfInBounds_toArray, List.set_cons_zero, List.set_cons_succ]
        refine takeD (i := 5) (v := ?v5) (some 27) rfl rfl (by kernel_rfl) (by kernel_rfl) (by kernel_rfl) (fun _ _ _ h => h) (Or.inl ⟨by rfl, ?hy5⟩) (by assumption) ?_
        case hy5 => (intro w' hSw; (try dsimp only at hSw); go_simp; try (with_reducible rfl))
        simp only [Act.put, List.setIfInBounds_toArray, List.set_cons_zero, List.set_cons_succ]
        refine wpAnyH_ready (rs := [3]) (by kernel_rfl) (by simp) (AllReadyH.cons rfl (fun K hK => ?_) AllReadyH.nil)
        go_simp
        with_reducible refine (mclone_nil wr.drew).mono ?_
        rintro r W ⟨rfl, rfl⟩
        obtain ⟨q1, q2, q3⟩ := HC.out.at HK6.out
        refine hK.out _ _ trivial (fun hHeld2 => ?_)
        clear hK K hHeld
        have hHeld := hHeld2
        clear hHeld2
        try simp only [Act.put, List.setIfInBounds_toArray, List.set_cons_zero, List.set_cons_succ]
        refine takeD (i := 6) (v := ?v6) (some 28) rfl rfl (by kernel_rfl) (by kernel_rfl) (by kernel_rfl) (fun _ _ _ h => h) (Or.inl ⟨by rfl, ?hy6⟩) (by assumption) ?_
        case hy6 => (intro w' hSw; (try dsimp only at hSw); go_simp; try (with_reducible rfl))
        simp only [Act.put, List.setIfInBounds_toArray, List.set_cons_zero, List.set_cons_succ]
        refine wpAnyH_ready (rs := [7]) (by kernel_rfl) (by simp) (AllReadyH.cons rfl (fun K hK => ?_) AllReadyH.nil)
        go_simp
        refine hK.out _ _ trivial (fun hHeld2 => ?_)
        clear hK K hHeld
        have hHeld := hHeld2
        clear hHeld2
        try simp only [Act.put]
        refine wpAnyH_done (by kernel_rfl) ?_ _
        clear hHeld
        go_wp2
        go_roundw
        case rel => exact ⟨k + 1, by omega, rfl, ⟨cpk_no (HC.out.low (below_drew _)) HK6.out HB1.out⟩⟩
        case measure =>
          have := HK6.out
          simp only [intOf]
          omega
      · rw [mpV] at hix
        have HSQ := Hid3.mk (HSP.out rfl)
        clear HSP
        generalize l.r ⟨k, hk6⟩ = rr at *
        go_wp2_with fail
        refine wp_region_held_drew (S := fun _ => True) (by kernel_rfl) trivial (fun hHeld => ?_)
        refine takeD (i := 0) (v := ?vb0) (some 22) rfl rfl (by kernel_rfl) (by kernel_rfl) (by kernel_rfl) (fun _ _ _ h => h) (Or.inl ⟨by rfl, ?hz0⟩) (by assumption) ?_
        case hz0 => (intro w' hSw; (try dsimp only at hSw); go_simp; try (with_reducible rfl))
        simp only [Act.put, List.setIfInBounds_toArray, List.set_cons_zero, List.set_cons_succ]
        refine takeD (i := 1) (v := ?vb1) (some 23) rfl rfl (by kernel_rfl) (by kernel_rfl) (by kernel_rfl) (fun _ _ _ h => h) (Or.inl ⟨by rfl, ?hz1⟩) (by assumption) ?_
        case hz1 => (intro w' hSw; (try dsimp only at hSw); go_simp; try (with_reducible rfl))
        simp only [Act.put, List.setIfInBounds_toArray, List.set_cons_zero, List.set_cons_succ]
        refine takeD (i := 2) (v := ?vb2) (some 24) rfl rfl (by kernel_rfl) (by kernel_rfl) (by kernel_rfl) (fun _ _ _ h => h) (Or.inl ⟨by rfl, ?hz2⟩) (by assumption) ?_
        case hz2 => (intro w' hSw; (try dsimp only at hSw); go_simp; try (with_reducible rfl))
        simp only [Act.put, List.setIfInBounds_toArray, List.set_cons_zero, List.set_cons_succ]
        refine takeD (i := 4) (v := ?vb4) (some 26) rfl rfl (by kernel_rfl) (by kernel_rfl) (by kernel_rfl) (fun _ _ _ h => h) (Or.inl ⟨by rfl, ?hz4⟩) (by assumption) ?_
        case hz4 => (intro w' hSw; (try dsimp only at hSw); go_simp; try (with_reducible rfl))
        simp only [Act.put, List.setIfInBounds_toArray, List.set_cons_zero, List.set_cons_succ]
        refine takeD (i := 5) (v := ?vb5) (some 27) rfl rfl (by kernel_rfl) (by kernel_rfl) (by kernel_rfl) (fun _ _ _ h => h) (Or.inl ⟨by rfl, ?hz5⟩) (by assumption) ?_
        case hz5 => (intro w' hSw; (try dsimp only at hSw); go_simp; try (with_reducible rfl))
        simp only [Act.put, List.setIfInBounds_toArray, List.set_cons_zero, List.set_cons_succ]
        refine wpAnyH_ready (rs := [3]) (by kernel_rfl) (by simp) (AllReadyH.cons rfl (fun K hK => ?_) AllReadyH.nil)
        go_simp
        with_reducible refine (mclone_s _ _ wr.drew (HSQ.out.below (below_drew _))).mono ?_
        rintro r W ⟨rfl, hX⟩
        have HX := Hid3.mk hX
        obtain ⟨q1, q2, q3⟩ := (HC.out.low ((below_drew _).trans hX.2)).at HK6.out
        clear hX
        refine hK.out _ _ trivial (fun hHeld2 => ?_)
        clear hK K hHeld
        have hHeld := hHeld2
        clear hHeld2
        try simp only [Act.put, List.setIfInBounds_toArray, List.set_cons_zero, List.set_cons_succ]
        refine takeD (i := 6) (v := ?vb6) (some 28) rfl rfl (by kernel_rfl) (by kernel_rfl) (by kernel_rfl) (fun _ _ _ h => h) (Or.inl ⟨by rfl, ?hz6⟩) (by assumption) ?_
        case hz6 => (intro w' hSw; (try dsimp only at hSw); go_simp; try (with_reducible rfl))
        simp only [Act.put, List.setIfInBounds_toArray, List.set_cons_zero, List.set_cons_succ]
        refine wpAnyH_ready (rs := [7]) (by kernel_rfl) (by simp) (AllReadyH.cons rfl (fun K hK => ?_) AllReadyH.nil)
        go_simp
        refine hK.out _ _ trivial (fun hHeld2 => ?_)
        clear hK K hHeld
        have hHeld := hHeld2
        clear hHeld2
        try simp only [Act.put]
        refine wpAnyH_done (by kernel_rfl) ?_ _
        clear hHeld
        go_wp2
        go_roundw
        case rel => exact ⟨k + 1, by omega, rfl, ⟨cpk_yes HC.out HK6.out HB1.out ((below_drew _).trans HX.out.2) (Nat.le_refl _) HX.out.1⟩⟩
        case measure =>
          have := HK6.out
          simp only [intOf]
          omega
    · obtain rfl : k = 6 := by omega
      go_wp2
      go_ret
      obtain ⟨l', e, hv⟩ := HC.out.ex
      refine ⟨l', ?_, by rw [← cpT_all s]; exact hv, HC.out.bl⟩
      rw [e]
      rfl
end Go.Proofs.Ytfmcoibpbcheiaa
