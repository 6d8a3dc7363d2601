/- Rows of registers; the document's Kill; when kinds are the same. -/
import Derived.Test.YtgoofonogdhhoaaArR
import Derived.Deep.DeepCutAuto
namespace Go.Proofs.Ytgoofonogdhhoaa
open Go.RowKit Go.Maps
set_option linter.unusedVariables false
set_option maxRecDepth 100000
theorem infoG : (Try.prog.info? 26).map (fun i => (i.zero, i.size, i.bytes)) = some (some (.agg rg0.vs.toArray), 9, 18) := by kernel_rfl
/-- A slice lists registers. -/
def Rgs (w : World) (u : Value) (L : List Rg) : Prop := (u = .slice none 0 0 ∧ L = []) ∨ ∃ ad cap, u = .slice (some ad) L.length cap ∧ ∀ j x, (rgsCs L)[j]? = some x → w.cell? (ad.add j) = some x
theorem Rgs.of_own {w : World} {B : Nat} {v : Value} {L : List Rg} (h : w.ownsRow B 26 9 v L.length (rgsCs L)) : Rgs w v L := by
  rcases h.2 with ⟨h0, h1⟩ | ⟨g, cap, cur, rfl, _, hg, _, _, _, ht⟩
  · exact .inl ⟨h0, List.eq_nil_of_length_eq_zero h1⟩
  · exact .inr ⟨_, cap, rfl, h.cells rfl⟩
theorem Rgs.below {w w' : World} {u : Value} {L : List Rg} (h : Rgs w u L) (k : Below w.heap.size w w') : Rgs w' u L := by
  rcases h with h | ⟨ad, cap, h1, h2⟩
  · exact .inl h
  · exact .inr ⟨ad, cap, h1, fun j x hj => (k.cell (World.block_lt_of_cell? w _ (h2 j x hj))).trans (h2 j x hj)⟩
theorem Rgs.stay {w w' : World} {u : Value} {L : List Rg} {X : Nat → Prop} (h : Rgs w u L) (k : Apart X w w') (hx : ∀ g, u.ownBlock = some g → ¬ X g) : Rgs w' u L := by
  rcases h with h | ⟨ad, cap, rfl, h2⟩
  · exact .inl h
  · refine .inr ⟨ad, cap, rfl, fun j x hj => ?_⟩
    have hc := h2 j x hj
    have hlt := World.block_lt_of_cell? w _ hc
    have hb : (ad.add j).block = ad.block := by unfold Addr.add; split <;> simp_all
    rw [← hc]
    have := k.block (ad.add j).block hlt (by rw [hb]; exact hx _ rfl)
    simp only [World.cell?, this]
theorem Rgs.take {w : World} {g cap : Nat} {L : List Rg} {n : Nat} (h : Rgs w (.slice (some ⟨g, 0, none⟩) L.length cap) L) (hn : n ≤ L.length) (c : Nat) : Rgs w (.slice (some ⟨g, 0, none⟩) n c) (L.take n) := by
  rcases h with ⟨h, _⟩ | ⟨ad, cap', h1, h2⟩
  · cases h
  · injection h1 with h1
    injection h1 with h1
    subst h1
    refine .inr ⟨_, c, by rw [List.length_take, Nat.min_eq_left hn], fun j x hj => h2 j x ?_⟩
    have e : rgsCs L = rgsCs (L.take n) ++ rgsCs (L.drop n) := by rw [← rgsCs_append, List.take_append_drop]
    rw [e, List.getElem?_append_left (List.getElem?_eq_some_iff.1 hj).1]
    exact hj
theorem rgs_one (w : World) (s : Rg) : Rgs (w.alloc (.cells s.vs.toArray 26)) (.slice (some ⟨w.heap.size, 0, none⟩) 1 1) [s] := by
  refine .inr ⟨_, 1, rfl, fun j x hj => ?_⟩
  rw [Addr.add_mid, Nat.zero_add, (Cl.new w 26 s.vs).cell]
  simpa [rgsCs] using hj
theorem run_app (w : World) (ty : TypeId) (B : Nat) (v : Value) (M : List Rg) (u : Value) (L : List Rg) (hown : w.ownsRow B 26 9 v M.length (rgsCs M)) (hu : Rgs w u L) (hl : M.length + L.length ≤ 1000) (hB : B ≤ w.heap.size) :
    ∃ v' w', (Builtin.append_ #[70, 70] ty #[v, u]).run Try.prog w = .ok v' w' ∧ w'.ownsRow B 26 9 v' (M ++ L).length (rgsCs (M ++ L)) ∧ w.grownBy w' v.ownBlock ∧ (v'.ownBlock = v.ownBlock ∨ v'.ownBlock = some w.heap.size) := by
  obtain ⟨i, hi, hz, hs, hb⟩ := info_parts infoG
  rcases hu with ⟨rfl, rfl⟩ | ⟨ad, cap, rfl, hcell⟩
  · refine ⟨v, w, run_append_owned_none (P := Try.prog) w B 70 ty 26 i 9 Try.underlying70 hi v M.length (rgsCs M) hown, by rw [List.append_nil]; exact hown, ⟨rfl, rfl, rfl, Nat.le_refl _, fun _ _ _ => rfl⟩, .inl rfl⟩
  · obtain ⟨v', w', h1, h2, h3, _, h5⟩ := run_append_own_at (P := Try.prog) w B 70 ty 26 i _ 9 18 Try.underlying70 hi hz hs hb rfl (by omega) v M.length (rgsCs M) hown ad L.length cap (rgsCs L) (rgsCs_len L) hcell (rgsCs_one L) (by unfold maxLen; omega) (by omega) hB
    exact ⟨v', w', h1, by rw [List.length_append, rgsCs_append]; exact h2, h3, h5⟩
theorem step_app {w : World} {ops : Array Oper} {o : Oper} {a : Act} {K : Act → World → Prop} {Q : Exit → Act → World → Prop} {E : Prop} (fl : Operand) (fv : Value) (hfl : a.eval fl = fv) (hgd : o.guard = none) (s x : Operand)
    (ho : o.op = .call { callee := .builtin .append, args := #[s, x], argTypes := #[70, 70] })
    (B : Nat) (v : Value) (M : List Rg) (u : Value) (L : List Rg) (hs : a.eval s = v) (hx : a.eval x = u) (hown : w.ownsRow B 26 9 v M.length (rgsCs M)) (hu : Rgs w u L) (hl : M.length + L.length ≤ 1000) (hB : B ≤ w.heap.size)
    (h : ∀ v' w', w'.ownsRow B 26 9 v' (M ++ L).length (rgsCs (M ++ L)) → w.grownBy w' v.ownBlock → (v'.ownBlock = v.ownBlock ∨ v'.ownBlock = some w.heap.size) → K (a.put o.dst v') w') :
    if Region.wanted o (yielded ops a.tmps) = true then Oper.wp Try.prog o a w K Q else E := by
  have hw : Region.wanted o (yielded ops a.tmps) = true := by simp [Region.wanted, hgd]
  rw [if_pos hw]
  obtain ⟨v', w', hr, h2, h3, h4⟩ := run_app w o.type B v M u L hown hu hl hB
  unfold Oper.wp execOp
  simp only [ho, resolve, invoke, builtin, Sem.run_bind, Sem.run_pure, Result.andThen_ok, List.map_toArray, List.map_cons, List.map_nil, hs, hx, hr]
  exact h v' w' h2 h3 h4
theorem own_none (w : World) (B : Nat) (hB : B ≤ w.heap.size) : (w.alloc (.cells #[] 26)).ownsRow B 26 9 (.slice (some ⟨w.heap.size, 0, none⟩) ([] : List Rg).length 0) ([] : List Rg).length (rgsCs []) :=
  World.ownsRow_made w #[] 0 hB (by unfold maxLen; omega) rfl
theorem RStp.of' {B : Nat} {w w' : World} {b : Nat} {q q' : Ar} {v : Value} (h : Rr B w b q) (hc : Cl w' b 74 (rCs v q')) (ho : w'.ownsRow B 26 9 v q'.kp.length (rgsCs q'.kp)) (ap : Apart (XB b) w w') (ok : q'.Ok) : RStp B w w' b q' := ⟨⟨h.g, ⟨v, hc, ho⟩, ok⟩, ap⟩
theorem rCs_kill (v : Value) (q : Ar) : (((rCs v q).set 20 (.bool true)).set 9 (.slice none 0 0)).take 0 ++ rg0.vs ++ (((rCs v q).set 20 (.bool true)).set 9 (.slice none 0 0)).drop 9 = rCs (.slice none 0 0) ⟨false, rg0, [], q.en⟩ := rfl
set_option maxHeartbeats 1000000 in
theorem rkill_any (B b : Nat) (q : Ar) (w : World) (h : Rr B w b q) : Calls Try.prog 44 #[.pointer (some ⟨b, 0, none⟩)] w fun r w' => r = .returned (.int .i64 (setE q)) ∧ RStp B w w' b (killQ q) := by
  have H0 := Hid3.mk h
  have c1 := h.k.cd
  have hl0 := h.lt
  unfold setE killQ
  by_cases hal : q.al = true
  · rw [if_pos hal, if_pos hal]
    rw [hal] at c1
    obtain ⟨v0, hc, ho⟩ := h.c
    obtain ⟨a0, cap0, rfl⟩ := form9 ho
    have c9 : w.cell? ⟨b, 9, none⟩ = some (.slice a0 q.kp.length cap0) := hc.cell 9
    have f1 := h.k.f 20
    have f2 := h.k.f 9
    have k1 := (hc.set 20 (.bool true)).set 9 (.slice none 0 0)
    have hs := stores k1 26 0 9 rg0.vs sizR rfl (vs_one rg0) (by show 0 + 9 ≤ 21; omega)
    rw [show 0 + 9 = 9 from rfl, rCs_kill] at hs
    have HS : Hid3 (RStp B w ((((w.setCell ⟨b, 20, none⟩ (.bool true)).setCell ⟨b, 9, none⟩ (.slice none 0 0)).setRow b (rCs (.slice none 0 0) ⟨false, rg0, [], q.en⟩).toArray)) b ⟨false, rg0, [], q.en⟩) := ⟨RStp.of' h (k1.row _) (World.ownsRow_nil _ _ _ _) (((Apart.at (X := XB b) w b _ _ rfl).trans (Apart.at (X := XB b) _ b _ _ rfl)).trans (Apart.row _ b _)) ⟨Nat.zero_le _, fun _ => ⟨rfl, rfl⟩⟩⟩
    clear h hal hc ho k1
    generalize (rCs (.slice none 0 0) ⟨false, rg0, [], q.en⟩).toArray = D at *
    go_enter Try.func44, Try.ntmps44
    go_wp2_with (refine wpList_stores rfl 26 _ _ rfl _ (.agg rg0.vs.toArray) rfl rfl hs ?_)
    go_ret
    exact ⟨rfl, HS.out⟩
  · rw [if_neg hal, if_neg hal]
    have hal' : q.al = false := by cases e : q.al with | true => exact (hal e).elim | false => rfl
    rw [hal'] at c1
    clear h
    go_enter Try.func44, Try.ntmps44
    go_wp2
    go_ret
    exact ⟨rfl, RStp.same H0.out (Below.refl _ _)⟩
/-- A row of kinds. -/
def Kns (w : World) (v : Value) (L : List Nat) : Prop := ∃ a cap, v = .slice a L.length cap ∧ ∀ (j n : Nat), L[j]? = some n → ∃ g off, a = some ⟨g, off, none⟩ ∧ w.cell? ⟨g, off + j, none⟩ = some (.int .u8 n)
theorem Kns.of_own {B : Nat} {w : World} {v : Value} {L : List Nat} (h : w.ownsRow B 35 1 v L.length (L.map natK)) : Kns w v L := by
  rcases h.2 with ⟨rfl, h0⟩ | ⟨g, cap, cur, rfl, hge, hb, hk, hm, _, htk⟩
  · obtain rfl : L = [] := List.eq_nil_of_length_eq_zero h0
    exact ⟨none, 0, rfl, fun j i h => by cases h⟩
  · refine ⟨_, cap, rfl, fun j n hn => ⟨g, 0, rfl, ?_⟩⟩
    have hj : j < L.length := (List.getElem?_eq_some_iff.1 hn).1
    have : (L.map natK)[j]? = some (natK n) := by rw [List.getElem?_map, hn]; rfl
    rw [← htk, List.getElem?_take, if_pos (by omega)] at this
    simp only [Nat.zero_add, World.cell?, hb]
    simpa [natK] using this
theorem Kns.below {w w' : World} {v : Value} {L : List Nat} (h : Kns w v L) (k : Below w.heap.size w w') : Kns w' v L := by
  obtain ⟨a, cap, rfl, hcell⟩ := h
  refine ⟨a, cap, rfl, fun j m hj => ?_⟩
  obtain ⟨g, off, rfl, c0⟩ := hcell j m hj
  exact ⟨g, off, rfl, (k.cell (World.block_lt_of_cell? w _ c0)).trans c0⟩
set_option maxHeartbeats 1000000 in
theorem samekinds_any (v u : Value) (L : List Nat) (w : World) (hv : Kns w v L) (hu : Kns w u L) (hL : L.length ≤ 1000) :
    Calls Try.prog 30 #[v, u] w fun e w' => e = .returned (.bool true) ∧ Below w.heap.size w w' := by
  obtain ⟨ad, cap, rfl, hcell⟩ := hv
  obtain ⟨ad2, cap2, rfl, hcell2⟩ := hu
  have HC : Hid (∀ (j n : Nat), L[j]? = some n → ∃ g off, ad = some ⟨g, off, none⟩ ∧ w.cell? ⟨g, off + j, none⟩ = some (.int .u8 n)) := hcell
  have HC2 : Hid (∀ (j n : Nat), L[j]? = some n → ∃ g off, ad2 = some ⟨g, off, none⟩ ∧ w.cell? ⟨g, off + j, none⟩ = some (.int .u8 n)) := hcell2
  clear hcell hcell2
  have hne : ((L.length : Int) != (L.length : Int)) = false := by simp
  go_enter Try.func30, Try.ntmps30
  go_wp2
  go_loopw [5] (fun s5 wr => ∃ kk nq : Nat, kk ≤ L.length ∧ s5 = .int .i64 kk ∧ wr = w.drewN nq) (fun s5 _ => L.length - (intOf s5).toNat)
  case atStart => exact ⟨0, 0, Nat.zero_le _, rfl, rfl⟩
  case round =>
    obtain ⟨kk, nq, hkk, rfl, rfl⟩ := hrel
    by_cases hlt : kk < L.length
    · have hltz : (kk : Int) < (L.length : Int) := by omega
      obtain ⟨g, off, rfl, c0⟩ := HC.out kk L[kk] (List.getElem?_eq_getElem hlt)
      obtain ⟨g', off', rfl, d0⟩ := HC2.out kk L[kk] (List.getElem?_eq_getElem hlt)
      generalize ((L[kk] : Nat) : Int) = y at *
      have hyy : (y != y) = false := by simp
      go_wp2_with fail
      go_quiet (fail)
      go_wp2
      go_roundw
      case rel => exact ⟨kk + 1, _, by omega, by go_num, rfl⟩
      case measure => simp [intOf]; omega
    · have hltz : ¬ (kk : Int) < (L.length : Int) := by omega
      go_wp2
      go_ret
      exact ⟨rfl, ⟨rfl, rfl, rfl, Nat.le_refl _, fun _ _ => rfl⟩⟩
end Go.Proofs.Ytgoofonogdhhoaa
