/- The document's vm: Poke of a page that goes elsewhere. -/
import Derived.Test.YtfmcoibpbcheiaaVrH
namespace Go.Proofs.Ytfmcoibpbcheiaa
open Go.RowKit Go.Maps
set_option linter.unusedVariables false
set_option maxRecDepth 100000
set_option maxHeartbeats 1000000 in
theorem rpoke_cpy (B : Nat) (o : Ro) (N : Nat) (s : Vs) (L : List Int) (p : Fin 6) (a : Nat) (f b : Int) (w : World) (h : Rb B w o N s L) (hF : Fr N s) (hp : s.has p = true) (ha : a < 512) (hk : s.pg p ((a / 32 : Nat) : Int) = some f) (ho : ownB s f = false) (hz : 1 ≤ zr N s) (hf : f ≠ -1) (hcp : 0 ≤ s.cp ∧ s.cp ≤ 100000) : Calls Try.prog 52 #[.pointer (some ⟨o.b, 0, none⟩), .int .i64 p.1, .int .i64 a, .int .u8 b] w fun r w' => r = .returned (.int .i64 0) ∧ Rb B w' o N (mvS s p (a / 32) f (nx N s)) (sbL N (cpL N L (nx N s : Nat) f) (nx N s : Nat) (a % 32 : Nat) b) ∧ Apart (XR o) w w' := by
  have cA := rat_any B o N s L p.1 a w h
  rw [at_in hp ha hk] at cA
  have hd1 : a / 32 < 16 := by omega
  obtain ⟨c1, c2, _⟩ := h.pg p (a / 32) hd1
  rw [hk] at c1 c2
  have c2' : w.cell? ⟨o.b, 7 + p.1 * 32 + a / 32 * 2 + 1, none⟩ = some (.int .i64 (f + 1)) := c2
  have c1' : w.cell? ⟨o.b, 7 + p.1 * 32 + a / 32 * 2, none⟩ = some (.bool true) := c1
  have HNe : Hid3 (∀ W, Below w.heap.size w W → Calls Try.prog 74 #[.pointer (some ⟨o.b, 0, none⟩), .agg #[.bool true, .int .i64 (f + 1)]] W fun r w' => r = .returned (.bool true) ∧ Below W.heap.size W w') := ⟨fun W kb => by
    have := rneeds_any B o N s L p (a / 32) f W (h.below kb) hF hk
    rw [ho] at this
    exact this⟩
  have hq1 : Int.tdiv (a : Int) 32 = ((a / 32 : Nat) : Int) := by rw [Int.tdiv_eq_ediv_of_nonneg (by omega)]; omega
  have hq3 : Int.tmod (a : Int) 32 = ((a % 32 : Nat) : Int) := by rw [Int.tmod_eq_emod_of_nonneg (by omega)]; omega
  obtain ⟨_, _, e1, e4, _, _, _, e8, e9⟩ := arith512 a ha
  have hd : ((a / 32 : Nat) : Int) < 16 := by omega
  have hx := nx_ok hF.n hz
  have M : Mv0 N s p (a / 32) f (nx N s) := ⟨hF, hd1, hk, ho, hx⟩
  have hlt := hx.lt
  have hN := hF.hi
  have hF2 := M.fr2
  have hk2 : (mvS s p (a / 32) f (nx N s)).pg p ((a / 32 : Nat) : Int) = some ((nx N s : Nat) : Int) := by
    show upF s.pg p (upI (s.pg p) ((a / 32 : Nat) : Int) (some ((nx N s : Nat) : Int))) p ((a / 32 : Nat) : Int) = _
    rw [upF_same]
    exact if_pos rfl
  have HNx : Hid3 (∀ W, Below w.heap.size w W → Calls Try.prog 75 #[.pointer (some ⟨o.b, 0, none⟩)] W fun r w' => r = .returned (.int .i64 (nx N s : Nat)) ∧ w' = W) := ⟨fun W kb => by
    have := rnext_any B o N s L W (h.below kb) hF
    unfold nxI at this
    rw [if_neg (by omega)] at this
    exact this⟩
  have hfb := M.f2 hf
  have HZ : Hid3 (∀ W, Below w.heap.size w W → W.drew.cell? ⟨o.b, 0, none⟩ = some (.pointer (some ⟨o.m, 0, none⟩)) ∧ Calls Try.prog 77 #[.pointer (some ⟨o.m, 0, none⟩), .int .i64 (nx N s : Nat), .int .i64 f] W.drew fun r w' => r = .returned (.int .i64 0) ∧ Rb B w' o N s (cpL N L (nx N s : Nat) f) ∧ Only o.g W.drew w' ∧ (w'.cell? ⟨o.b, 0, none⟩ = some (.pointer (some ⟨o.m, 0, none⟩)) ∧ ∀ X v, w.heap.size ≤ X → W.cell? ⟨X, 1, none⟩ = some v → w'.cell? ⟨X, 1, none⟩ = some v)) := ⟨fun W kb => by
    have h1 := (h.below kb).below (below_drew W)
    refine ⟨h1.cp.2, (rcopy_any o.m o.g (32 * N) N (nx N s : Nat) f L W.drew h1.m rfl).mono ?_⟩
    rintro r w' ⟨rfl, k1, k2⟩
    have e : cpE (N : Int) (nx N s : Nat) f = 0 := by
      unfold cpE cpB
      rw [inB_go _ _ _ _ (by omega), inB_go _ _ _ _ (by omega)]
      rfl
    have h2 := h1.remem k2 k1
    exact ⟨by rw [e], h2, k2, h2.cp.2, fun X v hX hv => (World.cell?_of_block (w := W) (k2.block X (World.block_lt_of_cell? W _ hv) (fun e => by have := h.m.ltg; omega))).trans hv⟩⟩
  have HCp : Hid3 (∀ W, Rb B W o N s (cpL N L (nx N s : Nat) f) → W.cell? ⟨o.b, 199, none⟩ = some (.int .i64 s.cp) ∧ W.frozen? ⟨o.b, 199, none⟩ = false ∧ Rb B (W.setCell ⟨o.b, 199, none⟩ (.int .i64 (s.cp + 1))) o N { s with cp := s.cp + 1 } (cpL N L (nx N s : Nat) f)) := ⟨fun W k => ⟨k.cp.1, k.c.elim fun P hP => hP.1.thaw _, k.setcp _⟩⟩
  have HFr : Hid3 (∀ W, Rb B W o N { s with cp := s.cp + 1 } (cpL N L (nx N s : Nat) f) → W.cell? ⟨o.b, 7 + p.1 * 32 + a / 32 * 2 + 1, none⟩ = some (.int .i64 (f + 1)) ∧ W.frozen? ⟨o.b, 7 + p.1 * 32 + a / 32 * 2 + 1, none⟩ = false ∧ Rb B (W.setCell ⟨o.b, 7 + p.1 * 32 + a / 32 * 2 + 1, none⟩ (.int .i64 ((nx N s : Nat) + 1))) o N (mvS s p (a / 32) f (nx N s)) (cpL N L (nx N s : Nat) f)) := ⟨fun W k => by
    have k1 := (k.pg p (a / 32) hd1).2.1
    rw [show ({ s with cp := s.cp + 1 } : Vs).pg p ((a / 32 : Nat) : Int) = some f from hk] at k1
    refine ⟨k1, (k.pg p (a / 32) hd1).2.2 _, (k.setfr p (a / 32) hd1 f (nx N s : Nat) hk).congr (alS_n s f (nx N s)).2.1 rfl ?_⟩
    show (alS s f (nx N s)).cp = s.cp + 1
    rw [alS_cp]
    exact if_neg hf⟩
  have HX : Hid3 (∀ W, Rb B W o N (mvS s p (a / 32) f (nx N s)) (cpL N L (nx N s : Nat) f) → (W.drew.cell? ⟨o.b, 0, none⟩ = some (.pointer (some ⟨o.m, 0, none⟩)) ∧ W.drew.cell? ⟨o.b, 7 + p.1 * 32 + a / 32 * 2 + 1, none⟩ = some (.int .i64 (((nx N s : Nat) : Int) + 1))) ∧ Calls Try.prog 78 #[.pointer (some ⟨o.m, 0, none⟩), .int .i64 (nx N s : Nat), .int .i64 (a % 32 : Nat), .int .u8 b] W.drew fun r w' => r = .returned (.int .i64 0) ∧ Rb B w' o N (mvS s p (a / 32) f (nx N s)) (sbL N (cpL N L (nx N s : Nat) f) (nx N s : Nat) (a % 32 : Nat) b) ∧ Only o.g W.drew w' ∧ (w'.cell? ⟨o.b, 0, none⟩ = some (.pointer (some ⟨o.m, 0, none⟩)) ∧ w'.cell? ⟨o.b, 7 + p.1 * 32 + a / 32 * 2 + 1, none⟩ = some (.int .i64 (((nx N s : Nat) : Int) + 1)))) := ⟨fun W k => by
    have h1 := k.below (below_drew W)
    have h2 := (h1.pg p (a / 32) hd1).2.1
    rw [hk2] at h2
    exact ⟨⟨h1.cp.2, h2⟩, rset_in h1 hF2 p (a / 32) (a % 32) (nx N s) b hd1 (by omega) hk2⟩⟩
  have hm0 : ¬ ((nx N s : Nat) : Int) < 0 := by omega
  have hg1 : ((nx N s : Nat) : Int) + 1 - 1 = (nx N s : Nat) := by omega
  have hg2 : IntKind.i64.wrap ((nx N s : Nat) : Int) = (nx N s : Nat) := by rw [IntKind.wrap_i64]; omega
  have hg3 : IntKind.i64.wrap (((nx N s : Nat) : Int) + 1 - 1) = (nx N s : Nat) := by rw [IntKind.wrap_i64]; omega
  have hg4 : IntKind.i64.wrap (((nx N s : Nat) : Int) + 1) = ((nx N s : Nat) : Int) + 1 := by rw [IntKind.wrap_i64]; omega
  have hf0 : ¬ f + 1 = 0 := by omega
  have hf1 : f + 1 - 1 = f := by omega
  have hf2 : IntKind.i64.wrap f = f := by rw [IntKind.wrap_i64]; omega
  have hf3 : IntKind.i64.wrap (f + 1 - 1) = f := by rw [IntKind.wrap_i64]; omega
  have hcp5 : IntKind.i64.wrap (s.cp + 1) = s.cp + 1 := by rw [IntKind.wrap_i64]; omega
  have HRes : Hid3 (∀ W', Rb B W' o N (mvS s p (a / 32) f (nx N s)) (sbL N (cpL N L (nx N s : Nat) f) (nx N s : Nat) (a % 32 : Nat) b) → Rb B W' o N (mvS s p (a / 32) f (nx N s)) (sbL N (cpL N L (nx N s : Nat) f) ((nx N s : Nat) : Int) ((a % 32 : Nat) : Int) b)) := ⟨fun _ x => x⟩
  clear h hF hp hk ho c1 c2 hz hx M hlt hF2 hk2 hf hfb hcp
  obtain ⟨p, hp⟩ := p
  have h5 : (p : Int) < 6 := by omega
  generalize mvS s ⟨p, hp⟩ (a / 32) f (nx N s) = s2 at *
  generalize a / 32 = d at *
  generalize ((a % 32 : Nat) : Int) = mm at *
  generalize ((nx N s : Nat) : Int) = mI at *
  generalize (a : Int) = aa at *
  simp only at *
  go_enter Try.func52, Try.ntmps52
  go_wp2_with fail
  refine cA.mono ?_
  rintro r0 W ⟨rfl, hW⟩
  rw [hW]
  clear cA hW
  go_wp2_with fail
  refine (HNe.out _ (below_new _ _)).mono ?_
  rintro r0 W2 ⟨rfl, hB2⟩
  have HB2 : Hid3 (Below w.heap.size w W2) := ⟨(below_new w _).trans (hB2.mono (by simp))⟩
  have x1 : W2.cell? ⟨w.heap.size, 1, none⟩ = some (.int .i64 (f + 1)) := (World.cell?_of_block (w := _) (hB2.block _ (by simp))).trans (by simp [go_sem])
  clear hB2 c1' c2' HNe
  go_wp2_with fail
  refine (HNx.out _ HB2.out).mono ?_
  rintro r0 W3 ⟨rfl, rfl⟩
  clear HNx
  obtain ⟨z1, z2⟩ := HZ.out _ HB2.out
  have HC0 := Hid3.mk (And.intro z1 (show W3.drew.cell? ⟨w.heap.size, 1, none⟩ = some (.int .i64 (f + 1)) from x1))
  have HCB : Hid3 (Calls Try.prog 77 #[.pointer (some ⟨o.m, 0, none⟩), .int .i64 mI, .int .i64 f] W3.drew fun r w' => r = .returned (.int .i64 0) ∧ Rb B w' o N s (cpL N L mI f) ∧ Only o.g W3.drew w' ∧ (w'.cell? ⟨o.b, 0, none⟩ = some (.pointer (some ⟨o.m, 0, none⟩)) ∧ w'.cell? ⟨w.heap.size, 1, none⟩ = some (.int .i64 (f + 1)))) := ⟨z2.mono (by
    rintro r w' ⟨k0, k1, k2, k3, k4⟩
    exact ⟨k0, k1, k2, k3, k4 _ _ (Nat.le_refl _) x1⟩)⟩
  clear z1 z2 HZ
  go_wp2_with fail
  refine wp_region_held_drew (S := fun w' => w'.cell? ⟨o.b, 0, none⟩ = some (.pointer (some ⟨o.m, 0, none⟩)) ∧ w'.cell? ⟨w.heap.size, 1, none⟩ = some (.int .i64 (f + 1))) (by kernel_rfl) HC0.out (fun hHeld => ?_)
  refine takeD (i := 0) (v := ?v46) (some 46) rfl rfl (by kernel_rfl) (by kernel_rfl) (by kernel_rfl) (fun _ _ _ h => h) (Or.inl ⟨by rfl, ?hy46⟩) (by assumption) ?_
  case hy46 => (intro w' hSw; (try dsimp only at hSw); (try obtain ⟨hs1, hs2⟩ := hSw); go_simp; try (with_reducible rfl))
  simp only [Act.put, List.setIfInBounds_toArray, List.set_cons_zero, List.set_cons_succ]
  refine takeD (i := 1) (v := ?v47) (some 47) rfl rfl (by kernel_rfl) (by kernel_rfl) (by kernel_rfl) (fun _ _ _ h => h) (Or.inl ⟨by rfl, ?hy47⟩) (by assumption) ?_
  case hy47 => (intro w' hSw; (try dsimp only at hSw); (try obtain ⟨hs1, hs2⟩ := hSw); go_simp; try (with_reducible rfl))
  simp only [Act.put, List.setIfInBounds_toArray, List.set_cons_zero, List.set_cons_succ]
  refine takeD (i := 2) (v := ?v48) (some 48) rfl rfl (by kernel_rfl) (by kernel_rfl) (by kernel_rfl) (fun _ _ _ h => h) (Or.inl ⟨by rfl, ?hy48⟩) (by assumption) ?_
  case hy48 => (intro w' hSw; (try dsimp only at hSw); (try obtain ⟨hs1, hs2⟩ := hSw); go_simp; try (with_reducible rfl))
  simp only [Act.put, List.setIfInBounds_toArray, List.set_cons_zero, List.set_cons_succ]
  refine takeD (i := 3) (v := ?v49) (some 49) rfl rfl (by kernel_rfl) (by kernel_rfl) (by kernel_rfl) (fun _ _ _ h => h) (Or.inl ⟨by rfl, ?hy49⟩) (by assumption) ?_
  case hy49 => (intro w' hSw; (try dsimp only at hSw); (try obtain ⟨hs1, hs2⟩ := hSw); go_simp; try (with_reducible rfl))
  simp only [Act.put, List.setIfInBounds_toArray, List.set_cons_zero, List.set_cons_succ]
  refine takeD (i := 4) (v := ?v50) (some 50) rfl rfl (by kernel_rfl) (by kernel_rfl) (by kernel_rfl) (fun _ _ _ h => h) (Or.inl ⟨by rfl, ?hy50⟩) (by assumption) ?_
  case hy50 => (intro w' hSw; (try dsimp only at hSw); (try obtain ⟨hs1, hs2⟩ := hSw); go_simp; try (with_reducible rfl))
  simp only [Act.put, List.setIfInBounds_toArray, List.set_cons_zero, List.set_cons_succ]
  refine takeD (i := 5) (v := ?v51) (some 51) rfl rfl (by kernel_rfl) (by kernel_rfl) (by kernel_rfl) (fun _ _ _ h => h) (Or.inl ⟨by rfl, ?hy51⟩) (by assumption) ?_
  case hy51 => (intro w' hSw; (try dsimp only at hSw); (try obtain ⟨hs1, hs2⟩ := hSw); go_simp; try (with_reducible rfl))
  simp only [Act.put, List.setIfInBounds_toArray, List.set_cons_zero, List.set_cons_succ]
  refine takeD (i := 6) (v := ?v52) (some 52) rfl rfl (by kernel_rfl) (by kernel_rfl) (by kernel_rfl) (fun _ _ _ h => h) (Or.inl ⟨by rfl, ?hy52⟩) (by assumption) ?_
  case hy52 => (intro w' hSw; (try dsimp only at hSw); (try obtain ⟨hs1, hs2⟩ := hSw); go_simp; try (with_reducible rfl))
  simp only [Act.put, List.setIfInBounds_toArray, List.set_cons_zero, List.set_cons_succ]
  refine takeD (i := 7) (v := (Value.int .i64 f)) (some 53) rfl rfl (by kernel_rfl) (by kernel_rfl) (by kernel_rfl) (fun _ _ _ h => h) (Or.inl ⟨by rfl, ?hy53⟩) (by assumption) ?_
  case hy53 => (intro w' hSw; (try dsimp only at hSw); (try obtain ⟨hs1, hs2⟩ := hSw); go_simp; try (with_reducible rfl))
  simp only [Act.put, List.setIfInBounds_toArray, List.set_cons_zero, List.set_cons_succ]
  refine wpAnyH_ready (rs := [8]) (by kernel_rfl) (by simp) (AllReadyH.cons rfl (fun K hK => ?_) AllReadyH.nil)
  go_simp
  with_reducible refine HCB.out.mono ?_
  rintro r W4 ⟨rfl, hV4, ho4, hS4⟩
  have HV4 := Hid3.mk hV4
  have HA4 := Hid3.mk ho4
  have HS4 := Hid3.mk hS4
  clear hV4 ho4 hS4
  refine hK.out _ _ HS4.out (fun hHeld2 => ?_)
  clear hK K hHeld
  have hHeld := hHeld2
  clear hHeld2
  try simp only [Act.put]
  refine wpAnyH_done (by kernel_rfl) ?_ _
  obtain ⟨t1, t2, t3⟩ := HCp.out _ HV4.out
  obtain ⟨y1, y2, y3⟩ := HFr.out _ t3
  have HV5 := Hid3.mk y3
  clear t3 y3 x1 HCp HFr
  have HS0 := Hid3.mk (HX.out _ HV5.out).1
  have HSB := Hid3.mk (HX.out _ HV5.out).2
  clear HX HV5
  go_wp2_with fail
  refine wp_region_held_drew (S := fun w' => w'.cell? ⟨o.b, 0, none⟩ = some (.pointer (some ⟨o.m, 0, none⟩)) ∧ w'.cell? ⟨o.b, 7 + p * 32 + d * 2 + 1, none⟩ = some (.int .i64 (mI + 1))) (by kernel_rfl) HS0.out (fun hHeld => ?_)
  refine takeD (i := 0) (v := ?v72) (some 72) rfl rfl (by kernel_rfl) (by kernel_rfl) (by kernel_rfl) (fun _ _ _ h => h) (Or.inl ⟨by rfl, ?hy72⟩) (by assumption) ?_
  case hy72 => (intro w' hSw; (try dsimp only at hSw); (try obtain ⟨hs1, hs2⟩ := hSw); go_simp; try (with_reducible rfl))
  simp only [Act.put, List.setIfInBounds_toArray, List.set_cons_zero, List.set_cons_succ]
  refine takeD (i := 1) (v := ?v73) (some 73) rfl rfl (by kernel_rfl) (by kernel_rfl) (by kernel_rfl) (fun _ _ _ h => h) (Or.inl ⟨by rfl, ?hy73⟩) (by assumption) ?_
  case hy73 => (intro w' hSw; (try dsimp only at hSw); (try obtain ⟨hs1, hs2⟩ := hSw); go_simp; try (with_reducible rfl))
  simp only [Act.put, List.setIfInBounds_toArray, List.set_cons_zero, List.set_cons_succ]
  refine takeD (i := 2) (v := ?v74) (some 74) rfl rfl (by kernel_rfl) (by kernel_rfl) (by kernel_rfl) (fun _ _ _ h => h) (Or.inl ⟨by rfl, ?hy74⟩) (by assumption) ?_
  case hy74 => (intro w' hSw; (try dsimp only at hSw); (try obtain ⟨hs1, hs2⟩ := hSw); go_simp; try (with_reducible rfl))
  simp only [Act.put, List.setIfInBounds_toArray, List.set_cons_zero, List.set_cons_succ]
  refine takeD (i := 3) (v := ?v75) (some 75) rfl rfl (by kernel_rfl) (by kernel_rfl) (by kernel_rfl) (fun _ _ _ h => h) (Or.inl ⟨by rfl, ?hy75⟩) (by assumption) ?_
  case hy75 => (intro w' hSw; (try dsimp only at hSw); (try obtain ⟨hs1, hs2⟩ := hSw); go_simp; try (with_reducible rfl))
  simp only [Act.put, List.setIfInBounds_toArray, List.set_cons_zero, List.set_cons_succ]
  refine takeD (i := 4) (v := ?v76) (some 76) rfl rfl (by kernel_rfl) (by kernel_rfl) (by kernel_rfl) (fun _ _ _ h => h) (Or.inl ⟨by rfl, ?hy76⟩) (by assumption) ?_
  case hy76 => (intro w' hSw; (try dsimp only at hSw); (try obtain ⟨hs1, hs2⟩ := hSw); go_simp; try (with_reducible rfl))
  simp only [Act.put, List.setIfInBounds_toArray, List.set_cons_zero, List.set_cons_succ]
  refine takeD (i := 5) (v := ?v77) (some 77) rfl rfl (by kernel_rfl) (by kernel_rfl) (by kernel_rfl) (fun _ _ _ h => h) (Or.inl ⟨by rfl, ?hy77⟩) (by assumption) ?_
  case hy77 => (intro w' hSw; (try dsimp only at hSw); (try obtain ⟨hs1, hs2⟩ := hSw); go_simp; try (with_reducible rfl))
  simp only [Act.put, List.setIfInBounds_toArray, List.set_cons_zero, List.set_cons_succ]
  refine takeD (i := 6) (v := ?v78) (some 78) rfl rfl (by kernel_rfl) (by kernel_rfl) (by kernel_rfl) (fun _ _ _ h => h) (Or.inl ⟨by rfl, ?hy78⟩) (by assumption) ?_
  case hy78 => (intro w' hSw; (try dsimp only at hSw); (try obtain ⟨hs1, hs2⟩ := hSw); go_simp; try (with_reducible rfl))
  simp only [Act.put, List.setIfInBounds_toArray, List.set_cons_zero, List.set_cons_succ]
  refine takeD (i := 7) (v := ?v79) (some 79) rfl rfl (by kernel_rfl) (by kernel_rfl) (by kernel_rfl) (fun _ _ _ h => h) (Or.inl ⟨by rfl, ?hy79⟩) (by assumption) ?_
  case hy79 => (intro w' hSw; (try dsimp only at hSw); (try obtain ⟨hs1, hs2⟩ := hSw); go_simp; try (with_reducible rfl))
  simp only [Act.put, List.setIfInBounds_toArray, List.set_cons_zero, List.set_cons_succ]
  refine takeD (i := 8) (v := ?v80) (some 80) rfl rfl (by kernel_rfl) (by kernel_rfl) (by kernel_rfl) (fun _ _ _ h => h) (Or.inl ⟨by rfl, ?hy80⟩) (by assumption) ?_
  case hy80 => (intro w' hSw; (try dsimp only at hSw); (try obtain ⟨hs1, hs2⟩ := hSw); go_simp; try (with_reducible rfl))
  simp only [Act.put, List.setIfInBounds_toArray, List.set_cons_zero, List.set_cons_succ]
  refine takeD (i := 9) (v := ?v81) (some 81) rfl rfl (by kernel_rfl) (by kernel_rfl) (by kernel_rfl) (fun _ _ _ h => h) (Or.inl ⟨by rfl, ?hy81⟩) (by assumption) ?_
  case hy81 => (intro w' hSw; (try dsimp only at hSw); (try obtain ⟨hs1, hs2⟩ := hSw); go_simp; try (with_reducible rfl))
  simp only [Act.put, List.setIfInBounds_toArray, List.set_cons_zero, List.set_cons_succ]
  refine takeD (i := 10) (v := ?v82) (some 82) rfl rfl (by kernel_rfl) (by kernel_rfl) (by kernel_rfl) (fun _ _ _ h => h) (Or.inl ⟨by rfl, ?hy82⟩) (by assumption) ?_
  case hy82 => (intro w' hSw; (try dsimp only at hSw); (try obtain ⟨hs1, hs2⟩ := hSw); go_simp; try (with_reducible rfl))
  simp only [Act.put, List.setIfInBounds_toArray, List.set_cons_zero, List.set_cons_succ]
  refine takeD (i := 11) (v := ?v83) (some 83) rfl rfl (by kernel_rfl) (by kernel_rfl) (by kernel_rfl) (fun _ _ _ h => h) (Or.inl ⟨by rfl, ?hy83⟩) (by assumption) ?_
  case hy83 => (intro w' hSw; (try dsimp only at hSw); (try obtain ⟨hs1, hs2⟩ := hSw); go_simp; try (with_reducible rfl))
  simp only [Act.put, List.setIfInBounds_toArray, List.set_cons_zero, List.set_cons_succ]
  refine takeD (i := 12) (v := ?v84) (some 84) rfl rfl (by kernel_rfl) (by kernel_rfl) (by kernel_rfl) (fun _ _ _ h => h) (Or.inl ⟨by rfl, ?hy84⟩) (by assumption) ?_
  case hy84 => (intro w' hSw; (try dsimp only at hSw); (try obtain ⟨hs1, hs2⟩ := hSw); go_simp; try (with_reducible rfl))
  simp only [Act.put, List.setIfInBounds_toArray, List.set_cons_zero, List.set_cons_succ]
  refine takeD (i := 13) (v := (Value.int .i64 mI)) (some 85) rfl rfl (by kernel_rfl) (by kernel_rfl) (by kernel_rfl) (fun _ _ _ h => h) (Or.inl ⟨by rfl, ?hy85⟩) (by assumption) ?_
  case hy85 => (intro w' hSw; (try dsimp only at hSw); (try obtain ⟨hs1, hs2⟩ := hSw); go_simp; try (with_reducible rfl))
  simp only [Act.put, List.setIfInBounds_toArray, List.set_cons_zero, List.set_cons_succ]
  refine takeD (i := 14) (v := ?v86) (some 86) rfl rfl (by kernel_rfl) (by kernel_rfl) (by kernel_rfl) (fun _ _ _ h => h) (Or.inl ⟨by rfl, ?hy86⟩) (by assumption) ?_
  case hy86 => (intro w' hSw; (try dsimp only at hSw); (try obtain ⟨hs1, hs2⟩ := hSw); go_simp; try (with_reducible rfl))
  simp only [Act.put, List.setIfInBounds_toArray, List.set_cons_zero, List.set_cons_succ]
  refine takeD (i := 15) (v := (Value.int .i64 mm)) (some 87) rfl rfl (by kernel_rfl) (by kernel_rfl) (by kernel_rfl) (fun _ _ _ h => h) (Or.inl ⟨by rfl, ?hy87⟩) (by assumption) ?_
  case hy87 => (intro w' hSw; (try dsimp only at hSw); (try obtain ⟨hs1, hs2⟩ := hSw); go_simp; try (with_reducible rfl))
  simp only [Act.put, List.setIfInBounds_toArray, List.set_cons_zero, List.set_cons_succ]
  refine takeD (i := 16) (v := ?v88) (some 88) rfl rfl (by kernel_rfl) (by kernel_rfl) (by kernel_rfl) (fun _ _ _ h => h) (Or.inl ⟨by rfl, ?hy88⟩) (by assumption) ?_
  case hy88 => (intro w' hSw; (try dsimp only at hSw); (try obtain ⟨hs1, hs2⟩ := hSw); go_simp; try (with_reducible rfl))
  simp only [Act.put, List.setIfInBounds_toArray, List.set_cons_zero, List.set_cons_succ]
  refine wpAnyH_ready (rs := [17]) (by kernel_rfl) (by simp) (AllReadyH.cons rfl (fun K hK => ?_) AllReadyH.nil)
  go_simp
  with_reducible refine HSB.out.mono ?_
  rintro r W6 ⟨rfl, hV6, ho6, hS6⟩
  have HV6 := Hid3.mk hV6
  have HA6 := Hid3.mk ho6
  have HS6 := Hid3.mk hS6
  clear hV6 ho6 hS6
  refine hK.out _ _ HS6.out (fun hHeld2 => ?_)
  clear hK K hHeld
  have hHeld := hHeld2
  clear hHeld2
  try simp only [Act.put, List.setIfInBounds_toArray, List.set_cons_zero, List.set_cons_succ]
  refine takeD (i := 18) (v := ?v8) (some 8) rfl rfl (by kernel_rfl) (by kernel_rfl) (by kernel_rfl) (fun _ _ _ h => h) (Or.inl ⟨by rfl, ?hy8⟩) (by assumption) ?_
  case hy8 => (intro w' hSw; (try dsimp only at hSw); (try obtain ⟨hs1, hs2⟩ := hSw); go_simp; try (with_reducible rfl))
  try simp only [Act.put]
  refine wpAnyH_done (by kernel_rfl) ?_ _
  go_wp2
  go_ret
  exact ⟨rfl, HRes.out _ HV6.out, ((((Apart.of_below HB2.out).trans (Apart.of_below (below_drew W3))).trans HA4.out.xr).trans ((Apart.at (X := XR o) W4 o.b _ _ (.inl rfl)).trans (Apart.at (X := XR o) _ o.b _ _ (.inl rfl)).drew)).trans HA6.out.xr⟩
end Go.Proofs.Ytfmcoibpbcheiaa
