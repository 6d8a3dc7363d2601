/- The document's vm: Poke. The document's vm: Poke of a page that goes elsewhere; its errors. -/
import Derived.Test.YtfmcoibpbcheiaaVrF
namespace Go.Proofs.Ytfmcoibpbcheiaa
open Go.RowKit Go.Maps
set_option linter.unusedVariables false
set_option maxRecDepth 100000
theorem Rb.remem {B : Nat} {w w' : World} {o : Ro} {N : Nat} {s : Vs} {L L' : List Int} (h : Rb B w o N s L) (k : Only o.g w w') (m : RMem w' o.m o.g (32 * N) L') : Rb B w' o N s L' := by
  obtain ⟨P, c, hP⟩ := h.c
  exact ⟨h.g, h.gm, h.gg, ⟨P, (k.block _ c.lt h.bm.2).trans c, hP⟩, m⟩
theorem Only.xr {o : Ro} {w w' : World} (h : Only o.g w w') : Apart (XR o) w w' := ⟨h.os, h.tape, h.output, h.size, fun k hk hx => h.block k hk (fun e => hx (.inr (.inr e)))⟩
/-- The byte goes into the frame where the page lies. -/
theorem rset_in {B : Nat} {w : World} {o : Ro} {N : Nat} {s : Vs} {L : List Int} (h : Rb B w o N s L) (hF : Fr N s) (p : Fin 6) (k i : Nat) (g : Nat) (b : Int) (hk : k < 16) (hi : i < 32) (hg : s.pg p k = some (g : Int)) : Calls Try.prog 78 #[.pointer (some ⟨o.m, 0, none⟩), .int .i64 (g : Nat), .int .i64 (i : Nat), .int .u8 b] w fun r w' => r = .returned (.int .i64 0) ∧ Rb B w' o N s (sbL N L g i b) ∧ Only o.g w w' ∧ (w'.cell? ⟨o.b, 0, none⟩ = some (.pointer (some ⟨o.m, 0, none⟩)) ∧ w'.cell? ⟨o.b, 7 + p.1 * 32 + k * 2 + 1, none⟩ = some (.int .i64 ((g : Int) + 1))) := by
  have hb := hF.pgs p k g hg
  refine (rsetbyte_any o.m o.g (32 * N) N g i b L w h.m rfl).mono ?_
  rintro r w' ⟨rfl, h1, h2⟩
  have e : inE (N : Int) g i 1 = 0 := by
    unfold inE
    rw [if_pos (inB_go _ _ _ _ (by omega))]
  have h3 := h.remem h2 h1
  have h4 := (h3.pg p k hk).2.1
  rw [hg] at h4
  exact ⟨by rw [e], h3, h2, h3.cp.2, h4⟩
set_option maxHeartbeats 4000000 in
theorem rpoke_own (B : Nat) (o : Ro) (N : Nat) (s : Vs) (L : List Int) (p : Fin 6) (a : Nat) (f b : Int) (w : World) (h : Rb B w o N s L) (hF : Fr N s) (hp : s.has p = true) (ha : a < 512) (hk : s.pg p ((a / 32 : Nat) : Int) = some f) (ho : ownB s f = true) : Calls Try.prog 52 #[.pointer (some ⟨o.b, 0, none⟩), .int .i64 p.1, .int .i64 a, .int .u8 b] w fun r w' => r = .returned (.int .i64 0) ∧ Rb B w' o N s (sbL N L f (a % 32 : Nat) b) ∧ Apart (XR o) w w' := by
  have cA := rat_any B o N s L p.1 a w h
  have ea : atE s p.1 (a : Int) = 0 := by
    have e1 : inA (a : Int) 1 = true := by
      unfold inA
      rw [decide_eq_true (by omega), decide_eq_true (by omega), decide_eq_true (by omega)]
      rfl
    unfold atE
    rw [prc_has0 s p hp]
    simp only [e1, Bool.true_eq_false, if_false, Int.toNat_natCast, hk]
    rw [if_neg (by simp)]
  rw [ea] at cA
  have hd1 : a / 32 < 16 := by omega
  obtain ⟨c1, c2, _⟩ := h.pg p (a / 32) hd1
  rw [hk] at c1 c2
  have c2' : w.cell? ⟨o.b, 7 + p.1 * 32 + a / 32 * 2 + 1, none⟩ = some (.int .i64 (f + 1)) := c2
  have c1' : w.cell? ⟨o.b, 7 + p.1 * 32 + a / 32 * 2, none⟩ = some (.bool true) := c1
  obtain ⟨q1, q2⟩ := (own_iff hF p (a / 32) f hk).1 ho
  obtain ⟨g0, rfl⟩ := Int.eq_ofNat_of_zero_le q1
  have hb := hF.pgs p _ _ hk
  have hN := hF.hi
  have HNe : Hid3 (∀ W, Below w.heap.size w W → Calls Try.prog 74 #[.pointer (some ⟨o.b, 0, none⟩), .agg #[.bool true, .int .i64 ((g0 : Int) + 1)]] W fun r w' => r = .returned (.bool false) ∧ Below W.heap.size W w') := ⟨fun W kb => by
    have := rneeds_any B o N s L p (a / 32) g0 W (h.below kb) hF hk
    rw [ho] at this
    exact this⟩
  have HX : Hid3 (∀ W, Below w.heap.size w W → (W.drew.cell? ⟨o.b, 0, none⟩ = some (.pointer (some ⟨o.m, 0, none⟩)) ∧ W.drew.cell? ⟨o.b, 7 + p.1 * 32 + a / 32 * 2 + 1, none⟩ = some (.int .i64 ((g0 : Int) + 1))) ∧ Calls Try.prog 78 #[.pointer (some ⟨o.m, 0, none⟩), .int .i64 (g0 : Nat), .int .i64 (a % 32 : Nat), .int .u8 b] W.drew fun r w' => r = .returned (.int .i64 0) ∧ Rb B w' o N s (sbL N L g0 (a % 32 : Nat) b) ∧ Only o.g W.drew w' ∧ (w'.cell? ⟨o.b, 0, none⟩ = some (.pointer (some ⟨o.m, 0, none⟩)) ∧ w'.cell? ⟨o.b, 7 + p.1 * 32 + a / 32 * 2 + 1, none⟩ = some (.int .i64 ((g0 : Int) + 1)))) := ⟨fun W kb => by
    have h1 := (h.below kb).below (below_drew W)
    have h2 := (h1.pg p (a / 32) hd1).2.1
    rw [hk] at h2
    exact ⟨⟨h1.cp.2, h2⟩, rset_in h1 hF p (a / 32) (a % 32) g0 b hd1 (by omega) hk⟩⟩
  have hq1 : Int.tdiv (a : Int) 32 = ((a / 32 : Nat) : Int) := by rw [Int.tdiv_eq_ediv_of_nonneg (by omega)]; omega
  have hq3 : Int.tmod (a : Int) 32 = ((a % 32 : Nat) : Int) := by rw [Int.tmod_eq_emod_of_nonneg (by omega)]; omega
  obtain ⟨_, _, e1, e4, _, _, _, e8, e9⟩ := arith512 a ha
  have hd : ((a / 32 : Nat) : Int) < 16 := by omega
  have hg1 : (g0 : Int) + 1 - 1 = g0 := by omega
  have hg2 : IntKind.i64.wrap (g0 : Int) = g0 := by rw [IntKind.wrap_i64]; omega
  have hg3 : IntKind.i64.wrap ((g0 : Int) + 1 - 1) = g0 := by rw [IntKind.wrap_i64]; omega
  have HRes : Hid3 (∀ W', Rb B W' o N s (sbL N L g0 (a % 32 : Nat) b) → Rb B W' o N s (sbL N L (g0 : Int) ((a % 32 : Nat) : Int) b)) := ⟨fun _ x => x⟩
  clear h hF hp hk ho ea c1 c2 q1 q2 hb
  obtain ⟨p, hp⟩ := p
  have h5 : (p : Int) < 6 := by omega
  generalize a / 32 = d at *
  generalize ((a % 32 : Nat) : Int) = mm at *
  generalize (g0 : Int) = g at *
  generalize (a : Int) = aa at *
  simp only at *
  go_enter Try.func52, Try.ntmps52
  go_wp2_with fail
  refine cA.mono ?_
  rintro r0 W ⟨rfl, hW⟩
  rw [hW]
  clear cA hW
  go_wp2_with fail
  refine (HNe.out _ (below_new _ _)).mono ?_
  rintro r0 W2 ⟨rfl, hB2⟩
  have HB2 : Hid3 (Below w.heap.size w W2) := ⟨(below_new w _).trans (hB2.mono (by simp))⟩
  clear hB2 c1' c2'
  have HS0 := Hid3.mk (HX.out W2 HB2.out).1
  have HSB := Hid3.mk (HX.out W2 HB2.out).2
  clear HX HNe
  go_wp2_with fail
  refine wp_region_held_drew (S := fun w' => w'.cell? ⟨o.b, 0, none⟩ = some (.pointer (some ⟨o.m, 0, none⟩)) ∧ w'.cell? ⟨o.b, 7 + p * 32 + d * 2 + 1, none⟩ = some (.int .i64 (g + 1))) (by kernel_rfl) HS0.out (fun hHeld => ?_)
  refine takeD (i := 0) (v := ?v72) (some 72) rfl rfl (by kernel_rfl) (by kernel_rfl) (by kernel_rfl) (fun _ _ _ h => h) (Or.inl ⟨by rfl, ?hy72⟩) (by assumption) ?_
  case hy72 => (intro w' hSw; (try dsimp only at hSw); (try obtain ⟨hs1, hs2⟩ := hSw); go_simp; try (with_reducible rfl))
  simp only [Act.put, List.setIfInBounds_toArray, List.set_cons_zero, List.set_cons_succ]
  refine takeD (i := 1) (v := ?v73) (some 73) rfl rfl (by kernel_rfl) (by kernel_rfl) (by kernel_rfl) (fun _ _ _ h => h) (Or.inl ⟨by rfl, ?hy73⟩) (by assumption) ?_
  case hy73 => (intro w' hSw; (try dsimp only at hSw); (try obtain ⟨hs1, hs2⟩ := hSw); go_simp; try (with_reducible rfl))
  simp only [Act.put, List.setIfInBounds_toArray, List.set_cons_zero, List.set_cons_succ]
  refine takeD (i := 2) (v := ?v74) (some 74) rfl rfl (by kernel_rfl) (by kernel_rfl) (by kernel_rfl) (fun _ _ _ h => h) (Or.inl ⟨by rfl, ?hy74⟩) (by assumption) ?_
  case hy74 => (intro w' hSw; (try dsimp only at hSw); (try obtain ⟨hs1, hs2⟩ := hSw); go_simp; try (with_reducible rfl))
  simp only [Act.put, List.setIfInBounds_toArray, List.set_cons_zero, List.set_cons_succ]
  refine takeD (i := 3) (v := ?v75) (some 75) rfl rfl (by kernel_rfl) (by kernel_rfl) (by kernel_rfl) (fun _ _ _ h => h) (Or.inl ⟨by rfl, ?hy75⟩) (by assumption) ?_
  case hy75 => (intro w' hSw; (try dsimp only at hSw); (try obtain ⟨hs1, hs2⟩ := hSw); go_simp; try (with_reducible rfl))
  simp only [Act.put, List.setIfInBounds_toArray, List.set_cons_zero, List.set_cons_succ]
  refine takeD (i := 4) (v := ?v76) (some 76) rfl rfl (by kernel_rfl) (by kernel_rfl) (by kernel_rfl) (fun _ _ _ h => h) (Or.inl ⟨by rfl, ?hy76⟩) (by assumption) ?_
  case hy76 => (intro w' hSw; (try dsimp only at hSw); (try obtain ⟨hs1, hs2⟩ := hSw); go_simp; try (with_reducible rfl))
  simp only [Act.put, List.setIfInBounds_toArray, List.set_cons_zero, List.set_cons_succ]
  refine takeD (i := 5) (v := ?v77) (some 77) rfl rfl (by kernel_rfl) (by kernel_rfl) (by kernel_rfl) (fun _ _ _ h => h) (Or.inl ⟨by rfl, ?hy77⟩) (by assumption) ?_
  case hy77 => (intro w' hSw; (try dsimp only at hSw); (try obtain ⟨hs1, hs2⟩ := hSw); go_simp; try (with_reducible rfl))
  simp only [Act.put, List.setIfInBounds_toArray, List.set_cons_zero, List.set_cons_succ]
  refine takeD (i := 6) (v := ?v78) (some 78) rfl rfl (by kernel_rfl) (by kernel_rfl) (by kernel_rfl) (fun _ _ _ h => h) (Or.inl ⟨by rfl, ?hy78⟩) (by assumption) ?_
  case hy78 => (intro w' hSw; (try dsimp only at hSw); (try obtain ⟨hs1, hs2⟩ := hSw); go_simp; try (with_reducible rfl))
  simp only [Act.put, List.setIfInBounds_toArray, List.set_cons_zero, List.set_cons_succ]
  refine takeD (i := 7) (v := ?v79) (some 79) rfl rfl (by kernel_rfl) (by kernel_rfl) (by kernel_rfl) (fun _ _ _ h => h) (Or.inl ⟨by rfl, ?hy79⟩) (by assumption) ?_
  case hy79 => (intro w' hSw; (try dsimp only at hSw); (try obtain ⟨hs1, hs2⟩ := hSw); go_simp; try (with_reducible rfl))
  simp only [Act.put, List.setIfInBounds_toArray, List.set_cons_zero, List.set_cons_succ]
  refine takeD (i := 8) (v := ?v80) (some 80) rfl rfl (by kernel_rfl) (by kernel_rfl) (by kernel_rfl) (fun _ _ _ h => h) (Or.inl ⟨by rfl, ?hy80⟩) (by assumption) ?_
  case hy80 => (intro w' hSw; (try dsimp only at hSw); (try obtain ⟨hs1, hs2⟩ := hSw); go_simp; try (with_reducible rfl))
  simp only [Act.put, List.setIfInBounds_toArray, List.set_cons_zero, List.set_cons_succ]
  refine takeD (i := 9) (v := ?v81) (some 81) rfl rfl (by kernel_rfl) (by kernel_rfl) (by kernel_rfl) (fun _ _ _ h => h) (Or.inl ⟨by rfl, ?hy81⟩) (by assumption) ?_
  case hy81 => (intro w' hSw; (try dsimp only at hSw); (try obtain ⟨hs1, hs2⟩ := hSw); go_simp; try (with_reducible rfl))
  simp only [Act.put, List.setIfInBounds_toArray, List.set_cons_zero, List.set_cons_succ]
  refine takeD (i := 10) (v := ?v82) (some 82) rfl rfl (by kernel_rfl) (by kernel_rfl) (by kernel_rfl) (fun _ _ _ h => h) (Or.inl ⟨by rfl, ?hy82⟩) (by assumption) ?_
  case hy82 => (intro w' hSw; (try dsimp only at hSw); (try obtain ⟨hs1, hs2⟩ := hSw); go_simp; try (with_reducible rfl))
  simp only [Act.put, List.setIfInBounds_toArray, List.set_cons_zero, List.set_cons_succ]
  refine takeD (i := 11) (v := ?v83) (some 83) rfl rfl (by kernel_rfl) (by kernel_rfl) (by kernel_rfl) (fun _ _ _ h => h) (Or.inl ⟨by rfl, ?hy83⟩) (by assumption) ?_
  case hy83 => (intro w' hSw; (try dsimp only at hSw); (try obtain ⟨hs1, hs2⟩ := hSw); go_simp; try (with_reducible rfl))
  simp only [Act.put, List.setIfInBounds_toArray, List.set_cons_zero, List.set_cons_succ]
  refine takeD (i := 12) (v := ?v84) (some 84) rfl rfl (by kernel_rfl) (by kernel_rfl) (by kernel_rfl) (fun _ _ _ h => h) (Or.inl ⟨by rfl, ?hy84⟩) (by assumption) ?_
  case hy84 => (intro w' hSw; (try dsimp only at hSw); (try obtain ⟨hs1, hs2⟩ := hSw); go_simp; try (with_reducible rfl))
  simp only [Act.put, List.setIfInBounds_toArray, List.set_cons_zero, List.set_cons_succ]
  refine takeD (i := 13) (v := (Value.int .i64 g)) (some 85) rfl rfl (by kernel_rfl) (by kernel_rfl) (by kernel_rfl) (fun _ _ _ h => h) (Or.inl ⟨by rfl, ?hy85⟩) (by assumption) ?_
  case hy85 => (intro w' hSw; (try dsimp only at hSw); (try obtain ⟨hs1, hs2⟩ := hSw); go_simp; try (with_reducible rfl))
  simp only [Act.put, List.setIfInBounds_toArray, List.set_cons_zero, List.set_cons_succ]
  refine takeD (i := 14) (v := ?v86) (some 86) rfl rfl (by kernel_rfl) (by kernel_rfl) (by kernel_rfl) (fun _ _ _ h => h) (Or.inl ⟨by rfl, ?hy86⟩) (by assumption) ?_
  case hy86 => (intro w' hSw; (try dsimp only at hSw); (try obtain ⟨hs1, hs2⟩ := hSw); go_simp; try (with_reducible rfl))
  simp only [Act.put, List.setIfInBounds_toArray, List.set_cons_zero, List.set_cons_succ]
  refine takeD (i := 15) (v := (Value.int .i64 mm)) (some 87) rfl rfl (by kernel_rfl) (by kernel_rfl) (by kernel_rfl) (fun _ _ _ h => h) (Or.inl ⟨by rfl, ?hy87⟩) (by assumption) ?_
  case hy87 => (intro w' hSw; (try dsimp only at hSw); (try obtain ⟨hs1, hs2⟩ := hSw); go_simp; try (with_reducible rfl))
  simp only [Act.put, List.setIfInBounds_toArray, List.set_cons_zero, List.set_cons_succ]
  refine takeD (i := 16) (v := ?v88) (some 88) rfl rfl (by kernel_rfl) (by kernel_rfl) (by kernel_rfl) (fun _ _ _ h => h) (Or.inl ⟨by rfl, ?hy88⟩) (by assumption) ?_
  case hy88 => (intro w' hSw; (try dsimp only at hSw); (try obtain ⟨hs1, hs2⟩ := hSw); go_simp; try (with_reducible rfl))
  simp only [Act.put, List.setIfInBounds_toArray, List.set_cons_zero, List.set_cons_succ]
  refine wpAnyH_ready (rs := [17]) (by kernel_rfl) (by simp) (AllReadyH.cons rfl (fun K hK => ?_) AllReadyH.nil)
  go_simp
  with_reducible refine HSB.out.mono ?_
  rintro r W6 ⟨rfl, hV6, ho6, hS6⟩
  have HV6 := Hid3.mk hV6
  have HA6 := Hid3.mk ho6
  have HS6 := Hid3.mk hS6
  clear hV6 ho6 hS6
  refine hK.out _ _ HS6.out (fun hHeld2 => ?_)
  clear hK K hHeld
  have hHeld := hHeld2
  clear hHeld2
  try simp only [Act.put, List.setIfInBounds_toArray, List.set_cons_zero, List.set_cons_succ]
  refine takeD (i := 18) (v := ?v8) (some 8) rfl rfl (by kernel_rfl) (by kernel_rfl) (by kernel_rfl) (fun _ _ _ h => h) (Or.inl ⟨by rfl, ?hy8⟩) (by assumption) ?_
  case hy8 => (intro w' hSw; (try dsimp only at hSw); (try obtain ⟨hs1, hs2⟩ := hSw); go_simp; try (with_reducible rfl))
  try simp only [Act.put]
  refine wpAnyH_done (by kernel_rfl) ?_ _
  go_wp2
  go_ret
  exact ⟨rfl, HRes.out _ HV6.out, ((Apart.of_below HB2.out).trans (Apart.of_below (below_drew W2))).trans HA6.out.xr⟩
end Go.Proofs.Ytfmcoibpbcheiaa
namespace Go.Proofs.Ytfmcoibpbcheiaa
open Go.RowKit Go.Maps
set_option linter.unusedVariables false
set_option maxRecDepth 100000
theorem set_self {α : Type} (l : List α) (i : Nat) (x : α) (h : l[i]? = some x) : l.set i x = l := by
  apply List.ext_getElem?
  intro j
  by_cases e : j = i
  · subst e
    have hl : j < l.length := (List.getElem?_eq_some_iff.1 h).1
    rw [List.getElem?_set_self hl, h]
  · rw [List.getElem?_set_ne (fun c => e c.symm)]
/-- A page that is mapped lies in another frame: one cell is stored. -/
theorem Rb.setfr {B : Nat} {w : World} {o : Ro} {N : Nat} {s : Vs} {L : List Int} (h : Rb B w o N s L) (p : Fin 6) (k : Nat) (hk : k < 16) (f v : Int) (hf : s.pg p k = some f) : Rb B (w.setCell ⟨o.b, 7 + p.1 * 32 + k * 2 + 1, none⟩ (.int .i64 (v + 1))) o N { s with pg := upF s.pg p (upI (s.pg p) k (some v)) } L := by
  have ap : Apart (XB o.b) w (w.setCell ⟨o.b, 7 + p.1 * 32 + k * 2 + 1, none⟩ (.int .i64 (v + 1))) := Apart.at w o.b _ _ rfl
  obtain ⟨P, c, hP⟩ := h.c
  have hp := p.2
  have hP2 := pgl_set hP p k hk (some v)
  have e0 : P.set (p.1 * 32 + k * 2) (.bool (some v).isSome) = P := set_self P _ _ (by rw [(hP.2 p k hk).1, hf]; rfl)
  rw [e0] at hP2
  have c1 := c.set (7 + (p.1 * 32 + k * 2 + 1)) (.int .i64 (v + 1))
  rw [rcs_setP _ _ _ _ _ _ (by rw [hP.1]; omega)] at c1
  have e2 : 7 + (p.1 * 32 + k * 2 + 1) = 7 + p.1 * 32 + k * 2 + 1 := by omega
  rw [e2] at c1
  exact ⟨h.g, h.gm, h.gg, ⟨_, c1, hP2⟩, XB.rm h ap⟩
theorem Rb.congr {B : Nat} {w : World} {o : Ro} {N : Nat} {s t : Vs} {L : List Int} (h : Rb B w o N s L) (h1 : t.has = s.has) (h2 : t.pg = s.pg) (h3 : t.cp = s.cp) : Rb B w o N t L := by
  obtain ⟨P, c, hP⟩ := h.c
  exact ⟨h.g, h.gm, h.gg, ⟨P, by rw [h1, h3]; exact c, by rw [h2]; exact hP⟩, h.m⟩
theorem at_in {s : Vs} {p : Fin 6} {a : Nat} {f : Int} (hp : s.has p = true) (ha : a < 512) (hk : s.pg p ((a / 32 : Nat) : Int) = some f) : atE s p.1 (a : Int) = 0 := by
  have e1 : inA (a : Int) 1 = true := by
    unfold inA
    rw [decide_eq_true (by omega), decide_eq_true (by omega), decide_eq_true (by omega)]
    rfl
  unfold atE
  rw [prc_has0 s p hp]
  simp only [e1, Bool.true_eq_false, if_false, Int.toNat_natCast, hk]
  rw [if_neg (by simp)]
set_option maxHeartbeats 1000000 in
theorem rpoke_err (B : Nat) (o : Ro) (N : Nat) (s : Vs) (L : List Int) (pid addr b : Int) (w : World) (h : Rb B w o N s L) (he : atE s pid addr ≠ 0) : Calls Try.prog 52 #[.pointer (some ⟨o.b, 0, none⟩), .int .i64 pid, .int .i64 addr, .int .u8 b] w fun r w' => r = .returned (.int .i64 (atE s pid addr)) ∧ w' = w := by
  have cA := rat_any B o N s L pid addr w h
  generalize atE s pid addr = e at *
  clear h
  go_enter Try.func52, Try.ntmps52
  go_wp2_with fail
  refine cA.mono ?_
  rintro r0 W ⟨rfl, hW⟩
  rw [hW]
  clear cA hW
  go_wp2
  go_ret
  exact ⟨rfl, rfl⟩
set_option maxHeartbeats 600000 in
theorem rpoke_space (B : Nat) (o : Ro) (N : Nat) (s : Vs) (L : List Int) (p : Fin 6) (a : Nat) (f b : Int) (w : World) (h : Rb B w o N s L) (hF : Fr N s) (hp : s.has p = true) (ha : a < 512) (hk : s.pg p ((a / 32 : Nat) : Int) = some f) (ho : ownB s f = false) (hz : zr N s = 0) : Calls Try.prog 52 #[.pointer (some ⟨o.b, 0, none⟩), .int .i64 p.1, .int .i64 a, .int .u8 b] w fun r w' => r = .returned (.int .i64 4) ∧ Below w.heap.size w w' := by
  have cA := rat_any B o N s L p.1 a w h
  rw [at_in hp ha hk] at cA
  have hd1 : a / 32 < 16 := by omega
  obtain ⟨c1, c2, _⟩ := h.pg p (a / 32) hd1
  rw [hk] at c1 c2
  have c2' : w.cell? ⟨o.b, 7 + p.1 * 32 + a / 32 * 2 + 1, none⟩ = some (.int .i64 (f + 1)) := c2
  have c1' : w.cell? ⟨o.b, 7 + p.1 * 32 + a / 32 * 2, none⟩ = some (.bool true) := c1
  have HNe : Hid3 (∀ W, Below w.heap.size w W → Calls Try.prog 74 #[.pointer (some ⟨o.b, 0, none⟩), .agg #[.bool true, .int .i64 (f + 1)]] W fun r w' => r = .returned (.bool true) ∧ Below W.heap.size W w') := ⟨fun W kb => by
    have := rneeds_any B o N s L p (a / 32) f W (h.below kb) hF hk
    rw [ho] at this
    exact this⟩
  have hq1 : Int.tdiv (a : Int) 32 = ((a / 32 : Nat) : Int) := by rw [Int.tdiv_eq_ediv_of_nonneg (by omega)]; omega
  have hq3 : Int.tmod (a : Int) 32 = ((a % 32 : Nat) : Int) := by rw [Int.tmod_eq_emod_of_nonneg (by omega)]; omega
  obtain ⟨_, _, e1, e4, _, _, _, e8, e9⟩ := arith512 a ha
  have hd : ((a / 32 : Nat) : Int) < 16 := by omega
  have HNx : Hid3 (∀ W, Below w.heap.size w W → Calls Try.prog 75 #[.pointer (some ⟨o.b, 0, none⟩)] W fun r w' => r = .returned (.int .i64 (-1)) ∧ w' = W) := ⟨fun W kb => by
    have := rnext_any B o N s L W (h.below kb) hF
    unfold nxI at this
    rw [if_pos hz] at this
    exact this⟩
  clear h hF hp hk ho c1 c2 hz
  obtain ⟨p, hp⟩ := p
  have h5 : (p : Int) < 6 := by omega
  generalize a / 32 = d at *
  generalize (a : Int) = aa at *
  simp only at *
  go_enter Try.func52, Try.ntmps52
  go_wp2_with fail
  refine cA.mono ?_
  rintro r0 W ⟨rfl, hW⟩
  rw [hW]
  clear cA hW
  go_wp2_with fail
  refine (HNe.out _ (below_new _ _)).mono ?_
  rintro r0 W2 ⟨rfl, hB2⟩
  have HB2 : Hid3 (Below w.heap.size w W2) := ⟨(below_new w _).trans (hB2.mono (by simp))⟩
  have x1 : W2.cell? ⟨w.heap.size, 1, none⟩ = some (.int .i64 (f + 1)) := (World.cell?_of_block (w := _) (hB2.block _ (by simp))).trans (by simp [go_sem])
  clear hB2 c1' c2' HNe
  go_wp2_with fail
  refine (HNx.out _ HB2.out).mono ?_
  rintro r0 W3 ⟨rfl, rfl⟩
  clear HNx
  go_wp2
  go_ret
  exact ⟨rfl, HB2.out⟩
end Go.Proofs.Ytfmcoibpbcheiaa
