/- The program's Fork. -/
import Derived.Test.YtpmndhbcohjboaaRvZ
namespace Go.Proofs.Ytpmndhbcohjboaa
open Go.RowKit Go.Maps
set_option linter.unusedVariables false
set_option maxRecDepth 100000
def vi (q : Rs) (i : Nat) : Fin 6 → List Int := fun e => if e.1 < i then q.v e else []
theorem vi_six (q : Rs) : vi q 6 = q.v := funext fun e => if_pos e.2
theorem vi_zero (q : Rs) : vi q 0 = fun _ => [] := funext fun e => if_neg (Nat.not_lt_zero _)
theorem vi_succ (q : Rs) (e : Fin 6) : upd (vi q e.1) e (q.v e) = vi q (e.1 + 1) := funext fun f => by
  unfold upd vi
  by_cases h : f = e
  · subst h
    rw [if_pos rfl, if_pos (Nat.lt_succ_self _)]
  · rw [if_neg h]
    have : f.1 ≠ e.1 := fun i => h (Fin.ext i)
    by_cases h2 : f.1 < e.1
    · rw [if_pos h2, if_pos (by omega)]
    · rw [if_neg h2, if_neg (by omega)]
/-- As the fork's vectors are laid. -/
structure FkI (w wr : World) (fb fm : Nat) (q : Rs) (i : Nat) : Prop where
  out : ∃ fav fvs, Bk w.heap.size wr fb fm fav fvs ⟨q.d, vi q i⟩
  below : Below w.heap.size w wr
theorem FkI.vec {w wr W : World} {fb fm : Nat} {q : Rs} {fav v' : Value} {fvs : Fin 6 → Value} (e : Fin 6) (hw : Below w.heap.size w wr) (hf : Bk w.heap.size wr fb fm fav fvs ⟨q.d, vi q e.1⟩) (hB : Below wr.heap.size wr W) (hr : RowO W wr.heap.size 5 1 v' (q.v e).length (uCs (q.v e))) : FkI w (W.setCell ⟨fb, 2 + e.1, none⟩ v') fb fm q (e.1 + 1) := by
  have hkW := (hf.below hB).k
  have ha : Apart (fun k => k = fb ∨ (fvs e).ownBlock = some k) wr (W.setCell ⟨fb, 2 + e.1, none⟩ v') := (Apart.of_below hB).trans (Apart.at W fb _ v' (.inl rfl))
  have hu : RowO (W.setCell ⟨fb, 2 + e.1, none⟩ v') w.heap.size 5 1 v' (q.v e).length (uCs (q.v e)) := (hr.stay (Apart.set W ⟨fb, 2 + e.1, none⟩ v') (fun g hg i => by
    have i : g = fb := i
    subst i
    exact hr.ne_cl hkW (by decide) hg)).base hw.size
  have hn : v'.ownBlock = none ∨ v'.ownBlock = (fvs e).ownBlock ∨ ∃ g, wr.heap.size ≤ g ∧ v'.ownBlock = some g := by
    cases hv : v'.ownBlock with
    | none => exact .inl rfl
    | some g => exact .inr (.inr ⟨g, (hr.lt g hv).1, rfl⟩)
  have hs := hf.vset e (q.v e) (hkW.set _ _) hu ha hn
  obtain ⟨av2, vs2, g1, g2, g3⟩ := hs.out
  have hq : (⟨q.d, upd (vi q e.1) e (q.v e)⟩ : Rs) = ⟨q.d, vi q (e.1 + 1)⟩ := by rw [vi_succ]
  rw [hq] at g1
  exact ⟨⟨av2, vs2, g1⟩, hw.trans (g2.below _ (fun k i => (hf.lt k i).1) hw.size)⟩
set_option maxHeartbeats 16000000 in
theorem fork_any (B b m : Nat) (av : Value) (vs : Fin 6 → Value) (q : Rs) (N : Nat) (w : World) (h : Bk B w b m av vs q) (hO : q.Ok N) (hN : N ≤ 900) : Calls Try.prog 20 #[.pointer (some ⟨b, 0, none⟩)] w fun e w' => ∃ fb fm fav fvs, e = .returned (.pointer (some ⟨fb, 0, none⟩)) ∧ Bk w.heap.size w' fb fm fav fvs q ∧ Below w.heap.size w w' := by
  have HK := Hid3.mk h
  have HO := Hid3.mk hO
  have HN := Hid3.mk hN
  have hfew := hO.few
  have c1 := clone_d B av q.d.length (dCs q.d) w.drew (h.a.below (below_drew _)) (dCs_one _) (by omega)
  obtain ⟨al, kl, hal⟩ := h.a.sl
  rw [hal] at c1
  have hbl := h.c.l
  have hS0 : Hid3 (w.drew.cell? ⟨b, 0, none⟩ = some (.slice al q.d.length kl) ∧ w.drew.cell? ⟨b, 1, none⟩ = some (.map (some m))) := ⟨by
    rw [← hal]
    exact ⟨h.c.c0, h.c.c1⟩⟩
  have HS : Hid3 (∀ W, Below w.heap.size w W → W.cell? ⟨b, 0, none⟩ = some (.slice al q.d.length kl) ∧ W.cell? ⟨b, 1, none⟩ = some (.map (some m))) := ⟨fun W hW => by
    rw [← hal]
    exact ⟨(h.below hW).c.c0, (h.below hW).c.c1⟩⟩
  have HM := Hid3.mk h.m
  have HF : Hid3 (∀ W1 v1 W2, Below w.heap.size w W1 → RowO W1 w.heap.size 63 2 v1 q.d.length (dCs q.d) → Below W1.heap.size W1 W2 → Mq W2 W1.heap.size q.d → FkI w (W2.alloc (.cells #[v1, .map (some W1.heap.size), .slice none 0 0, .slice none 0 0, .slice none 0 0, .slice none 0 0, .slice none 0 0, .slice none 0 0] 60)) W2.heap.size W1.heap.size q 0) := ⟨fun W1 v1 W2 h1 h2 h3 h4 => by
    have hX := below_new W2 (.cells #[v1, .map (some W1.heap.size), .slice none 0 0, .slice none 0 0, .slice none 0 0, .slice none 0 0, .slice none 0 0, .slice none 0 0] 60)
    have h12 := h1.trans (h3.mono h1.size)
    refine ⟨⟨v1, fun _ => .slice none 0 0, ⟨h12.size, h1.size, Cl.new W2 60 (bCs v1 W1.heap.size (fun _ => .slice none 0 0)), (h2.below h3).below hX, h4.below hX, fun e => ?_, fun e f g i => by cases i⟩⟩, h12.trans (hX.mono h12.size)⟩
    rw [vi_zero]
    exact RowO.nil _ _ _ _⟩
  obtain ⟨a0, k0, e0⟩ := (h.v 0).sl
  obtain ⟨a1, k1, e1⟩ := (h.v 1).sl
  obtain ⟨a2, k2, e2⟩ := (h.v 2).sl
  obtain ⟨a3, k3, e3⟩ := (h.v 3).sl
  obtain ⟨a4, k4, e4⟩ := (h.v 4).sl
  obtain ⟨a5, k5, e5⟩ := (h.v 5).sl
  have HC6 : Hid3 (∀ W, Below w.heap.size w W → W.cell? ⟨b, 2, none⟩ = some (.slice a0 (q.v 0).length k0) ∧ W.cell? ⟨b, 3, none⟩ = some (.slice a1 (q.v 1).length k1) ∧ W.cell? ⟨b, 4, none⟩ = some (.slice a2 (q.v 2).length k2) ∧ W.cell? ⟨b, 5, none⟩ = some (.slice a3 (q.v 3).length k3) ∧ W.cell? ⟨b, 6, none⟩ = some (.slice a4 (q.v 4).length k4) ∧ W.cell? ⟨b, 7, none⟩ = some (.slice a5 (q.v 5).length k5)) := ⟨fun W hW => by
    rw [← e0, ← e1, ← e2, ← e3, ← e4, ← e5]
    exact ⟨(h.below hW).c.cv 0, (h.below hW).c.cv 1, (h.below hW).c.cv 2, (h.below hW).c.cv 3, (h.below hW).c.cv 4, (h.below hW).c.cv 5⟩⟩
  clear h hO hN hal
  go_enter Try.func20, Try.ntmps20
  go_wp2_with fail
  go_region_held3 (fun w' => w'.cell? ⟨b, 0, none⟩ = some (.slice al q.d.length kl) ∧ w'.cell? ⟨b, 1, none⟩ = some (.map (some m))) (with_reducible (first | exact hS0.out | exact hS1.out | exact hS2.out | exact hS3.out)) ((first
    | (go_at_call 40; (with_reducible refine c1.mono ?_); rintro e W1 ⟨v1, rfl, hr1, hB1⟩; obtain ⟨av1, kv1, rfl⟩ := hr1.sl; have HB1 : Hid3 (Below w.heap.size w W1) := Hid3.mk ((below_drew w).trans hB1); have HR1 := Hid3.mk hr1; have hS1 := Hid3.mk (HS.out W1 HB1.out); have cm := mclone_any m q.d W1 (HM.out.below HB1.out); clear hr1 hB1)
    | (go_at_call 41; (with_reducible refine cm.mono ?_); rintro e W2 ⟨rfl, hm2, hB2⟩; have hS2 := Hid3.mk (HS.out W2 (HB1.out.trans (hB2.mono HB1.out.size))); have HI0 := Hid3.mk (HF.out W1 _ W2 HB1.out HR1.out hB2 hm2); have hS3 := Hid3.mk (HS.out _ HI0.out.below); clear hm2 hB2)))
  clear c1 cm hS0 hS1 hS2 hS3 HS HM HF HR1 HB1
  generalize W2.heap.size = fb at *
  generalize W1.heap.size = fm at *
  generalize (W2.alloc (.cells #[.slice av1 q.d.length kv1, .map (some fm), .slice none 0 0, .slice none 0 0, .slice none 0 0, .slice none 0 0, .slice none 0 0, .slice none 0 0] 60)) = W3 at *
  obtain ⟨x0, x1, x2, x3, x4, x5⟩ := HC6.out W3 HI0.out.below
  have hbl3 : b < W3.heap.size := Nat.lt_of_lt_of_le hbl HI0.out.below.size
  clear HC6
  go_wp2
  go_loopw [4, 5, 24] (fun _ _ s24 wr => ∃ kk : Nat, kk ≤ 6 ∧ s24 = .int .i64 kk ∧ Hid3 (FkI w wr fb fm q kk)) (fun _ _ s24 _ => 6 - (intOf s24).toNat)
  case atStart => exact ⟨0, by omega, rfl, HI0⟩
  case round =>
    obtain ⟨kk, hkk, rfl, HI⟩ := hrel
    clear HI0 x0 x1 x2 x3 x4 x5
    by_cases h0 : kk = 0
    · subst h0
      obtain ⟨fav, fvs, hf⟩ := HI.out.out
      have hfd := hf.below (below_drew _)
      have hc := clone_u B (vs 0) (q.v 0).length (uCs (q.v 0)) wr.drew ((HK.out.v 0).below HI.out.below.drew) (uCs_one _) (by have := HO.out.vec 0; have := HN.out; omega)
      have HS : Hid3 (∀ W v', Below wr.drew.heap.size wr.drew W → RowO W wr.drew.heap.size 5 1 v' (q.v 0).length (uCs (q.v 0)) → FkI w (W.setCell ⟨fb, 2 + 0, none⟩ v') fb fm q (0 + 1)) := ⟨fun W v' hB hr => FkI.vec 0 HI.out.below.drew hfd hB hr⟩
      have HC : Hid3 (∀ W, Below wr.drew.heap.size wr.drew W → W.cell? ⟨fb, 2 + 0, none⟩ = some (fvs 0) ∧ W.frozen? ⟨fb, 2 + 0, none⟩ = false ∧ fb < W.heap.size) := ⟨fun W hB => ⟨(hfd.below hB).c.cv 0, (hfd.below hB).c.f _, (hfd.below hB).c.l⟩⟩
      obtain ⟨ax, kx, hx⟩ := (hf.v 0).sl
      rw [hx] at HC
      rw [e0] at hc
      have hix : ∀ w, (Instr.index 58 (.agg #[.slice a0 (q.v 0).length k0, .slice a1 (q.v 1).length k1, .slice a2 (q.v 2).length k2, .slice a3 (q.v 3).length k3, .slice a4 (q.v 4).length k4, .slice a5 (q.v 5).length k5]) (.int .i64 0)).run Try.prog w = .ok (.slice a0 (q.v 0).length k0) w := fun w => by kernel_rfl
      clear hf hfd hx HI
      go_wp2_with fail
      go_region_held3 (fun _ => True) (trivial) ((go_at_call 42; (with_reducible refine hc.mono ?_); rintro e W ⟨v', rfl, hr, hB⟩; obtain ⟨av', kv', rfl⟩ := hr.sl; have HS2 := Hid3.mk (HS.out W _ hB hr); obtain ⟨z1, z2, z3⟩ := HC.out W hB; clear hr hB))
      all_goals
        go_wp2
        go_roundw
        case rel => exact ⟨0 + 1, by omega, by go_num, HS2⟩
        case measure => simp [intOf]
    by_cases h1 : kk = 1
    · subst h1
      obtain ⟨fav, fvs, hf⟩ := HI.out.out
      have hfd := hf.below (below_drew _)
      have hc := clone_u B (vs 1) (q.v 1).length (uCs (q.v 1)) wr.drew ((HK.out.v 1).below HI.out.below.drew) (uCs_one _) (by have := HO.out.vec 1; have := HN.out; omega)
      have HS : Hid3 (∀ W v', Below wr.drew.heap.size wr.drew W → RowO W wr.drew.heap.size 5 1 v' (q.v 1).length (uCs (q.v 1)) → FkI w (W.setCell ⟨fb, 2 + 1, none⟩ v') fb fm q (1 + 1)) := ⟨fun W v' hB hr => FkI.vec 1 HI.out.below.drew hfd hB hr⟩
      have HC : Hid3 (∀ W, Below wr.drew.heap.size wr.drew W → W.cell? ⟨fb, 2 + 1, none⟩ = some (fvs 1) ∧ W.frozen? ⟨fb, 2 + 1, none⟩ = false ∧ fb < W.heap.size) := ⟨fun W hB => ⟨(hfd.below hB).c.cv 1, (hfd.below hB).c.f _, (hfd.below hB).c.l⟩⟩
      obtain ⟨ax, kx, hx⟩ := (hf.v 1).sl
      rw [hx] at HC
      rw [e1] at hc
      have hix : ∀ w, (Instr.index 58 (.agg #[.slice a0 (q.v 0).length k0, .slice a1 (q.v 1).length k1, .slice a2 (q.v 2).length k2, .slice a3 (q.v 3).length k3, .slice a4 (q.v 4).length k4, .slice a5 (q.v 5).length k5]) (.int .i64 1)).run Try.prog w = .ok (.slice a1 (q.v 1).length k1) w := fun w => by kernel_rfl
      clear hf hfd hx HI
      go_wp2_with fail
      go_region_held3 (fun _ => True) (trivial) ((go_at_call 42; (with_reducible refine hc.mono ?_); rintro e W ⟨v', rfl, hr, hB⟩; obtain ⟨av', kv', rfl⟩ := hr.sl; have HS2 := Hid3.mk (HS.out W _ hB hr); obtain ⟨z1, z2, z3⟩ := HC.out W hB; clear hr hB))
      all_goals
        go_wp2
        go_roundw
        case rel => exact ⟨1 + 1, by omega, by go_num, HS2⟩
        case measure => simp [intOf]
    by_cases h2 : kk = 2
    · subst h2
      obtain ⟨fav, fvs, hf⟩ := HI.out.out
      have hfd := hf.below (below_drew _)
      have hc := clone_u B (vs 2) (q.v 2).length (uCs (q.v 2)) wr.drew ((HK.out.v 2).below HI.out.below.drew) (uCs_one _) (by have := HO.out.vec 2; have := HN.out; omega)
      have HS : Hid3 (∀ W v', Below wr.drew.heap.size wr.drew W → RowO W wr.drew.heap.size 5 1 v' (q.v 2).length (uCs (q.v 2)) → FkI w (W.setCell ⟨fb, 2 + 2, none⟩ v') fb fm q (2 + 1)) := ⟨fun W v' hB hr => FkI.vec 2 HI.out.below.drew hfd hB hr⟩
      have HC : Hid3 (∀ W, Below wr.drew.heap.size wr.drew W → W.cell? ⟨fb, 2 + 2, none⟩ = some (fvs 2) ∧ W.frozen? ⟨fb, 2 + 2, none⟩ = false ∧ fb < W.heap.size) := ⟨fun W hB => ⟨(hfd.below hB).c.cv 2, (hfd.below hB).c.f _, (hfd.below hB).c.l⟩⟩
      obtain ⟨ax, kx, hx⟩ := (hf.v 2).sl
      rw [hx] at HC
      rw [e2] at hc
      have hix : ∀ w, (Instr.index 58 (.agg #[.slice a0 (q.v 0).length k0, .slice a1 (q.v 1).length k1, .slice a2 (q.v 2).length k2, .slice a3 (q.v 3).length k3, .slice a4 (q.v 4).length k4, .slice a5 (q.v 5).length k5]) (.int .i64 2)).run Try.prog w = .ok (.slice a2 (q.v 2).length k2) w := fun w => by kernel_rfl
      clear hf hfd hx HI
      go_wp2_with fail
      go_region_held3 (fun _ => True) (trivial) ((go_at_call 42; (with_reducible refine hc.mono ?_); rintro e W ⟨v', rfl, hr, hB⟩; obtain ⟨av', kv', rfl⟩ := hr.sl; have HS2 := Hid3.mk (HS.out W _ hB hr); obtain ⟨z1, z2, z3⟩ := HC.out W hB; clear hr hB))
      all_goals
        go_wp2
        go_roundw
        case rel => exact ⟨2 + 1, by omega, by go_num, HS2⟩
        case measure => simp [intOf]
    by_cases h3 : kk = 3
    · subst h3
      obtain ⟨fav, fvs, hf⟩ := HI.out.out
      have hfd := hf.below (below_drew _)
      have hc := clone_u B (vs 3) (q.v 3).length (uCs (q.v 3)) wr.drew ((HK.out.v 3).below HI.out.below.drew) (uCs_one _) (by have := HO.out.vec 3; have := HN.out; omega)
      have HS : Hid3 (∀ W v', Below wr.drew.heap.size wr.drew W → RowO W wr.drew.heap.size 5 1 v' (q.v 3).length (uCs (q.v 3)) → FkI w (W.setCell ⟨fb, 2 + 3, none⟩ v') fb fm q (3 + 1)) := ⟨fun W v' hB hr => FkI.vec 3 HI.out.below.drew hfd hB hr⟩
      have HC : Hid3 (∀ W, Below wr.drew.heap.size wr.drew W → W.cell? ⟨fb, 2 + 3, none⟩ = some (fvs 3) ∧ W.frozen? ⟨fb, 2 + 3, none⟩ = false ∧ fb < W.heap.size) := ⟨fun W hB => ⟨(hfd.below hB).c.cv 3, (hfd.below hB).c.f _, (hfd.below hB).c.l⟩⟩
      obtain ⟨ax, kx, hx⟩ := (hf.v 3).sl
      rw [hx] at HC
      rw [e3] at hc
      have hix : ∀ w, (Instr.index 58 (.agg #[.slice a0 (q.v 0).length k0, .slice a1 (q.v 1).length k1, .slice a2 (q.v 2).length k2, .slice a3 (q.v 3).length k3, .slice a4 (q.v 4).length k4, .slice a5 (q.v 5).length k5]) (.int .i64 3)).run Try.prog w = .ok (.slice a3 (q.v 3).length k3) w := fun w => by kernel_rfl
      clear hf hfd hx HI
      go_wp2_with fail
      go_region_held3 (fun _ => True) (trivial) ((go_at_call 42; (with_reducible refine hc.mono ?_); rintro e W ⟨v', rfl, hr, hB⟩; obtain ⟨av', kv', rfl⟩ := hr.sl; have HS2 := Hid3.mk (HS.out W _ hB hr); obtain ⟨z1, z2, z3⟩ := HC.out W hB; clear hr hB))
      all_goals
        go_wp2
        go_roundw
        case rel => exact ⟨3 + 1, by omega, by go_num, HS2⟩
        case measure => simp [intOf]
    by_cases h4 : kk = 4
    · subst h4
      obtain ⟨fav, fvs, hf⟩ := HI.out.out
      have hfd := hf.below (below_drew _)
      have hc := clone_u B (vs 4) (q.v 4).length (uCs (q.v 4)) wr.drew ((HK.out.v 4).below HI.out.below.drew) (uCs_one _) (by have := HO.out.vec 4; have := HN.out; omega)
      have HS : Hid3 (∀ W v', Below wr.drew.heap.size wr.drew W → RowO W wr.drew.heap.size 5 1 v' (q.v 4).length (uCs (q.v 4)) → FkI w (W.setCell ⟨fb, 2 + 4, none⟩ v') fb fm q (4 + 1)) := ⟨fun W v' hB hr => FkI.vec 4 HI.out.below.drew hfd hB hr⟩
      have HC : Hid3 (∀ W, Below wr.drew.heap.size wr.drew W → W.cell? ⟨fb, 2 + 4, none⟩ = some (fvs 4) ∧ W.frozen? ⟨fb, 2 + 4, none⟩ = false ∧ fb < W.heap.size) := ⟨fun W hB => ⟨(hfd.below hB).c.cv 4, (hfd.below hB).c.f _, (hfd.below hB).c.l⟩⟩
      obtain ⟨ax, kx, hx⟩ := (hf.v 4).sl
      rw [hx] at HC
      rw [e4] at hc
      have hix : ∀ w, (Instr.index 58 (.agg #[.slice a0 (q.v 0).length k0, .slice a1 (q.v 1).length k1, .slice a2 (q.v 2).length k2, .slice a3 (q.v 3).length k3, .slice a4 (q.v 4).length k4, .slice a5 (q.v 5).length k5]) (.int .i64 4)).run Try.prog w = .ok (.slice a4 (q.v 4).length k4) w := fun w => by kernel_rfl
      clear hf hfd hx HI
      go_wp2_with fail
      go_region_held3 (fun _ => True) (trivial) ((go_at_call 42; (with_reducible refine hc.mono ?_); rintro e W ⟨v', rfl, hr, hB⟩; obtain ⟨av', kv', rfl⟩ := hr.sl; have HS2 := Hid3.mk (HS.out W _ hB hr); obtain ⟨z1, z2, z3⟩ := HC.out W hB; clear hr hB))
      all_goals
        go_wp2
        go_roundw
        case rel => exact ⟨4 + 1, by omega, by go_num, HS2⟩
        case measure => simp [intOf]
    by_cases h5 : kk = 5
    · subst h5
      obtain ⟨fav, fvs, hf⟩ := HI.out.out
      have hfd := hf.below (below_drew _)
      have hc := clone_u B (vs 5) (q.v 5).length (uCs (q.v 5)) wr.drew ((HK.out.v 5).below HI.out.below.drew) (uCs_one _) (by have := HO.out.vec 5; have := HN.out; omega)
      have HS : Hid3 (∀ W v', Below wr.drew.heap.size wr.drew W → RowO W wr.drew.heap.size 5 1 v' (q.v 5).length (uCs (q.v 5)) → FkI w (W.setCell ⟨fb, 2 + 5, none⟩ v') fb fm q (5 + 1)) := ⟨fun W v' hB hr => FkI.vec 5 HI.out.below.drew hfd hB hr⟩
      have HC : Hid3 (∀ W, Below wr.drew.heap.size wr.drew W → W.cell? ⟨fb, 2 + 5, none⟩ = some (fvs 5) ∧ W.frozen? ⟨fb, 2 + 5, none⟩ = false ∧ fb < W.heap.size) := ⟨fun W hB => ⟨(hfd.below hB).c.cv 5, (hfd.below hB).c.f _, (hfd.below hB).c.l⟩⟩
      obtain ⟨ax, kx, hx⟩ := (hf.v 5).sl
      rw [hx] at HC
      rw [e5] at hc
      have hix : ∀ w, (Instr.index 58 (.agg #[.slice a0 (q.v 0).length k0, .slice a1 (q.v 1).length k1, .slice a2 (q.v 2).length k2, .slice a3 (q.v 3).length k3, .slice a4 (q.v 4).length k4, .slice a5 (q.v 5).length k5]) (.int .i64 5)).run Try.prog w = .ok (.slice a5 (q.v 5).length k5) w := fun w => by kernel_rfl
      clear hf hfd hx HI
      go_wp2_with fail
      go_region_held3 (fun _ => True) (trivial) ((go_at_call 42; (with_reducible refine hc.mono ?_); rintro e W ⟨v', rfl, hr, hB⟩; obtain ⟨av', kv', rfl⟩ := hr.sl; have HS2 := Hid3.mk (HS.out W _ hB hr); obtain ⟨z1, z2, z3⟩ := HC.out W hB; clear hr hB))
      all_goals
        go_wp2
        go_roundw
        case rel => exact ⟨5 + 1, by omega, by go_num, HS2⟩
        case measure => simp [intOf]
    obtain rfl : kk = 6 := by omega
    obtain ⟨fav, fvs, hf⟩ := HI.out.out
    rw [vi_six] at hf
    have HR := Hid3.mk (And.intro hf HI.out.below)
    clear hf HI
    go_wp2
    go_ret
    exact ⟨fb, fm, fav, fvs, rfl, HR.out⟩
end Go.Proofs.Ytpmndhbcohjboaa
