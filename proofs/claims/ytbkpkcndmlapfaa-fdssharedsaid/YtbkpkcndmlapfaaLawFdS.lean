/- FdsShared: the walk. -/
import Derived.Test.YtbkpkcndmlapfaaFdLv
namespace Go.Proofs.Ytbkpkcndmlapfaa
open Go.RowKit Go.Maps
set_option linter.unusedVariables false
set_option maxRecDepth 100000
theorem at_stay (s : Fs) (pid fd : Int) : (∃ e : Int, e ≠ 0 ∧ ∀ s2 : Fs, s2.has = s.has → s2.fd = s.fd → ∀ B w L, Ft B w L s2 → Calls Try.prog 36 #[.pointer (some ⟨L.t, 0, none⟩), .int .i64 pid, .int .i64 fd] w fun r w' => r = .returned (.tuple #[.pointer none, .int .i64 e]) ∧ w' = w) ∨ ∃ (p : Fin 6) (k : Fin 8), pid = (p.1 : Int) ∧ fd = (k.1 : Int) ∧ s.has p = true ∧ s.fd p k ≠ 0 := by
  rcases pid_cases s pid with hp | ⟨p, rfl, hp⟩
  · exact .inl ⟨5, by decide, fun s2 h1 h2 B w L h => at_nop B L s2 pid fd w h (by unfold NoP; rw [h1]; exact hp)⟩
  rcases fd_cases s p fd with hk | ⟨k, rfl, hk⟩
  · exact .inl ⟨3, by decide, fun s2 h1 h2 B w L h => at_nof B L s2 p fd w h (by rw [h1]; exact hp) (by unfold NoF; rw [h2]; exact hk)⟩
  · exact .inr ⟨p, k, rfl, rfl, hp, hk⟩
/-- What Get, Same, Move and Get again come to. -/
structure ShR (s : Fs) (p a q b pos : Int) (o1 : Opn) (e1 : Int) (z : Bool) (f : Int) (s' : Fs) (o2 : Opn) : Prop where
  g1 : ∀ B w L, Ft B w L s → Calls Try.prog 15 #[.pointer (some ⟨L.t, 0, none⟩), .int .i64 q, .int .i64 b] w fun r w' => r = .returned (.tuple #[.agg #[.int .u8 o1.k, .int .i64 o1.r, .int .i64 o1.p], .int .i64 e1]) ∧ Below w.heap.size w w'
  sm : ∀ B w L, Ft B w L s → Calls Try.prog 16 #[.pointer (some ⟨L.t, 0, none⟩), .int .i64 p, .int .i64 a, .int .i64 q, .int .i64 b] w fun r w' => r = .returned (.bool z) ∧ Below w.heap.size w w'
  mv : ∀ B w L, Ft B w L s → Calls Try.prog 17 #[.pointer (some ⟨L.t, 0, none⟩), .int .i64 p, .int .i64 a, .int .i64 pos] w fun r w' => r = .returned (.int .i64 f) ∧ FStp B w w' L s s'
  g2 : ∀ B w L, Ft B w L s' → Calls Try.prog 15 #[.pointer (some ⟨L.t, 0, none⟩), .int .i64 q, .int .i64 b] w fun r w' => r = .returned (.tuple #[.agg #[.int .u8 o2.k, .int .i64 o2.r, .int .i64 o2.p], .int .i64 e1]) ∧ Below w.heap.size w w'
  ans : (z = true ∧ f = 0 ∧ o2 = { o1 with p := pos }) ∨ (z = false ∧ o2 = o1)
theorem sh_any (s : Fs) (p a q b pos : Int) (hOk : s.Ok) : ∃ o1 e1 z f s' o2, ShR s p a q b pos o1 e1 z f s' o2 := by
  rcases at_stay s q b with ⟨e, he, hq⟩ | ⟨q, b, rfl, rfl, hq, hb⟩
  · have hg : ∀ s2 : Fs, s2.has = s.has → s2.fd = s.fd → ∀ B w L, Ft B w L s2 → Calls Try.prog 15 #[.pointer (some ⟨L.t, 0, none⟩), .int .i64 q, .int .i64 b] w fun r w' => r = .returned (.tuple #[.agg #[.int .u8 op0.k, .int .i64 op0.r, .int .i64 op0.p], .int .i64 e]) ∧ Below w.heap.size w w' := fun s2 h1 h2 B w L h => get_err e he L.t q b w (fun W hW => hq s2 h1 h2 B W L (h.below hW))
    rcases at_stay s p a with ⟨e', he', hp⟩ | ⟨p, a, rfl, rfl, hp, ha⟩
    · exact ⟨op0, e, false, e', s, op0, hg s rfl rfl, fun B w L h => same_bad1 e' he' L.t p a q b w (hp s rfl rfl B w L h), fun B w L h => (move_err e' he' L.t p a pos w (hp s rfl rfl B w L h)).mono (fun r w' k => ⟨k.1, by rw [k.2]; exact FStp.same h (Below.refl _ _)⟩), hg s rfl rfl, .inr ⟨rfl, rfl⟩⟩
    · exact ⟨op0, e, false, 0, setO s (s.fd p a) (movO s (s.fd p a) pos), op0, hg s rfl rfl, fun B w L h => same_bad2 e he L.t (L.r p) p.1 a.1 q b w (at_ok B L s p a w h hp ha) (hq s rfl rfl B w L h), fun B w L h => move_ok B L s p a pos w h hp ha, hg _ rfl rfl, .inr ⟨rfl, rfl⟩⟩
  · rcases at_stay s p a with ⟨e', he', hp⟩ | ⟨p, a, rfl, rfl, hp, ha⟩
    · exact ⟨getO s (s.fd q b), 0, false, e', s, getO s (s.fd q b), fun B w L h => get_ok B L s q b w h hq hb, fun B w L h => same_bad1 e' he' L.t p a q.1 b.1 w (hp s rfl rfl B w L h), fun B w L h => (move_err e' he' L.t p a pos w (hp s rfl rfl B w L h)).mono (fun r w' k => ⟨k.1, by rw [k.2]; exact FStp.same h (Below.refl _ _)⟩), fun B w L h => get_ok B L s q b w h hq hb, .inr ⟨rfl, rfl⟩⟩
    · refine ⟨getO s (s.fd q b), 0, decide (s.fd p a = s.fd q b), 0, setO s (s.fd p a) (movO s (s.fd p a) pos), getO (setO s (s.fd p a) (movO s (s.fd p a) pos)) (s.fd q b), fun B w L h => get_ok B L s q b w h hq hb, fun B w L h => same_ok B L s p q a b w h hp ha hq hb, fun B w L h => move_ok B L s p a pos w h hp ha, fun B w L h => get_ok B L (setO s (s.fd p a) (movO s (s.fd p a) pos)) q b w h hq hb, ?_⟩
      rw [setO_get s _ _ _ ha hb (hOk.le p a)]
      by_cases e : s.fd p a = s.fd q b
      · exact .inl ⟨decide_eq_true e, rfl, by rw [if_pos e.symm, e]; rfl⟩
      · exact .inr ⟨decide_eq_false e, by rw [if_neg (fun x => e x.symm)]⟩
set_option maxHeartbeats 2000000 in
theorem shared_law (v : Value) (l : List Dd) (x0 x1 x2 x3 : Nat) (pos : Int) (h0 : x0 ≤ 255) (h1 : x1 ≤ 255) (h2 : x2 ≤ 255) (h3 : x3 ≤ 255) (w : World) (hd : Dds w v l) : Calls Try.prog 5 #[v, .agg #[.int .u8 x0, .int .u8 x1, .int .u8 x2, .int .u8 x3], .int .i64 pos] w fun r w' => r = .returned (.bool true) ∧ Below w.heap.size w w' := by
  have hX := below_new w (.cells #[.int .u8 x0, .int .u8 x1, .int .u8 x2, .int .u8 x3] 42)
  have hbx := heap_alloc_new w (.cells #[.int .u8 x0, .int .u8 x1, .int .u8 x2, .int .u8 x3] 42)
  have cP := play_any v l _ (hd.below hX)
  have HX := Hid3.mk hX
  obtain ⟨ad, cap, rfl, _⟩ := id hd
  clear hd hX
  go_enter Try.func5, Try.ntmps5
  go_wp2_with fail
  refine cP.mono ?_
  rintro r W1 ⟨tb, rb, rfl, hPb⟩
  have hb1 := (hPb.bl.block w.heap.size (by simp)).trans hbx
  have HB := Hid3.mk hPb
  have cL := live_any W1
  clear cP hPb
  go_wp2_with fail
  refine cL.mono ?_
  rintro r W2 ⟨rfl, hb⟩
  have hl1 : w.heap.size < W1.heap.size := (Array.getElem?_eq_some_iff.1 hb1).1
  have hb2 := (hb.block w.heap.size hl1).trans hb1
  obtain ⟨⟨L, s, eL, hT, hl⟩, hB2⟩ := HB.out.low hb
  have HT := Hid3.mk (And.intro eL hT.t)
  have hBw : Below w.heap.size w W2 := HX.out.trans (hB2.mono (by simp))
  have HB2 := Hid3.mk hBw
  have y0 : W2.cell? ⟨w.heap.size, 0, none⟩ = some (.int .u8 (x0 : Int)) := by rw [Lib.cell_of_heap hb2]; rfl
  have y1 : W2.cell? ⟨w.heap.size, 1, none⟩ = some (.int .u8 (x1 : Int)) := by rw [Lib.cell_of_heap hb2]; rfl
  have y2 : W2.cell? ⟨w.heap.size, 2, none⟩ = some (.int .u8 (x2 : Int)) := by rw [Lib.cell_of_heap hb2]; rfl
  have y3 : W2.cell? ⟨w.heap.size, 3, none⟩ = some (.int .u8 (x3 : Int)) := by rw [Lib.cell_of_heap hb2]; rfl
  have hl2 : w.heap.size < W2.heap.size := (Array.getElem?_eq_some_iff.1 hb2).1
  obtain ⟨p, hp⟩ : ∃ p : Int, (x0 : Int) % 6 = p := ⟨_, rfl⟩
  obtain ⟨q, hq⟩ : ∃ q : Int, (x1 : Int) % 6 = q := ⟨_, rfl⟩
  obtain ⟨a, ha⟩ : ∃ a : Int, (x2 : Int) % 8 = a := ⟨_, rfl⟩
  obtain ⟨b, hb'⟩ : ∃ b : Int, (x3 : Int) % 8 = b := ⟨_, rfl⟩
  obtain ⟨o1, e1, z, f, s', o2, hR⟩ := sh_any s p a q b pos hT.t.b.ok
  have HR := Hid3.mk hR
  clear cL hb hT eL hl hB2 HB hbx hb1 hb2 hBw hR
  go_wp2_with fail
  go_region
  go_wp2_with fail
  go_region
  have hFt := HT.out.2
  have c1 := HR.out.g1 _ W2.drew.drew L ⟨hFt.g, hFt.t, hFt.b.below (Below.refl _ _).drew.drew⟩
  rw [HT.out.1] at c1
  clear hFt
  go_wp2_with fail
  refine c1.mono ?_
  rintro r W3 ⟨rfl, hB3⟩
  have hB3' : Below W2.heap.size W2 W3 := ⟨hB3.os, hB3.tape, hB3.output, hB3.size, hB3.block⟩
  have hs23 : W2.heap.size ≤ W3.heap.size := hB3'.size
  have hX3 := below_new W3 (.cells #[.int .u8 o1.k, .int .i64 o1.r, .int .i64 o1.p] 32)
  have hb3 := heap_alloc_new W3 (.cells #[.int .u8 o1.k, .int .i64 o1.r, .int .i64 o1.p] 32)
  have hF3 := (HT.out.2.below hB3').below hX3
  have HF3 := Hid3.mk hF3
  have HB3 : Hid3 (Below w.heap.size w (W3.alloc (.cells #[.int .u8 o1.k, .int .i64 o1.r, .int .i64 o1.p] 32))) := ⟨(HB2.out.trans (hB3'.mono HB2.out.size)).trans (hX3.mono (Nat.le_trans HB2.out.size hB3'.size))⟩
  have c2 := HR.out.sm _ _ L hF3
  rw [HT.out.1] at c2
  clear c1 hB3 hB3' hX3 hF3 y0 y1 y2 y3
  go_wp2_with fail
  refine c2.mono ?_
  rintro r W4 ⟨rfl, hB4⟩
  have hb4 := (hB4.block W3.heap.size (by simp)).trans hb3
  have hs34 : W3.heap.size < W4.heap.size := (Array.getElem?_eq_some_iff.1 hb4).1
  have hF4 := HF3.out.below hB4
  have HF4 := Hid3.mk hF4
  have HB4 := Hid3.mk (HB3.out.trans (hB4.mono HB3.out.size))
  have c3 := HR.out.mv _ _ L hF4
  rw [HT.out.1] at c3
  clear c2 hB4 hF4
  go_wp2_with fail
  refine c3.mono ?_
  rintro r W5 ⟨rfl, hs5⟩
  have hlt : ¬ XF L s W3.heap.size := fun e => by
    obtain ⟨_, _, t, c, hc, ht⟩ := HF4.out.x e
    have := hc.symm.trans hb4
    injection this with this
    injection this with _ this
    rcases ht with e | e | e <;> (rw [e] at this; exact absurd this (by decide))
  have hb5 := (hs5.ap.block W3.heap.size (Array.getElem?_eq_some_iff.1 hb4).1 hlt).trans hb4
  have HB5 : Hid3 (Below w.heap.size w W5) := ⟨HB4.out.trans ((hs5.low HF4.out (by rw [World.size_alloc]; omega)).mono (by simp))⟩
  obtain ⟨L5, e5, hF5, _⟩ := hs5.out
  have c4 := HR.out.g2 _ _ L5 hF5
  rw [e5, HT.out.1] at c4
  clear c3 hs5 hlt hF5 e5
  go_wp2_with fail
  refine c4.mono ?_
  rintro r W6 ⟨rfl, hB6⟩
  have hb6 := (hB6.block W3.heap.size (Array.getElem?_eq_some_iff.1 hb5).1).trans hb5
  have HB6 : Hid3 (Below w.heap.size w (W6.alloc (.cells #[.int .u8 o2.k, .int .i64 o2.r, .int .i64 o2.p] 32))) := ⟨(HB5.out.trans (hB6.mono HB5.out.size)).trans ((below_new W6 _).mono (Nat.le_trans HB5.out.size hB6.size))⟩
  have q0 : W6.cell? ⟨W3.heap.size, 0, none⟩ = some (.int .u8 o1.k) := by rw [Lib.cell_of_heap hb6]; rfl
  have q1 : W6.cell? ⟨W3.heap.size, 1, none⟩ = some (.int .i64 o1.r) := by rw [Lib.cell_of_heap hb6]; rfl
  have q2 : W6.cell? ⟨W3.heap.size, 2, none⟩ = some (.int .i64 o1.p) := by rw [Lib.cell_of_heap hb6]; rfl
  have hl6 : W3.heap.size < W6.heap.size := (Array.getElem?_eq_some_iff.1 hb6).1
  have hans := HR.out.ans
  have eG := eqGuardO
  have hee : (e1 != e1) = false := by simp
  clear c4 hB6 hb3 hb4 hb5 hb6 HR HF3 HF4 HT
  rcases hans with ⟨rfl, rfl, rfl⟩ | ⟨rfl, rfl⟩
  · obtain ⟨o10, o11, o12⟩ := o1
    have k1 : (pos == pos) = true := by simp
    have k2 : (o10 == o10) = true := by simp
    have k3 : (o11 == o11) = true := by simp
    simp only at *
    go_wp2
    go_ret
    exact ⟨rfl, HB6.out⟩
  · have eM := fun W => eqO W o2 o2
    rw [decide_eq_true rfl] at eM
    by_cases hf : f = 0
    · subst hf
      go_wp2
      go_ret
      exact ⟨rfl, HB6.out⟩
    · have hf1 : (f != 0) = true := by simpa using hf
      clear hf
      go_wp2
      go_ret
      exact ⟨rfl, HB6.out⟩
end Go.Proofs.Ytbkpkcndmlapfaa
