/- Both: whichever deed; deeds; the play. -/
import Derived.Test.YtlnjpgcaciemnaaDevZa
import Derived.Test.YtlnjpgcaciemnaaDevZb
import Derived.Test.YtlnjpgcaciemnaaDevZc
namespace Go.Proofs.Ytlnjpgcaciemnaa
open Go.RowKit Go.Maps
set_option linter.unusedVariables false
set_option maxRecDepth 100000
theorem ddo_any (B B0 : Nat) (db sb mb rb og rmb rg : Nat) (v u : Value) (z : Sd) (d : Dd) (w : World) (h : Two B w db sb mb rb og rmb rg v u z) (hB : B ≤ w.heap.size) (hd : Byts B0 w d.v d.bs) (hB0 : B0 ≤ B) (hla : z.last < 1000000) : Calls Try.prog 23 #[.agg #[.pointer (some ⟨db, 0, none⟩), .pointer (some ⟨mb, 0, none⟩), .pointer (some ⟨rb, 0, none⟩), .pointer (some ⟨rmb, 0, none⟩)], d.val] w fun e w' => e = .returned (.bool true) ∧ (∃ v' u', Two B w' db sb mb rb og rmb rg v' u' (ddS z d)) ∧ Bw B w w' := by
  obtain ⟨dk, i, r0, r1, r2, r3, r4, dv, bs⟩ := d
  unfold Dd.val
  simp only at hd ⊢
  by_cases k0 : dk = 0
  · subst k0; exact ddo_0 B B0 db sb mb rb og rmb rg v u z i r0 r1 r2 r3 r4 dv bs w h hB hd hB0 hla
  by_cases k1 : dk = 1
  · subst k1; exact ddo_1 B B0 db sb mb rb og rmb rg v u z i r0 r1 r2 r3 r4 dv bs w h hB hd hB0 hla
  by_cases k2 : dk = 2
  · subst k2; exact ddo_2 B B0 db sb mb rb og rmb rg v u z i r0 r1 r2 r3 r4 dv bs w h hB hd hB0 hla
  by_cases k3 : dk = 3
  · subst k3; exact ddo_3 B B0 db sb mb rb og rmb rg v u z i r0 r1 r2 r3 r4 dv bs w h hB hd hB0 hla
  by_cases k4 : dk = 4
  · subst k4; exact ddo_4 B B0 db sb mb rb og rmb rg v u z i r0 r1 r2 r3 r4 dv bs w h hB hd hB0 hla
  by_cases k5 : dk = 5
  · subst k5
    by_cases hbs : bs = []
    · exact ddo_5n B B0 db sb mb rb og rmb rg v u z i r0 r1 r2 r3 r4 dv bs w h hB hd hB0 hla hbs
    · exact ddo_5 B B0 db sb mb rb og rmb rg v u z i r0 r1 r2 r3 r4 dv bs w h hB hd hB0 hla hbs
  · exact ddo_else B B0 db sb mb rb og rmb rg v u z i r0 r1 r2 r3 r4 dv bs dk w h hB hd hB0 hla k0 k1 k2 k3 k4 k5
def plS (z : Sd) (l : List Dd) : Sd := l.foldl ddS z
theorem plS_snoc (z : Sd) (l : List Dd) (d : Dd) : plS z (l ++ [d]) = ddS (plS z l) d := by
  unfold plS
  rw [List.foldl_append]
  rfl
/-- A slice of deeds that can be read. -/
def DdsR (B : Nat) (w : World) (v : Value) (l : List Dd) : Prop := ∃ a cap, v = .slice a l.length cap ∧ l.length ≤ 9223372036854775807 ∧ ∀ j d, l[j]? = some d → Byts B w d.v d.bs ∧ ∃ g off, a = some ⟨g, off, none⟩ ∧ g < B ∧ w.cell? ⟨g, off + j * 8, none⟩ = some (.int .i64 d.k) ∧ w.cell? ⟨g, off + j * 8 + 1, none⟩ = some (.int .i64 d.i) ∧ w.cell? ⟨g, off + j * 8 + 2, none⟩ = some (.int .u32 d.r0) ∧ w.cell? ⟨g, off + j * 8 + 3, none⟩ = some (.bool d.r1) ∧ w.cell? ⟨g, off + j * 8 + 4, none⟩ = some (.int .i64 d.r2) ∧ w.cell? ⟨g, off + j * 8 + 5, none⟩ = some (.int .i64 d.r3) ∧ w.cell? ⟨g, off + j * 8 + 6, none⟩ = some (.int .u8 d.r4) ∧ w.cell? ⟨g, off + j * 8 + 7, none⟩ = some d.v
theorem DdsR.below {B : Nat} {w w' : World} {v : Value} {l : List Dd} (h : DdsR B w v l) (k : Below B w w') : DdsR B w' v l := by
  obtain ⟨a, cap, rfl, hl, hcell⟩ := h
  refine ⟨a, cap, rfl, hl, fun j d hj => ?_⟩
  obtain ⟨ok, g, off, rfl, hg, c0, c1, c2, c3, c4, c5, c6, c7⟩ := hcell j d hj
  have hb := k.block g hg
  refine ⟨ok.below k, g, off, rfl, hg, ?_, ?_, ?_, ?_, ?_, ?_, ?_, ?_⟩ <;> (rw [World.cell?_of_block (w := w) hb]; assumption)
theorem cell_both {w : World} {k : Nat} {p0 p1 p2 p3 : Option Addr} {x : Value} (e : w.heap[k]? = some (.cells #[.pointer p0, .pointer p1, .pointer p2, .pointer p3] 28)) (c : w.cell? ⟨k, 0, none⟩ = some x) : x = .pointer p0 := by
  rw [Lib.cell_of_heap e] at c
  injection c with c
  exact c.symm
/-- A block that holds four pointers may be written. -/
theorem Two.far {B : Nat} {w w' : World} {db sb mb rb og rmb rg k : Nat} {v u : Value} {z : Sd} {p0 p1 p2 p3 : Option Addr} (h : Two B w db sb mb rb og rmb rg v u z) (e : w.heap[k]? = some (.cells #[.pointer p0, .pointer p1, .pointer p2, .pointer p3] 28)) (a : Apart (fun j => j = k) w w') : Two B w' db sb mb rb og rmb rg v u z := by
  have n1 := h.p.not_both e
  have n2 := h.r.not_both e
  have m1 : ∀ j, PX db sb mb v j → ¬ j = k := fun j hj e2 => n1 (by rw [← e2]; exact hj)
  have mm : rmb ≠ k := fun e2 => by
    obtain ⟨C, _, e3⟩ := h.r.m.blk
    rw [e2, e] at e3
    injection e3 with e3
    injection e3 with _ e3
    exact absurd e3 (by decide)
  have kk : Rk B (fun g => PR db sb mb rg v g ∨ g = k) w rb og 5 z.S u z.last z.Q := by
    obtain ⟨cs, eo, hr⟩ := h.r.k.row
    obtain ⟨ua, uc, eu, hu1, hu2, hu3⟩ := h.r.k.req
    refine ⟨h.r.k.blk, ⟨cs, eo, fun j hj => ?_⟩, ⟨ua, uc, eu, hu1, hu2, fun j x hj => ?_⟩, h.r.k.len, h.r.k.n1, h.r.k.n64, h.r.k.few, h.r.k.gr, h.r.k.gg, fun y => y.elim h.r.k.nr (fun e2 => n2 (.inl e2.symm)), fun y => y.elim h.r.k.ng (fun e2 => n2 (.inr (.inl e2.symm))), h.r.k.la⟩
    · obtain ⟨x, hx, g, cap, rfl, q1, q2, q3⟩ := hr j hj
      have c0 := q3 0 _ (List.getElem?_eq_getElem (by rw [frL_lenS h.r.k.len hj]; decide))
      refine ⟨_, hx, g, cap, rfl, q1, fun hz => ?_, q3⟩
      rcases hz with (y | y) | y
      · exact q2 (.inl y)
      · subst y
        cases cell_both e c0
      · exact q2 (.inr y)
    · obtain ⟨g, e1, q2, q3⟩ := hu3 j x hj
      refine ⟨g, e1, fun hz => ?_, q3⟩
      rcases hz with (y | y) | y
      · exact q2 (.inl y)
      · subst y
        have hlen := (List.getElem?_eq_some_iff.1 hj).1
        rw [rqsCs_len] at hlen
        have hq0 : z.Q[0]? = some z.Q[0] := List.getElem?_eq_getElem (by omega)
        obtain ⟨g', e5, _, c0⟩ := hu3 _ _ (rqsCs_at z.Q 0 _ hq0).1
        rw [e1] at e5
        injection e5 with e5
        injection e5 with e5
        subst e5
        cases cell_both e c0
      · exact q2 (.inr y)
  have k2 := (kk.stay a (fun g y => .inr y)).change (Y := PR db sb mb rg v) (fun g _ y => .inl y)
  refine ⟨PSt.mk' (h.p.d.stay a (m1 _ (.inl rfl)) (m1 _ (.inr (.inl rfl))) (fun g hg => m1 g (.inr (.inr (.inr hg.symm))))) (h.p.m.stay a (m1 _ (.inr (.inr (.inl rfl))))) h.p.mB, ⟨k2, h.r.m.stay a mm (fun e2 => n2 (.inr (.inr e2.symm))), h.r.xg, h.r.xm, h.r.gm, h.r.gg⟩, h.q⟩
def z0 : Sd := ⟨List.replicate (5 * 32) 0, zeroL, 0, []⟩
theorem plS_last (l : List Dd) : ∀ z : Sd, (plS z l).last ≤ z.last + l.length := by
  induction l with
  | nil => intro z; simp [plS]
  | cons d l ih =>
    intro z
    have h1 := ih (ddS z d)
    have h2 := (ddS_last z d).1
    show (plS (ddS z d) l).last ≤ _
    rw [List.length_cons]
    omega
set_option maxHeartbeats 8000000 in
theorem dplay_any (v : Value) (l : List Dd) (w : World) (hd : DdsR w.heap.size w v l) : Calls Try.prog 8 #[v] w fun e w' => ∃ db sb mb rb og rmb rg, ∃ v' u', e = .returned (.tuple #[.agg #[.pointer (some ⟨db, 0, none⟩), .pointer (some ⟨mb, 0, none⟩), .pointer (some ⟨rb, 0, none⟩), .pointer (some ⟨rmb, 0, none⟩)], .bool true]) ∧ Two w.heap.size w' db sb mb rb og rmb rg v' u' (plS z0 (l.take 30)) ∧ Below w.heap.size w w' := by
  have hB0 : Below w.heap.size w (w.alloc (.cells #[.pointer none, .pointer none, .pointer none, .pointer none] 28)) := (Below.refl _ w).alloc (Nat.le_refl _) _
  have HZ0 : Hid3 ((w.alloc (.cells #[.pointer none, .pointer none, .pointer none, .pointer none] 28)).heap[w.heap.size]? = some (.cells #[.pointer none, .pointer none, .pointer none, .pointer none] 28)) := ⟨heap_alloc_last w _⟩
  have HB0 := Hid3.mk hB0
  have c1 := dnew_good 5 (w.alloc (.cells #[.pointer none, .pointer none, .pointer none, .pointer none] 28)) (by decide) (by decide)
  obtain ⟨ad, cap, rfl, hll, hcell⟩ := id hd
  have HD : Hid3 (DdsR w.heap.size w (.slice ad l.length cap) l) := ⟨hd⟩
  have hsW : (w.alloc (.cells #[.pointer none, .pointer none, .pointer none, .pointer none] 28)).heap.size = w.heap.size + 1 := by simp
  clear hd hcell hB0
  go_enter Try.func8, Try.ntmps8
  go_wp2_with fail
  refine c1.mono ?_
  rintro e W1 ⟨rfl, hD1, hB1⟩
  rw [hsW] at hD1 hB1
  clear c1
  have c2 := new_good 4 W1 (by decide) (by decide)
  have HD1 := Hid3.mk hD1
  have HB1 := Hid3.mk hB1
  clear hD1 hB1
  go_wp2_with fail
  refine c2.mono ?_
  rintro e W2 ⟨rfl, hM2, hB2⟩
  clear c2
  have c3 := rnewd_any 5 W2 (by decide) (by decide)
  have HM2 := Hid3.mk hM2
  have HB2 := Hid3.mk hB2
  clear hM2 hB2
  go_wp2_with fail
  refine c3.mono ?_
  rintro e W3 ⟨⟨og, u0, rfl, hK3⟩, hB3⟩
  clear c3
  have c4 := rnew_any 4 W3 (by decide) (by decide) (32 * 4) rfl
  have HK3 := Hid3.mk hK3
  have HB3 := Hid3.mk hB3
  clear hK3 hB3
  go_wp2_with fail
  refine c4.mono ?_
  rintro e W4 ⟨rfl, hM4, hB4⟩
  clear c4
  have s0 := HB0.out.size
  have s1 := HB1.out.size
  have s2 := HB2.out.size
  have s3 := HB3.out.size
  have s4 := hB4.size
  have l1 := HD1.out.lt
  have l2 := HM2.out.lt
  have l3 := HK3.out.lt
  have l3g := HK3.out.ltg
  have l4 := hM4.lt
  have l4g := hM4.ltg
  have hBa : Below w.heap.size w W4 := (((HB0.out.trans (HB1.out.mono (by omega))).trans (HB2.out.mono (by omega))).trans (HB3.out.mono (by omega))).trans (hB4.mono (by omega))
  have hd4 : Dk w.heap.size W4 (w.heap.size + 1 + 1) (w.heap.size + 1) 5 (List.replicate (5 * 32) 0) (.slice none 0 0) 0 [] := by
    have := ((HD1.out.below HB2.out).below HB3.out).below hB4
    obtain ⟨a1, a2, a3, a4, a5, a6, a7, a8, a9, a10⟩ := this
    exact ⟨a1, a2, a3, World.ownsRow_nil _ _ _ _, a5, a6, a7, by omega, by omega, a10⟩
  have hT4 : Two w.heap.size W4 (w.heap.size + 1 + 1) (w.heap.size + 1) W1.heap.size W2.heap.size og (W3.heap.size + 1) W3.heap.size (.slice none 0 0) u0 z0 := by
    have k3 : Rk W2.heap.size (PR (w.heap.size + 1 + 1) (w.heap.size + 1) W1.heap.size W3.heap.size (.slice none 0 0)) W3 W2.heap.size og 5 (List.replicate (5 * 32) 0) u0 0 [] := HK3.out.change (fun g hg hx => by
      rcases hx with (y | y | y | y) | y
      · omega
      · omega
      · omega
      · cases y
      · omega)
    have k4 := k3.below hB4
    refine ⟨PSt.mk' (z := z0) hd4 ((HM2.out.below HB3.out).below hB4) (by omega), ⟨?_, hM4, .inr rfl, fun y => ?_, by omega, by omega⟩, Wq.nil _ _⟩
    · obtain ⟨a1, a2, a3, a4, a5, a6, a7, a8, a9, a10, a11, a12⟩ := k4
      exact ⟨a1, a2, a3, a4, a5, a6, a7, by omega, by omega, a10, a11, a12⟩
    · rcases y with (y | y | y | y) | y
      · omega
      · omega
      · omega
      · cases y
      · omega
  have hz2 : W4.heap[w.heap.size]? = some (.cells #[.pointer none, .pointer none, .pointer none, .pointer none] 28) := (hB4.block _ (by omega)).trans ((HB3.out.block _ (by omega)).trans ((HB2.out.block _ (by omega)).trans ((HB1.out.block _ (by omega)).trans HZ0.out)))
  clear hd4 hM4 hB4 HD1 HM2 HK3 HB1 HB2 HB3 HB0 HZ0 l1 l2 l3 l3g l4 l4g s0 s1 s2 s3
  clear hsW s4
  generalize hdb : w.heap.size + 1 + 1 = db at *
  generalize hsb : w.heap.size + 1 = sb at *
  clear hdb hsb
  generalize W1.heap.size = mb at *
  generalize W2.heap.size = rb at *
  generalize W3.heap.size + 1 = rmb at *
  generalize W3.heap.size = rg at *
  have hw4 := hBa.size
  have hb5 : Below W4.heap.size W4 (W4.alloc (.cells #[.pointer (some ⟨db, 0, none⟩), .pointer (some ⟨mb, 0, none⟩), .pointer (some ⟨rb, 0, none⟩), .pointer (some ⟨rmb, 0, none⟩)] 28)) := (Below.refl _ W4).alloc (Nat.le_refl _) _
  have HT5 : Hid3 (Two w.heap.size (W4.alloc (.cells #[.pointer (some ⟨db, 0, none⟩), .pointer (some ⟨mb, 0, none⟩), .pointer (some ⟨rb, 0, none⟩), .pointer (some ⟨rmb, 0, none⟩)] 28)) db sb mb rb og rmb rg (.slice none 0 0) u0 z0) := ⟨hT4.below hb5⟩
  have HB5 : Hid3 (Below w.heap.size w (W4.alloc (.cells #[.pointer (some ⟨db, 0, none⟩), .pointer (some ⟨mb, 0, none⟩), .pointer (some ⟨rb, 0, none⟩), .pointer (some ⟨rmb, 0, none⟩)] 28))) := ⟨hBa.trans (hb5.mono hw4)⟩
  have HZ2 : Hid3 ((W4.alloc (.cells #[.pointer (some ⟨db, 0, none⟩), .pointer (some ⟨mb, 0, none⟩), .pointer (some ⟨rb, 0, none⟩), .pointer (some ⟨rmb, 0, none⟩)] 28)).heap[w.heap.size]? = some (.cells #[.pointer none, .pointer none, .pointer none, .pointer none] 28)) := ⟨(hb5.block _ (Array.getElem?_eq_some_iff.1 hz2).1).trans hz2⟩
  have HZ4 : Hid3 ((W4.alloc (.cells #[.pointer (some ⟨db, 0, none⟩), .pointer (some ⟨mb, 0, none⟩), .pointer (some ⟨rb, 0, none⟩), .pointer (some ⟨rmb, 0, none⟩)] 28)).heap[W4.heap.size]? = some (.cells #[.pointer (some ⟨db, 0, none⟩), .pointer (some ⟨mb, 0, none⟩), .pointer (some ⟨rb, 0, none⟩), .pointer (some ⟨rmb, 0, none⟩)] 28)) := ⟨heap_alloc_last W4 _⟩
  have hl5 : w.heap.size < (W4.alloc (.cells #[.pointer (some ⟨db, 0, none⟩), .pointer (some ⟨mb, 0, none⟩), .pointer (some ⟨rb, 0, none⟩), .pointer (some ⟨rmb, 0, none⟩)] 28)).heap.size := by simp; omega
  have hn24 : w.heap.size ≠ W4.heap.size := by have := (Array.getElem?_eq_some_iff.1 hz2).1; omega
  clear hT4 hBa hz2 hb5
  go_wp2_with fail
  generalize W4.heap.size = b4 at *
  generalize (W4.alloc (.cells #[.pointer (some ⟨db, 0, none⟩), .pointer (some ⟨mb, 0, none⟩), .pointer (some ⟨rb, 0, none⟩), .pointer (some ⟨rmb, 0, none⟩)] 28)) = W5 at *
  go_loopw [5] (fun s5 wr => ∃ (i : Nat), i ≤ l.length ∧ i ≤ 30 ∧ s5 = .int .i64 i ∧ Hid3 (∃ v u, Two w.heap.size wr db sb mb rb og rmb rg v u (plS z0 (l.take i))) ∧ Hid3 (Bw w.heap.size W5 wr)) (fun s5 _ => 30 - (intOf s5).toNat)
  case atStart => exact ⟨0, Nat.zero_le _, by omega, rfl, ⟨_, _, HT5.out⟩, ⟨Bw.of (Below.refl _ _) (by omega)⟩⟩
  case round =>
    obtain ⟨i, hil, hi30, rfl, HT, HW⟩ := hrel
    have hszr := HW.out.b.size
    by_cases hlt : i < l.length
    · have hltz : (i : Int) < (l.length : Int) := by omega
      by_cases h30 : i < 30
      · have h30z : (i : Int) < 30 := by omega
        have hi0 : (0 : Int) ≤ (i : Int) := by omega
        obtain ⟨_, _, e0, _, hc⟩ := HD.out.below (HB5.out.trans HW.out.b)
        injection e0 with e1 e2 e3
        obtain ⟨ok, g, off, e4, hg, d0, d1, d2, d3, d4, d5, d6, d7⟩ := hc i l[i] (List.getElem?_eq_getElem hlt)
        rw [← e1] at e4
        subst e4
        have hlast : (plS z0 (l.take i)).last < 1000000 := by
          have := plS_last (l.take i) z0
          rw [List.length_take] at this
          have h0 : z0.last = 0 := rfl
          omega
        have hpl : plS z0 (l.take (i + 1)) = ddS (plS z0 (l.take i)) l[i] := by rw [List.take_succ_eq_append_getElem hlt, plS_snoc]
        obtain ⟨v1, u1, hT1⟩ := HT.out
        have hcall := ddo_any w.heap.size w.heap.size db sb mb rb og rmb rg v1 u1 _ l[i] wr.drew (hT1.below (Below.refl _ wr).drew) (by show w.heap.size ≤ wr.heap.size; omega) ok (Nat.le_refl _) hlast
        rw [← hpl] at hcall
        have e4' := HW.out.k b4 _ HZ4.out
        obtain ⟨x0, x1, x2, x3⟩ := b4c e4'
        unfold Dd.val at hcall
        clear hc e1 e3 hpl ok hT1 hlast
        generalize l[i] = d at *
        obtain ⟨dk, di, q0, q1, q2, q3, q4, dv, bs⟩ := d
        simp only at d0 d1 d2 d3 d4 d5 d6 d7 hcall
        have hS0 : Hid3 (wr.drew.cell? ⟨b4, 0, none⟩ = some (.pointer (some ⟨db, 0, none⟩)) ∧ wr.drew.cell? ⟨b4, 1, none⟩ = some (.pointer (some ⟨mb, 0, none⟩)) ∧ wr.drew.cell? ⟨b4, 2, none⟩ = some (.pointer (some ⟨rb, 0, none⟩)) ∧ wr.drew.cell? ⟨b4, 3, none⟩ = some (.pointer (some ⟨rmb, 0, none⟩)) ∧ wr.drew.cell? ⟨g, off + i * 8, none⟩ = some (.int .i64 dk) ∧ wr.drew.cell? ⟨g, off + i * 8 + 1, none⟩ = some (.int .i64 di) ∧ wr.drew.cell? ⟨g, off + i * 8 + 2, none⟩ = some (.int .u32 q0) ∧ wr.drew.cell? ⟨g, off + i * 8 + 3, none⟩ = some (.bool q1) ∧ wr.drew.cell? ⟨g, off + i * 8 + 4, none⟩ = some (.int .i64 q2) ∧ wr.drew.cell? ⟨g, off + i * 8 + 5, none⟩ = some (.int .i64 q3) ∧ wr.drew.cell? ⟨g, off + i * 8 + 6, none⟩ = some (.int .u8 q4) ∧ wr.drew.cell? ⟨g, off + i * 8 + 7, none⟩ = some dv) := ⟨⟨x0, x1, x2, x3, d0, d1, d2, d3, d4, d5, d6, d7⟩⟩
        have HSb : Hid3 (∀ W : World, Bw w.heap.size wr.drew W → W.cell? ⟨b4, 0, none⟩ = some (.pointer (some ⟨db, 0, none⟩)) ∧ W.cell? ⟨b4, 1, none⟩ = some (.pointer (some ⟨mb, 0, none⟩)) ∧ W.cell? ⟨b4, 2, none⟩ = some (.pointer (some ⟨rb, 0, none⟩)) ∧ W.cell? ⟨b4, 3, none⟩ = some (.pointer (some ⟨rmb, 0, none⟩)) ∧ W.cell? ⟨g, off + i * 8, none⟩ = some (.int .i64 dk) ∧ W.cell? ⟨g, off + i * 8 + 1, none⟩ = some (.int .i64 di) ∧ W.cell? ⟨g, off + i * 8 + 2, none⟩ = some (.int .u32 q0) ∧ W.cell? ⟨g, off + i * 8 + 3, none⟩ = some (.bool q1) ∧ W.cell? ⟨g, off + i * 8 + 4, none⟩ = some (.int .i64 q2) ∧ W.cell? ⟨g, off + i * 8 + 5, none⟩ = some (.int .i64 q3) ∧ W.cell? ⟨g, off + i * 8 + 6, none⟩ = some (.int .u8 q4) ∧ W.cell? ⟨g, off + i * 8 + 7, none⟩ = some dv) := ⟨fun W hb => by
          obtain ⟨x0, x1, x2, x3⟩ := b4c (hb.k b4 _ e4')
          have hk := hb.b.block g hg
          refine ⟨x0, x1, x2, x3, ?_, ?_, ?_, ?_, ?_, ?_, ?_, ?_⟩ <;> (rw [World.cell?_of_block (w := wr) hk]; assumption)⟩
        clear d0 d1 d2 d3 d4 d5 d6 d7 x0 x1 x2 x3 e4'
        go_wp2_with fail
        go_region_held3 (fun w' => w'.cell? ⟨b4, 0, none⟩ = some (.pointer (some ⟨db, 0, none⟩)) ∧ w'.cell? ⟨b4, 1, none⟩ = some (.pointer (some ⟨mb, 0, none⟩)) ∧ w'.cell? ⟨b4, 2, none⟩ = some (.pointer (some ⟨rb, 0, none⟩)) ∧ w'.cell? ⟨b4, 3, none⟩ = some (.pointer (some ⟨rmb, 0, none⟩)) ∧ w'.cell? ⟨g, off + i * 8, none⟩ = some (.int .i64 dk) ∧ w'.cell? ⟨g, off + i * 8 + 1, none⟩ = some (.int .i64 di) ∧ w'.cell? ⟨g, off + i * 8 + 2, none⟩ = some (.int .u32 q0) ∧ w'.cell? ⟨g, off + i * 8 + 3, none⟩ = some (.bool q1) ∧ w'.cell? ⟨g, off + i * 8 + 4, none⟩ = some (.int .i64 q2) ∧ w'.cell? ⟨g, off + i * 8 + 5, none⟩ = some (.int .i64 q3) ∧ w'.cell? ⟨g, off + i * 8 + 6, none⟩ = some (.int .u8 q4) ∧ w'.cell? ⟨g, off + i * 8 + 7, none⟩ = some dv) (with_reducible (first | exact hS0.out | exact hSP.out)) ((go_at_call 23; refine hcall.mono ?_; rintro e W6 ⟨rfl, hT6, hB6⟩; have hSP := Hid3.mk (HSb.out W6 hB6)))
        have HT6 := Hid3.mk hT6
        have HW6 : Hid3 (Bw w.heap.size W5 W6) := ⟨(HW.out.thenB (Below.refl _ wr).drew (by omega)).trans hB6⟩
        clear hT6 hB6 hcall hS0 hSP HSb HT HW
        go_wp2
        go_roundw
        case rel => exact ⟨i + 1, by omega, by omega, by go_num, HT6, HW6⟩
        case measure => simp [intOf]; omega
      · have h30z : ¬ (i : Int) < 30 := by omega
        have hi : i = 30 := by omega
        subst hi
        have e2 := HW.out.k w.heap.size _ HZ2.out
        have e4 := HW.out.k b4 _ HZ4.out
        obtain ⟨x0, x1, x2, x3⟩ := b4c e4
        obtain ⟨y0, y1, y2, y3⟩ := b4c e2
        have yf : ∀ j, wr.frozen? ⟨w.heap.size, j, none⟩ = false := fun j => Lib.frozen_of_heap e2 j
        have hl2 : w.heap.size < wr.heap.size := (Array.getElem?_eq_some_iff.1 e2).1
        have hl4 : b4 < wr.heap.size := (Array.getElem?_eq_some_iff.1 e4).1
        have HFn : Hid3 (∃ v u, Two w.heap.size ((((wr.drew.setCell ⟨w.heap.size, 0, none⟩ (.pointer (some ⟨db, 0, none⟩))).setCell ⟨w.heap.size, 1, none⟩ (.pointer (some ⟨mb, 0, none⟩))).setCell ⟨w.heap.size, 2, none⟩ (.pointer (some ⟨rb, 0, none⟩))).setCell ⟨w.heap.size, 3, none⟩ (.pointer (some ⟨rmb, 0, none⟩))) db sb mb rb og rmb rg v u (plS z0 (l.take 30)) ∧ Below w.heap.size w ((((wr.drew.setCell ⟨w.heap.size, 0, none⟩ (.pointer (some ⟨db, 0, none⟩))).setCell ⟨w.heap.size, 1, none⟩ (.pointer (some ⟨mb, 0, none⟩))).setCell ⟨w.heap.size, 2, none⟩ (.pointer (some ⟨rb, 0, none⟩))).setCell ⟨w.heap.size, 3, none⟩ (.pointer (some ⟨rmb, 0, none⟩)))) := ⟨by
          obtain ⟨v, u, hT⟩ := HT.out
          have ha : Apart (fun k => k = w.heap.size) wr ((((wr.drew.setCell ⟨w.heap.size, 0, none⟩ (.pointer (some ⟨db, 0, none⟩))).setCell ⟨w.heap.size, 1, none⟩ (.pointer (some ⟨mb, 0, none⟩))).setCell ⟨w.heap.size, 2, none⟩ (.pointer (some ⟨rb, 0, none⟩))).setCell ⟨w.heap.size, 3, none⟩ (.pointer (some ⟨rmb, 0, none⟩))) := (Apart.of_below (Below.refl _ wr).drew).trans ((((Apart.set wr.drew ⟨w.heap.size, 0, none⟩ _).trans (Apart.set _ ⟨w.heap.size, 1, none⟩ _)).trans (Apart.set _ ⟨w.heap.size, 2, none⟩ _)).trans (Apart.set _ ⟨w.heap.size, 3, none⟩ _))
          refine ⟨v, u, ?_, (HB5.out.trans HW.out.b).trans (ha.below w.heap.size (fun k e => by have e' : k = w.heap.size := e; omega) (by omega))⟩
          rw [show l.take 30 = l.take 30 from rfl]
          exact hT.far e2 ha⟩
        clear HT HW HD HB5 HZ2 HZ4 e2 e4
        go_wp2_with fail
        go_region
        all_goals
          go_wp2
          refine bodyPost_ret (v := .tuple #[.agg #[.pointer (some ⟨db, 0, none⟩), .pointer (some ⟨mb, 0, none⟩), .pointer (some ⟨rb, 0, none⟩), .pointer (some ⟨rmb, 0, none⟩)], .bool true]) (by simp [results, Try.results8, go_sem, *]) rfl ?_
          obtain ⟨v, u, f1, f2⟩ := HFn.out
          exact ⟨db, sb, mb, rb, og, rmb, rg, v, u, rfl, f1, f2⟩
    · have hltz : ¬ (i : Int) < (l.length : Int) := by omega
      have HTk : Hid3 (l.take 30 = l.take i) := ⟨by rw [List.take_of_length_le (by omega), List.take_of_length_le (by omega)]⟩
      ·
        have e2 := HW.out.k w.heap.size _ HZ2.out
        have e4 := HW.out.k b4 _ HZ4.out
        obtain ⟨x0, x1, x2, x3⟩ := b4c e4
        obtain ⟨y0, y1, y2, y3⟩ := b4c e2
        have yf : ∀ j, wr.frozen? ⟨w.heap.size, j, none⟩ = false := fun j => Lib.frozen_of_heap e2 j
        have hl2 : w.heap.size < wr.heap.size := (Array.getElem?_eq_some_iff.1 e2).1
        have hl4 : b4 < wr.heap.size := (Array.getElem?_eq_some_iff.1 e4).1
        have HFn : Hid3 (∃ v u, Two w.heap.size ((((wr.drew.setCell ⟨w.heap.size, 0, none⟩ (.pointer (some ⟨db, 0, none⟩))).setCell ⟨w.heap.size, 1, none⟩ (.pointer (some ⟨mb, 0, none⟩))).setCell ⟨w.heap.size, 2, none⟩ (.pointer (some ⟨rb, 0, none⟩))).setCell ⟨w.heap.size, 3, none⟩ (.pointer (some ⟨rmb, 0, none⟩))) db sb mb rb og rmb rg v u (plS z0 (l.take 30)) ∧ Below w.heap.size w ((((wr.drew.setCell ⟨w.heap.size, 0, none⟩ (.pointer (some ⟨db, 0, none⟩))).setCell ⟨w.heap.size, 1, none⟩ (.pointer (some ⟨mb, 0, none⟩))).setCell ⟨w.heap.size, 2, none⟩ (.pointer (some ⟨rb, 0, none⟩))).setCell ⟨w.heap.size, 3, none⟩ (.pointer (some ⟨rmb, 0, none⟩)))) := ⟨by
          obtain ⟨v, u, hT⟩ := HT.out
          have ha : Apart (fun k => k = w.heap.size) wr ((((wr.drew.setCell ⟨w.heap.size, 0, none⟩ (.pointer (some ⟨db, 0, none⟩))).setCell ⟨w.heap.size, 1, none⟩ (.pointer (some ⟨mb, 0, none⟩))).setCell ⟨w.heap.size, 2, none⟩ (.pointer (some ⟨rb, 0, none⟩))).setCell ⟨w.heap.size, 3, none⟩ (.pointer (some ⟨rmb, 0, none⟩))) := (Apart.of_below (Below.refl _ wr).drew).trans ((((Apart.set wr.drew ⟨w.heap.size, 0, none⟩ _).trans (Apart.set _ ⟨w.heap.size, 1, none⟩ _)).trans (Apart.set _ ⟨w.heap.size, 2, none⟩ _)).trans (Apart.set _ ⟨w.heap.size, 3, none⟩ _))
          refine ⟨v, u, ?_, (HB5.out.trans HW.out.b).trans (ha.below w.heap.size (fun k e => by have e' : k = w.heap.size := e; omega) (by omega))⟩
          rw [HTk.out]
          exact hT.far e2 ha⟩
        clear HT HW HD HB5 HZ2 HZ4 e2 e4
        go_wp2_with fail
        go_region
        all_goals
          go_wp2
          refine bodyPost_ret (v := .tuple #[.agg #[.pointer (some ⟨db, 0, none⟩), .pointer (some ⟨mb, 0, none⟩), .pointer (some ⟨rb, 0, none⟩), .pointer (some ⟨rmb, 0, none⟩)], .bool true]) (by simp [results, Try.results8, go_sem, *]) rfl ?_
          obtain ⟨v, u, f1, f2⟩ := HFn.out
          exact ⟨db, sb, mb, rb, og, rmb, rg, v, u, rfl, f1, f2⟩
end Go.Proofs.Ytlnjpgcaciemnaa
