/- DevForks: what becomes of a fork changes nothing. -/
import Derived.Test.YtlnjpgcaciemnaaDevInB
namespace Go.Proofs.Ytlnjpgcaciemnaa
open Go.RowKit Go.Maps
set_option linter.unusedVariables false
set_option maxRecDepth 100000
theorem fk_t {W W' : World} {k : Nat} {o : Obj} (hz : W.heap[k]? = some o) (h : Below W.heap.size W W') : W'.heap[k]? = some o := (h.block k (Array.getElem?_eq_some_iff.1 hz).1).trans hz
theorem fk_a {W W' : World} {o : Obj} (h : Below (W.alloc o).heap.size (W.alloc o) W') : W'.heap[W.heap.size]? = some o := (h.block W.heap.size (by simp)).trans (heap_alloc_last W o)
theorem fk_d {W W' : World} {o : Obj} (h : Below (W.alloc o).drew.heap.size (W.alloc o).drew W') : W'.heap[W.heap.size]? = some o := (h.block W.heap.size (show W.heap.size < (W.alloc o).heap.size by simp)).trans (heap_alloc_last W o)
theorem fk_al {w W : World} {o : Obj} (h : Below w.heap.size w W) : Below w.heap.size w (W.alloc o) := h.alloc h.size o
theorem fk_un {W W' : World} {o : Obj} (h : Below (W.alloc o).heap.size (W.alloc o) W') : Below W.heap.size W W' := by
  have k : Below W.heap.size W (W.alloc o) := (Below.refl _ W).alloc (Nat.le_refl _) o
  exact k.trans (h.mono k.size)
theorem fk_le (W : World) (o : Obj) : W.heap.size ≤ (W.alloc o).heap.size := by simp
theorem fk_ap (W : World) (a : Nat) (x0 x1 x2 x3 : Value) : Apart (fun k => k = a) W ((((W.setCell ⟨a, 0, none⟩ x0).setCell ⟨a, 1, none⟩ x1).setCell ⟨a, 2, none⟩ x2).setCell ⟨a, 3, none⟩ x3) := (((Apart.set W ⟨a, 0, none⟩ x0).trans (Apart.set _ ⟨a, 1, none⟩ x1)).trans (Apart.set _ ⟨a, 2, none⟩ x2)).trans (Apart.set _ ⟨a, 3, none⟩ x3)
theorem fk_s {w W : World} {a : Nat} {x0 x1 x2 x3 : Value} (h : Below w.heap.size w W) (ha : w.heap.size ≤ a) : Below w.heap.size w ((((W.setCell ⟨a, 0, none⟩ x0).setCell ⟨a, 1, none⟩ x1).setCell ⟨a, 2, none⟩ x2).setCell ⟨a, 3, none⟩ x3) := h.trans ((fk_ap W a x0 x1 x2 x3).below w.heap.size (fun k e => by have e' : k = a := e; omega) h.size)
theorem fk_h {W : World} {a : Nat} {y0 y1 y2 y3 x0 x1 x2 x3 : Value} {t : TypeId} (h : W.heap[a]? = some (.cells #[y0, y1, y2, y3] t)) : ((((W.setCell ⟨a, 0, none⟩ x0).setCell ⟨a, 1, none⟩ x1).setCell ⟨a, 2, none⟩ x2).setCell ⟨a, 3, none⟩ x3).heap[a]? = some (.cells #[x0, x1, x2, x3] t) := by
  simp [World.setCell, Array.getElem?_modify, h]
theorem Dk.lower {B B' : Nat} {w : World} {db sb n : Nat} {S : List Int} {v : Value} {last : Int} {Q : List Rq} (h : Dk B w db sb n S v last Q) (hB : B' ≤ B) : Dk B' w db sb n S v last Q := by
  refine ⟨h.blk, h.row, h.len, ⟨h.own.1, ?_⟩, h.n1, h.n64, h.few, Nat.le_trans hB h.ge, Nat.le_trans hB h.gs, h.la⟩
  rcases h.own.2 with h0 | ⟨g, cap, cur, a1, a2, a3⟩
  · exact .inl h0
  · exact .inr ⟨g, cap, cur, a1, by omega, a3⟩
theorem Rk.lower {B B' : Nat} {X : Nat → Prop} {w : World} {rb og n : Nat} {S : List Int} {u : Value} {last : Int} {Q : List Rq} (h : Rk B X w rb og n S u last Q) (hB : B' ≤ B) : Rk B' X w rb og n S u last Q :=
  ⟨h.blk, h.row, h.req, h.len, h.n1, h.n64, h.few, Nat.le_trans hB h.gr, Nat.le_trans hB h.gg, h.nr, h.ng, h.la⟩
/-- The fork is a pair of its own. -/
theorem Two.ofFork {n : Nat} {Wa Wb Wc Wd : World} {db2 sb2 mb2 rb2 og2 rmb2 rg2 : Nat} {v2 u2 : Value} {z : Sd} (hn : n ≤ Wa.heap.size) (hD : Dk n Wa db2 sb2 5 z.S v2 z.last z.Q) (hM : Mem Wb mb2 4 z.L) (hmn : n ≤ mb2) (hK : Rk n (fun g => n ≤ g ∧ (g < Wb.heap.size ∨ Wc.heap.size ≤ g)) Wc rb2 og2 5 z.S u2 z.last z.Q) (hR : RMem Wd rmb2 rg2 (32 * 4) z.L) (hr1 : Wc.heap.size ≤ rmb2) (hr2 : Wc.heap.size ≤ rg2) (b1 : Below Wa.heap.size Wa Wb) (b2 : Below Wb.heap.size Wb Wc) (b3 : Below Wc.heap.size Wc Wd) (hq : Wq 5 z.last z.Q) : Two n Wd db2 sb2 mb2 rb2 og2 rmb2 rg2 v2 u2 z := by
  have s1 := b1.size
  have s2 := b2.size
  have l1 := hD.lt
  have l2 := hD.lts
  have l3 := hM.lt
  have g1 := hD.ge
  have g2 := hD.gs
  have hx : ∀ g, PR db2 sb2 mb2 rg2 v2 g → n ≤ g ∧ (g < Wb.heap.size ∨ Wc.heap.size ≤ g) := fun g hg => by
    rcases hg with (y | y | y | y) | y
    · omega
    · omega
    · omega
    · have := hD.own.lt g y.symm
      omega
    · omega
  have k3 := (hK.change (Y := PR db2 sb2 mb2 rg2 v2) (fun g _ y => hx g y)).below b3
  refine ⟨PSt.mk' (((hD.below b1).below b2).below b3) ((hM.below b2).below b3) hmn, ⟨k3, hR, .inr rfl, fun y => ?_, by omega, by omega⟩, hq⟩
  rcases y with (y | y | y | y) | y
  · omega
  · omega
  · omega
  · have := hD.own.lt rmb2 y.symm
    omega
  · exact hR.ne y
set_option maxHeartbeats 16000000 in
theorem forks_law (v : Value) (l : List Dd) (vm : Value) (lm : List Dd) (w : World) (hd : DdsR w.heap.size w v l) (hdm : DdsR w.heap.size w vm lm) : Calls Try.prog 7 #[v, vm] w fun e w' => e = .returned (.bool true) ∧ Below w.heap.size w w' := by
  have HDM := Hid3.mk hdm
  obtain ⟨am, cm, rfl, hlm, _⟩ := hdm
  have c1 := dplay_any v l w hd
  clear hd
  go_enter Try.func7, Try.ntmps7
  go_wp2_with fail
  refine c1.mono ?_
  rintro e W1 ⟨db, sb, mb, rb, og, rmb, rg, v1, u1, rfl, hT, hB⟩
  clear c1
  have hX : (W1.alloc (.cells #[.pointer (some ⟨db, 0, none⟩), .pointer (some ⟨mb, 0, none⟩), .pointer (some ⟨rb, 0, none⟩), .pointer (some ⟨rmb, 0, none⟩)] 28)).heap[W1.heap.size]? = some (.cells #[.pointer (some ⟨db, 0, none⟩), .pointer (some ⟨mb, 0, none⟩), .pointer (some ⟨rb, 0, none⟩), .pointer (some ⟨rmb, 0, none⟩)] 28) := heap_alloc_last W1 _
  have hb : Below W1.heap.size W1 (W1.alloc (.cells #[.pointer (some ⟨db, 0, none⟩), .pointer (some ⟨mb, 0, none⟩), .pointer (some ⟨rb, 0, none⟩), .pointer (some ⟨rmb, 0, none⟩)] 28)) := (Below.refl _ W1).alloc (Nat.le_refl _) _
  have hB0 : Below w.heap.size w W1 := hB
  have HT := Hid3.mk (hT.below hb)
  have HB := Hid3.mk (hB0.trans (hb.mono hB0.size))
  have HX := Hid3.mk hX
  have c2 := dlive_any (W1.alloc (.cells #[.pointer (some ⟨db, 0, none⟩), .pointer (some ⟨mb, 0, none⟩), .pointer (some ⟨rb, 0, none⟩), .pointer (some ⟨rmb, 0, none⟩)] 28))
  have hs1 : W1.heap.size < (W1.alloc (.cells #[.pointer (some ⟨db, 0, none⟩), .pointer (some ⟨mb, 0, none⟩), .pointer (some ⟨rb, 0, none⟩), .pointer (some ⟨rmb, 0, none⟩)] 28)).heap.size := by simp
  have hWs : w.heap.size ≤ W1.heap.size := hB0.size
  have hBs : w.heap.size ≤ W1.heap.size := hB.size
  clear hT hB hB0 hb hX
  go_wp2_with fail
  refine c2.mono ?_
  rintro e W2 ⟨rfl, hB2⟩
  clear c2
  have hX2 := (hB2.block _ hs1).trans HX.out
  have HX2 := Hid3.mk hX2
  have HB2 := Hid3.mk (HB.out.trans (hB2.mono HB.out.size))
  have HT2 := Hid3.mk (HT.out.below hB2)
  have hs2 : W1.heap.size < W2.heap.size := Nat.lt_of_lt_of_le hs1 hB2.size
  clear hB2 hs1 HT HX HB hX2
  generalize W1.heap.size = b0 at *
  have hlast : (plS z0 (l.take 30)).last ≤ 30 := by
    have := plS_last (l.take 30) z0
    rw [List.length_take] at this
    have h0 : z0.last = 0 := rfl
    omega
  generalize plS z0 (l.take 30) = z at *
  have hx2 := b4c HX2.out
  have cF1 : Hid3 (∀ W, Below W2.heap.size W2 W → Calls Try.prog 19 #[.pointer (some ⟨db, 0, none⟩)] W fun e w' => ∃ db2 sb2 v2, e = .returned (.pointer (some ⟨db2, 0, none⟩)) ∧ Dk W2.heap.size w' db2 sb2 5 z.S v2 z.last z.Q ∧ Below W.heap.size W w' ∧ Below W2.heap.size W2 w') := ⟨fun W hW => (dfork_any w.heap.size db sb 5 z.S v1 z.last z.Q W (HT2.out.below hW).p.d).mono (fun e w' ⟨a1, a2, a3, h1, h2, h3⟩ => ⟨a1, a2, a3, h1, h2.lower hW.size, h3, hW.trans (h3.mono hW.size)⟩)⟩
  have cF2 : Hid3 (∀ W, Below W2.heap.size W2 W → Calls Try.prog 20 #[.pointer (some ⟨mb, 0, none⟩)] W fun e w' => ∃ m, e = .returned (.pointer (some ⟨m, 0, none⟩)) ∧ (Mem w' m 4 z.L ∧ W2.heap.size ≤ m) ∧ Below W.heap.size W w' ∧ Below W2.heap.size W2 w') := ⟨fun W hW => (fork_ok mb 4 z.L W (HT2.out.below hW).p.m).mono (fun e w' ⟨h1, h2, h3⟩ => ⟨_, h1, ⟨h2, hW.size⟩, h3, hW.trans (h3.mono hW.size)⟩)⟩
  have hk0 : Rk w.heap.size (fun g => W2.heap.size ≤ g) W2 rb og 5 z.S u1 z.last z.Q := HT2.out.r.k.change (fun g hg hy => absurd hg (by omega))
  have cF3 : Hid3 (∀ W N, Below W2.heap.size W2 W → N ≤ W.heap.size → Calls Try.prog 21 #[.pointer (some ⟨rb, 0, none⟩)] W fun e w' => ∃ rb2 og2 u2, e = .returned (.pointer (some ⟨rb2, 0, none⟩)) ∧ Rk W2.heap.size (fun g => W2.heap.size ≤ g ∧ (g < N ∨ w'.heap.size ≤ g)) w' rb2 og2 5 z.S u2 z.last z.Q ∧ Below W.heap.size W w' ∧ Below W2.heap.size W2 w') := ⟨fun W N hW hN => (rdfork_any w.heap.size W2.heap.size rb og 5 z.S u1 z.last z.Q W (hk0.below hW) hW.size).mono (fun e w' ⟨a1, a2, a3, h1, h2, h3⟩ => ⟨a1, a2, a3, h1, (h2.change (fun g _ hy => ⟨hy.1, hy.2.imp (fun e => Nat.lt_of_lt_of_le e hN) id⟩)).lower hW.size, h3, hW.trans (h3.mono hW.size)⟩)⟩
  have cF4 : Hid3 (∀ W, Below W2.heap.size W2 W → Calls Try.prog 22 #[.pointer (some ⟨rmb, 0, none⟩)] W fun e w' => ∃ rmb2 rg2, e = .returned (.pointer (some ⟨rmb2, 0, none⟩)) ∧ (RMem w' rmb2 rg2 (32 * 4) z.L ∧ W.heap.size ≤ rmb2 ∧ W.heap.size ≤ rg2) ∧ Below W.heap.size W w' ∧ Below W2.heap.size W2 w') := ⟨fun W hW => (rfork_any rmb rg (32 * 4) z.L W (HT2.out.below hW).r.m (by decide)).mono (fun e w' ⟨⟨a1, a2, h1, h2, h3, h4⟩, h5⟩ => ⟨a1, a2, h1, ⟨h2, h3, h4⟩, h5, hW.trans (h5.mono hW.size)⟩)⟩
  have hE0 : Hid3 (Below W2.heap.size W2 W2.drew) := ⟨(Below.refl _ W2).drew⟩
  have hE1 : Hid3 (Below W2.heap.size W2 (W2.alloc (.cells #[.pointer none, .pointer none, .pointer none, .pointer none] 28)).drew) := ⟨((Below.refl _ W2).alloc (Nat.le_refl _) _).drew⟩
  have HSb : Hid3 (∀ W : World, Below W2.heap.size W2 W → W.cell? ⟨b0, 0, none⟩ = some (.pointer (some ⟨db, 0, none⟩)) ∧ W.cell? ⟨b0, 1, none⟩ = some (.pointer (some ⟨mb, 0, none⟩)) ∧ W.cell? ⟨b0, 2, none⟩ = some (.pointer (some ⟨rb, 0, none⟩)) ∧ W.cell? ⟨b0, 3, none⟩ = some (.pointer (some ⟨rmb, 0, none⟩))) := ⟨fun W hb => b4c ((hb.block b0 hs2).trans HX2.out)⟩
  have HQ := Hid3.mk HT2.out.q
  obtain ⟨x0, x1, x2, x3⟩ := hx2
  have hn2 : b0 ≠ W2.heap.size := by omega
  clear hk0 hWs hBs
  go_wp2_with fail
  go_cut [7] (fun s7 wx => ∃ (a9 db2 sb2 mb2 rb2 og2 rmb2 rg2 : Nat) (v2 u2 : Value), s7 = .pointer (some ⟨a9, 0, none⟩) ∧ Hid3 (Two W2.heap.size wx db2 sb2 mb2 rb2 og2 rmb2 rg2 v2 u2 z) ∧ Hid3 (wx.heap[a9]? = some (.cells #[.pointer (some ⟨db2, 0, none⟩), .pointer (some ⟨mb2, 0, none⟩), .pointer (some ⟨rb2, 0, none⟩), .pointer (some ⟨rmb2, 0, none⟩)] 28)) ∧ Hid3 (Below W2.heap.size W2 wx) ∧ W2.heap.size ≤ a9)
  case first =>
    go_region_held3 (fun w' => w'.cell? ⟨b0, 0, none⟩ = some (.pointer (some ⟨db, 0, none⟩)) ∧ w'.cell? ⟨b0, 1, none⟩ = some (.pointer (some ⟨mb, 0, none⟩)) ∧ w'.cell? ⟨b0, 2, none⟩ = some (.pointer (some ⟨rb, 0, none⟩)) ∧ w'.cell? ⟨b0, 3, none⟩ = some (.pointer (some ⟨rmb, 0, none⟩))) (with_reducible (first | exact HSb.out _ hE0.out | exact HSb.out _ hE1.out | exact HSb.out _ HBd.out | exact HSb.out _ (fk_al HBd.out) | exact HSb.out _ (fk_s HBd.out (by omega)) | exact HSb.out _ (fk_s (fk_al HBd.out) (by omega)) | exact HSb.out _ HBc.out | exact HSb.out _ (fk_al HBc.out) | exact HSb.out _ HBb.out | exact HSb.out _ (fk_al HBb.out) | exact HSb.out _ HBa.out | exact HSb.out _ (fk_al HBa.out))) ((first
      | (go_at_call 19; refine (cF1.out _ (by with_reducible (first | exact hE0.out | exact hE1.out))).mono ?_; rintro e Wa ⟨db2, sb2, v2, rfl, hDa, hba, hBa⟩; have HDa := Hid3.mk hDa; have HBa := Hid3.mk hBa; have sa := hBa.size; (with_reducible (first | (have hz := fk_d hba) | skip)); clear hDa hBa hba)
      | (go_at_call 20; refine (cF2.out _ (by with_reducible (first | exact HBa.out | exact fk_al HBa.out))).mono ?_; rintro e Wb ⟨mb2, rfl, hMb, hbb, hBb⟩; have HMb := Hid3.mk hMb; have HBb := Hid3.mk hBb; have hab := Hid3.mk (show Below Wa.heap.size Wa Wb by with_reducible (first | exact hbb | exact fk_un hbb)); have sb := hab.out.size; (with_reducible (first | (have hz := fk_t hz hbb) | (have hz := fk_a hbb) | skip)); clear hMb hBb hbb)
      | (go_at_call 21; refine (cF3.out _ Wb.heap.size (by with_reducible (first | exact HBb.out | exact fk_al HBb.out)) (by with_reducible (first | exact Nat.le_refl _ | exact fk_le _ _))).mono ?_; rintro e Wc ⟨rb2, og2, u2, rfl, hKc, hbc, hBc⟩; have HKc := Hid3.mk hKc; have HBc := Hid3.mk hBc; have hbcc := Hid3.mk (show Below Wb.heap.size Wb Wc by with_reducible (first | exact hbc | exact fk_un hbc)); have sc := hbcc.out.size; (with_reducible (first | (have hz := fk_t hz hbc) | (have hz := fk_a hbc) | skip)); clear hKc hBc hbc)
      | (go_at_call 22; refine (cF4.out _ (by with_reducible (first | exact HBc.out | exact fk_al HBc.out))).mono ?_; rintro e Wd ⟨rmb2, rg2, rfl, hRd, hbd, hBd⟩; have HBd := Hid3.mk hBd; have hbdd := Hid3.mk (show Below Wc.heap.size Wc Wd by with_reducible (first | exact hbd | exact fk_un hbd)); have sd := hbdd.out.size; have HT9 := Hid3.mk (Two.ofFork sa HDa.out HMb.out.1 HMb.out.2 HKc.out hRd.1 (by with_reducible (first | exact hRd.2.1 | exact Nat.le_trans (fk_le _ _) hRd.2.1)) (by with_reducible (first | exact hRd.2.2 | exact Nat.le_trans (fk_le _ _) hRd.2.2)) hab.out hbcc.out hbdd.out HQ.out); (with_reducible (first | (have hz := fk_t hz hbd) | (have hz := fk_a hbd) | skip)); (first | (obtain ⟨c0, c1, c2, c3⟩ := b4c hz; have cf : ∀ j, Wd.frozen? ⟨_, j, none⟩ = false := fun j => Lib.frozen_of_heap hz j; have cl := (Array.getElem?_eq_some_iff.1 hz).1; have HZ := Hid3.mk hz; clear hz) | skip); clear hRd hBd hbd)))
    all_goals
      go_wp2_with fail
      go_meet
      case rel =>
        first
        | with_reducible exact ⟨_, db2, sb2, mb2, rb2, og2, rmb2, rg2, v2, u2, rfl, ⟨HT9.out.far HZ.out (fk_ap Wd _ _ _ _ _)⟩, ⟨fk_h HZ.out⟩, ⟨fk_s HBd.out (by omega)⟩, by omega⟩
        | with_reducible exact ⟨_, db2, sb2, mb2, rb2, og2, rmb2, rg2, v2, u2, rfl, ⟨(HT9.out.below ((Below.refl _ Wd).alloc (Nat.le_refl _) _)).far (heap_alloc_last Wd _) (fk_ap _ _ _ _ _ _)⟩, ⟨fk_h (heap_alloc_last Wd _)⟩, ⟨fk_s (fk_al HBd.out) (by omega)⟩, by omega⟩
        | with_reducible exact ⟨_, db2, sb2, mb2, rb2, og2, rmb2, rg2, v2, u2, rfl, ⟨HT9.out.below ((Below.refl _ Wd).alloc (Nat.le_refl _) _)⟩, ⟨heap_alloc_last Wd _⟩, ⟨fk_al HBd.out⟩, by omega⟩
  case rest =>
    obtain ⟨a9, db2, sb2, mb2, rb2, og2, rmb2, rg2, v2, u2, rfl, HT9, HX9, HB9, ha9⟩ := hcut
    clear cF1 cF2 cF3 cF4 hE0 hE1 HSb HQ x0 x1 x2 x3
    obtain ⟨W3, hW3⟩ : ∃ W, W = wc := ⟨_, rfl⟩
    subst hW3
    have hs3 := HB9.out.size
    have hB0n : w.heap.size ≤ W2.heap.size := HB2.out.size
    go_wp2_with fail
    go_loopw [8] (fun s8 wr => ∃ (i : Nat), i ≤ lm.length ∧ i ≤ 12 ∧ s8 = .int .i64 i ∧ Hid3 (∃ v u, Two W2.heap.size wr db2 sb2 mb2 rb2 og2 rmb2 rg2 v u (plS z (lm.take i))) ∧ Hid3 (Bw W2.heap.size W3 wr)) (fun s8 _ => 12 - (intOf s8).toNat)
    case atStart => exact ⟨0, Nat.zero_le _, by omega, rfl, ⟨_, _, HT9.out⟩, ⟨Bw.of (Below.refl _ _) (by omega)⟩⟩
    case round =>
      obtain ⟨i, hil, hi30, rfl, HT, HW⟩ := hrel
      have hszr := HW.out.b.size
      by_cases hlt : i < lm.length
      · have hltz : (i : Int) < (lm.length : Int) := by omega
        by_cases h30 : i < 12
        · have h30z : (i : Int) < 12 := by omega
          have hi0 : (0 : Int) ≤ (i : Int) := by omega
          obtain ⟨_, _, e0, _, hc⟩ := HDM.out.below ((HB2.out.trans (HB9.out.mono hB0n)).trans (HW.out.b.mono hB0n))
          injection e0 with e1 e2 e3
          obtain ⟨ok, g, off, e4, hg, d0, d1, d2, d3, d4, d5, d6, d7⟩ := hc i lm[i] (List.getElem?_eq_getElem hlt)
          rw [← e1] at e4
          subst e4
          have hlast2 : (plS z (lm.take i)).last < 1000000 := by
            have := plS_last (lm.take i) z
            rw [List.length_take] at this
            omega
          have hpl : plS z (lm.take (i + 1)) = ddS (plS z (lm.take i)) lm[i] := by rw [List.take_succ_eq_append_getElem hlt, plS_snoc]
          obtain ⟨v5, u5, hT5⟩ := HT.out
          have hcall := ddo_any W2.heap.size w.heap.size db2 sb2 mb2 rb2 og2 rmb2 rg2 v5 u5 _ lm[i] wr.drew (hT5.below (Below.refl _ wr).drew) (by show W2.heap.size ≤ wr.heap.size; omega) ok hB0n hlast2
          rw [← hpl] at hcall
          have e4' := HW.out.k a9 _ HX9.out
          obtain ⟨x0, x1, x2, x3⟩ := b4c e4'
          unfold Dd.val at hcall
          clear hc e1 e3 hpl ok hT5 hlast2
          generalize lm[i] = d at *
          obtain ⟨dk, di, q0, q1, q2, q3, q4, dv, bs⟩ := d
          simp only at d0 d1 d2 d3 d4 d5 d6 d7 hcall
          have hS0 : Hid3 (wr.drew.cell? ⟨a9, 0, none⟩ = some (.pointer (some ⟨db2, 0, none⟩)) ∧ wr.drew.cell? ⟨a9, 1, none⟩ = some (.pointer (some ⟨mb2, 0, none⟩)) ∧ wr.drew.cell? ⟨a9, 2, none⟩ = some (.pointer (some ⟨rb2, 0, none⟩)) ∧ wr.drew.cell? ⟨a9, 3, none⟩ = some (.pointer (some ⟨rmb2, 0, none⟩)) ∧ wr.drew.cell? ⟨g, off + i * 8, none⟩ = some (.int .i64 dk) ∧ wr.drew.cell? ⟨g, off + i * 8 + 1, none⟩ = some (.int .i64 di) ∧ wr.drew.cell? ⟨g, off + i * 8 + 2, none⟩ = some (.int .u32 q0) ∧ wr.drew.cell? ⟨g, off + i * 8 + 3, none⟩ = some (.bool q1) ∧ wr.drew.cell? ⟨g, off + i * 8 + 4, none⟩ = some (.int .i64 q2) ∧ wr.drew.cell? ⟨g, off + i * 8 + 5, none⟩ = some (.int .i64 q3) ∧ wr.drew.cell? ⟨g, off + i * 8 + 6, none⟩ = some (.int .u8 q4) ∧ wr.drew.cell? ⟨g, off + i * 8 + 7, none⟩ = some dv) := ⟨⟨x0, x1, x2, x3, d0, d1, d2, d3, d4, d5, d6, d7⟩⟩
          have HSb : Hid3 (∀ W : World, Bw W2.heap.size wr.drew W → W.cell? ⟨a9, 0, none⟩ = some (.pointer (some ⟨db2, 0, none⟩)) ∧ W.cell? ⟨a9, 1, none⟩ = some (.pointer (some ⟨mb2, 0, none⟩)) ∧ W.cell? ⟨a9, 2, none⟩ = some (.pointer (some ⟨rb2, 0, none⟩)) ∧ W.cell? ⟨a9, 3, none⟩ = some (.pointer (some ⟨rmb2, 0, none⟩)) ∧ W.cell? ⟨g, off + i * 8, none⟩ = some (.int .i64 dk) ∧ W.cell? ⟨g, off + i * 8 + 1, none⟩ = some (.int .i64 di) ∧ W.cell? ⟨g, off + i * 8 + 2, none⟩ = some (.int .u32 q0) ∧ W.cell? ⟨g, off + i * 8 + 3, none⟩ = some (.bool q1) ∧ W.cell? ⟨g, off + i * 8 + 4, none⟩ = some (.int .i64 q2) ∧ W.cell? ⟨g, off + i * 8 + 5, none⟩ = some (.int .i64 q3) ∧ W.cell? ⟨g, off + i * 8 + 6, none⟩ = some (.int .u8 q4) ∧ W.cell? ⟨g, off + i * 8 + 7, none⟩ = some dv) := ⟨fun W hb => by
            obtain ⟨x0, x1, x2, x3⟩ := b4c (hb.k a9 _ e4')
            have hk := hb.b.block g (by omega)
            refine ⟨x0, x1, x2, x3, ?_, ?_, ?_, ?_, ?_, ?_, ?_, ?_⟩ <;> (rw [World.cell?_of_block (w := wr) hk]; assumption)⟩
          clear d0 d1 d2 d3 d4 d5 d6 d7 x0 x1 x2 x3 e4'
          go_wp2_with fail
          go_region_held3 (fun w' => w'.cell? ⟨a9, 0, none⟩ = some (.pointer (some ⟨db2, 0, none⟩)) ∧ w'.cell? ⟨a9, 1, none⟩ = some (.pointer (some ⟨mb2, 0, none⟩)) ∧ w'.cell? ⟨a9, 2, none⟩ = some (.pointer (some ⟨rb2, 0, none⟩)) ∧ w'.cell? ⟨a9, 3, none⟩ = some (.pointer (some ⟨rmb2, 0, none⟩)) ∧ w'.cell? ⟨g, off + i * 8, none⟩ = some (.int .i64 dk) ∧ w'.cell? ⟨g, off + i * 8 + 1, none⟩ = some (.int .i64 di) ∧ w'.cell? ⟨g, off + i * 8 + 2, none⟩ = some (.int .u32 q0) ∧ w'.cell? ⟨g, off + i * 8 + 3, none⟩ = some (.bool q1) ∧ w'.cell? ⟨g, off + i * 8 + 4, none⟩ = some (.int .i64 q2) ∧ w'.cell? ⟨g, off + i * 8 + 5, none⟩ = some (.int .i64 q3) ∧ w'.cell? ⟨g, off + i * 8 + 6, none⟩ = some (.int .u8 q4) ∧ w'.cell? ⟨g, off + i * 8 + 7, none⟩ = some dv) (with_reducible (first | exact hS0.out | exact hSP.out)) ((go_at_call 23; refine hcall.mono ?_; rintro e W6 ⟨rfl, hT6, hB6⟩; have hSP := Hid3.mk (HSb.out W6 hB6)))
          have HT6 := Hid3.mk hT6
          have HW6 : Hid3 (Bw W2.heap.size W3 W6) := ⟨(HW.out.thenB (Below.refl _ wr).drew (by omega)).trans hB6⟩
          clear hT6 hB6 hcall hS0 hSP HSb HT HW
          go_wp2
          go_roundw
          case rel => exact ⟨i + 1, by omega, by omega, by go_num, HT6, HW6⟩
          case measure => simp [intOf]; omega
        · have h30z : ¬ (i : Int) < 12 := by omega
          have hi : i = 12 := by omega
          have hBx : Below W2.heap.size W2 wr := HB9.out.trans HW.out.b
          have cX := dsame_any _ _ _ _ _ _ _ _ _ _ _ wr (HT2.out.below hBx)
          obtain ⟨x0, x1, x2, x3⟩ := b4c ((hBx.block b0 hs2).trans HX2.out)
          have e4' := HW.out.k a9 _ HX9.out
          have HA4 := Hid3.mk e4'
          obtain ⟨v5, u5, hT5⟩ := HT.out
          have HT5 := Hid3.mk hT5
          have HBx := Hid3.mk (HB2.out.trans (hBx.mono hB0n))
          have hl9 := (Array.getElem?_eq_some_iff.1 e4').1
          clear hBx hT5 e4' HT HW
          go_wp2_with fail
          refine cX.mono ?_
          rintro e W6 ⟨rfl, hB6⟩
          clear cX
          obtain ⟨y0, y1, y2, y3⟩ := b4c ((hB6.block a9 hl9).trans HA4.out)
          have cY := dsame_any _ _ _ _ _ _ _ _ _ _ _ W6 (HT5.out.below hB6)
          have HB6 := Hid3.mk (HBx.out.trans (hB6.mono HBx.out.size))
          clear hB6 x0 x1 x2 x3
          go_wp2_with fail
          refine cY.mono ?_
          rintro e W7 ⟨rfl, hB7⟩
          have HB7 := Hid3.mk (HB6.out.trans (hB7.mono HB6.out.size))
          clear cY hB7
          go_wp2
          go_ret
          exact ⟨rfl, HB7.out⟩
      · have hltz : ¬ (i : Int) < (lm.length : Int) := by omega
        have hBx : Below W2.heap.size W2 wr := HB9.out.trans HW.out.b
        have cX := dsame_any _ _ _ _ _ _ _ _ _ _ _ wr (HT2.out.below hBx)
        obtain ⟨x0, x1, x2, x3⟩ := b4c ((hBx.block b0 hs2).trans HX2.out)
        have e4' := HW.out.k a9 _ HX9.out
        have HA4 := Hid3.mk e4'
        obtain ⟨v5, u5, hT5⟩ := HT.out
        have HT5 := Hid3.mk hT5
        have HBx := Hid3.mk (HB2.out.trans (hBx.mono hB0n))
        have hl9 := (Array.getElem?_eq_some_iff.1 e4').1
        clear hBx hT5 e4' HT HW
        go_wp2_with fail
        refine cX.mono ?_
        rintro e W6 ⟨rfl, hB6⟩
        clear cX
        obtain ⟨y0, y1, y2, y3⟩ := b4c ((hB6.block a9 hl9).trans HA4.out)
        have cY := dsame_any _ _ _ _ _ _ _ _ _ _ _ W6 (HT5.out.below hB6)
        have HB6 := Hid3.mk (HBx.out.trans (hB6.mono HBx.out.size))
        clear hB6 x0 x1 x2 x3
        go_wp2_with fail
        refine cY.mono ?_
        rintro e W7 ⟨rfl, hB7⟩
        have HB7 := Hid3.mk (HB6.out.trans (hB7.mono HB6.out.size))
        clear cY hB7
        go_wp2
        go_ret
        exact ⟨rfl, HB7.out⟩
end Go.Proofs.Ytlnjpgcaciemnaa
