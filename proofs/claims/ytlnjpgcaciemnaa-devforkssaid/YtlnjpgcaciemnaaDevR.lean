/- The document's disk: its shape; what stays, what is set. -/
import Derived.Test.YtlnjpgcaciemnaaDevL
import Derived.Deep.DeepCutAuto
namespace Go.Proofs.Ytlnjpgcaciemnaa
open Go.RowKit Go.Maps
set_option linter.unusedVariables false
set_option maxRecDepth 100000
/-- Bytes that can be read, of another block. -/
def BytN (b : Nat) (w : World) (v : Value) (bs : List Int) : Prop := ∃ a cap, v = .slice a bs.length cap ∧ bs.length ≤ cap ∧ True ∧ ∀ j x, bs[j]? = some x → ∃ g off, a = some ⟨g, off, none⟩ ∧ g ≠ b ∧ w.cell? ⟨g, off + j, none⟩ = some (.int .u8 x)
theorem BytN.only {b : Nat} {w w' : World} {v : Value} {bs : List Int} (h : BytN b w v bs) (k : Only b w w') : BytN b w' v bs := by
  obtain ⟨a, cap, rfl, hc, hb, hcell⟩ := h
  refine ⟨a, cap, rfl, hc, hb, fun j x hj => ?_⟩
  obtain ⟨g, off, rfl, hg, c0⟩ := hcell j x hj
  exact ⟨g, off, rfl, hg, (k.cell g (off + j) (World.block_lt_of_cell? w _ c0) hg).trans c0⟩
set_option maxHeartbeats 4000000 in
theorem rfillx_any (rb g K N : Nat) (f o : Int) (v : Value) (L vs : List Int) (w : World) (h : RMem w rb g K L) (hK : K = 32 * N) (hv : BytN g w v vs) (hs : vs.length ≤ 1000) : Calls Try.prog 58 #[.pointer (some ⟨rb, 0, none⟩), .int .i64 f, .int .i64 o, v] w fun e w' => e = .returned (.int .i64 (flE N f o vs.length)) ∧ RMem w' rb g K (flL N L f o vs) ∧ Only g w w' := by
  have c1 := may_any rb g K N f o 1 L w h hK (by decide)
  obtain ⟨a, cap, rfl, hcap, hby, hcell⟩ := id hv
  unfold inE at c1
  unfold flL flE flB
  by_cases q : inB N f o 1 = true
  · rw [if_pos q] at c1
    rw [q]
    obtain ⟨h1, h2, h3, h4⟩ := inB_t q
    obtain ⟨p, hp⟩ : ∃ p : Nat, p = plc f o := ⟨_, rfl⟩
    have hp1 : f * 32 + o = (p : Int) := by unfold plc at hp; omega
    have hh := h.hi
    have hf64 : f < 64 := by omega
    have ho32 : o < 32 := by omega
    have hpK : (p : Int) < (K : Int) := by omega
    obtain ⟨C0, hC0, hc0⟩ := h.c
    by_cases q2 : (vs.length : Int) ≤ ((N : Int) - f) * 32 - o
    · rw [decide_eq_true q2, if_pos (by rfl), if_pos (by rfl), ← hp]
      have hfit : ¬ (K : Int) - (p : Int) < (vs.length : Int) := by omega
      have hfn : p + vs.length ≤ K := by omega
      have HV : Hid3 (BytN g w (.slice a vs.length cap) vs) := ⟨hv⟩
      have HL : Hid3 (L.length = 2048) := ⟨h.len⟩
      clear q q2 h4 hK hcell hv hp
      go_enter Try.func58, Try.ntmps58
      go_wp2_with fail
      refine c1.mono ?_
      rintro e W1 ⟨rfl, rfl⟩
      clear c1
      go_wp2
      clear hc0 hfit
      go_loopw [11] (fun s11 wr => ∃ i : Nat, i ≤ vs.length ∧ s11 = .int .i64 i ∧ RMem wr rb g K (putL L p (vs.take i)) ∧ Only g W1 wr) (fun s11 _ => vs.length - (intOf s11).toNat)
      case atStart => exact ⟨0, by omega, rfl, by rw [List.take_zero, putL_nil]; exact h, Only.refl _ _⟩
      case round =>
        obtain ⟨i, hi, rfl, hM, hO⟩ := hrel
        by_cases hlt : i < vs.length
        · have hltz : (i : Int) < (vs.length : Int) := by omega
          obtain ⟨C, hC, hc⟩ := hM.c
          obtain ⟨r, hr⟩ : ∃ r : Nat, r = p + i := ⟨_, rfl⟩
          have hr1 : (p : Int) + (i : Int) = (r : Int) := by omega
          have hrK : (r : Int) < (K : Int) := by omega
          have hx := hM.byte r (by omega)
          obtain ⟨a2, cap2, e0, _, _, hcl⟩ := HV.out.only hO
          injection e0 with e1 e2 e3
          obtain ⟨sg, off, e4, hsg, hy⟩ := hcl i vs[i] (List.getElem?_eq_getElem hlt)
          rw [← e1] at e4
          subst e4
          have hfr := hM.free r
          have k1 := hM.set1 r (by omega) vs[i]
          have k2 := putL_snoc (L := L) (vs := vs) (k := p) (i := i) (by rw [HL.out]; omega) hlt
          rw [show vs.getD i 0 = vs[i] by rw [List.getD_eq_getElem?_getD, List.getElem?_eq_getElem hlt]; rfl, ← hr] at k2
          rw [k2] at k1
          generalize vs[i] = X at *
          generalize (putL L p (vs.take i)).getD r 0 = Y at *
          have HM : Hid3 (RMem (wr.setCell ⟨g, r, none⟩ (.int .u8 X)) rb g K (putL L p (vs.take (i + 1)))) := ⟨k1⟩
          clear k1 k2 hr hM hcl e1 e2 e3
          go_wp2_with fail
          go_region
          all_goals
            go_wp2
            go_roundw
            case rel => exact ⟨i + 1, by omega, by go_num, HM.out.below (Below.refl _ _).drew, (hO.trans (Only.cell1 _ _ _ _)).trans (Only.of_below (Below.refl _ _).drew)⟩
            case measure => simp [intOf]; omega
        · have hltz : ¬ (i : Int) < (vs.length : Int) := by omega
          go_wp2
          go_ret
          refine ⟨rfl, ?_, hO⟩
          rw [List.take_of_length_le (by omega)] at hM
          exact hM
    · rw [decide_eq_false q2, if_neg (by decide), if_neg (by decide)]
      have hfit : (K : Int) - (p : Int) < (vs.length : Int) := by omega
      clear q q2 h4 hK hcell hv hp
      go_enter Try.func58, Try.ntmps58
      go_wp2_with fail
      refine c1.mono ?_
      rintro e W1 ⟨rfl, rfl⟩
      clear c1
      go_wp2
      go_ret
      exact ⟨rfl, h, Only.refl _ _⟩
  · rw [if_neg q] at c1
    have e1 : inB N f o 1 = false := by simpa using q
    rw [e1, if_neg (by simp), if_neg (by simp)]
    clear q e1 hcell hv
    go_enter Try.func58, Try.ntmps58
    go_wp2_with fail
    refine c1.mono ?_
    rintro e W1 ⟨rfl, rfl⟩
    go_wp2
    go_ret
    exact ⟨rfl, h, Only.refl _ _⟩
set_option maxHeartbeats 2000000 in
theorem rframe_ok (rb g K N f : Nat) (L : List Int) (w : World) (h : RMem w rb g K L) (hK : K = 32 * N) (hf : f < N) : Calls Try.prog 31 #[.pointer (some ⟨rb, 0, none⟩), .int .i64 f] w fun e w' => (∃ v, e = .returned (.tuple #[v, .int .i64 0]) ∧ w'.ownsRow w.heap.size 5 1 v 32 ((frL L f).map (Value.int .u8))) ∧ Below w.heap.size w w' := by
  have c1 := may_any rb g K N f 0 1 L w h hK (by decide)
  have hh := h.hi
  have q : inB N f 0 1 = true := by unfold inB; exact decide_eq_true (by omega)
  unfold inE at *
  rw [if_pos q] at c1
  obtain ⟨F, hF⟩ : ∃ F, F = f := ⟨_, rfl⟩
  subst hF
  · obtain ⟨h1, h2, h3, h4⟩ := inB_t q
    have hh := h.hi
    have hF64 : (F : Int) < 64 := by omega
    obtain ⟨p, hp⟩ : ∃ p : Nat, p = F * 32 := ⟨_, rfl⟩
    obtain ⟨p2, hp2⟩ : ∃ p2 : Nat, p2 = p + 32 := ⟨_, rfl⟩
    have e1 : (F : Int) * 32 = (p : Int) := by omega
    have e2 : ((F : Int) + 1) * 32 = (p2 : Int) := by omega
    have hpK : p + 32 ≤ K := by omega
    have b1 : (p : Int) ≤ (p2 : Int) := by omega
    obtain ⟨C, hC, hc⟩ := h.c
    have b2 : (p2 : Int) ≤ (C : Int) := by omega
    have hsl : C ≠ p := by omega
    have hsl2 : ¬ C - p = 0 := by omega
    have hlen := frL_len h.len (f := F) (by omega)
    have hcell : Hid3 (∀ W, Below w.heap.size w W → ∀ j v, ((frL L F).map (Value.int .u8))[j]? = some v → W.cell? ((⟨g, p, none⟩ : Addr).add j) = some v) := ⟨fun W hW j v hj => by
      rw [List.getElem?_map] at hj
      cases hx : (frL L F)[j]? with
      | none => rw [hx] at hj; cases hj
      | some x =>
        rw [hx] at hj
        cases hj
        have hj2 : j < 32 := by have := (List.getElem?_eq_some_iff.1 hx).1; omega
        have hb := h.byte (p + j) (by omega)
        rw [Addr.add_mid, World.cell?_of_block (w := w) (hW.block g (World.block_lt_of_cell? w _ hb)), hb, hp, ← frL_get hj2, List.getD_eq_getElem?_getD, hx]
        rfl⟩
    have HL : Hid3 ((frL L F).length = 32) := ⟨hlen⟩
    have H32 : Hid3 (p2 - p = 32) := ⟨by omega⟩
    have hpp : p2 - p = 32 := by omega
    obtain ⟨i0, hi0, hz0, hz1, hz2⟩ := info_parts infoU8
    have hrl := h.lt
    clear q h4 hK hp hp2 hlen h
    generalize frL L F = FL at *
    go_enter Try.func31, Try.ntmps31
    go_wp2_with fail
    refine c1.mono ?_
    rintro e W1 ⟨rfl, rfl⟩
    clear c1
    have hwa : Below W1.heap.size W1 (W1.alloc (.cells #[] 5)) := (Below.refl _ W1).alloc (Nat.le_refl _) _
    have hcA := hcell.out _ hwa
    have HB : Hid3 (Below W1.heap.size W1 (W1.alloc (.cells #[] 5))) := ⟨hwa⟩
    have hown := own_nil8 W1 W1.heap.size (Nat.le_refl _)
    go_wp2_with (at_builtin; refine wpList_append_own _ rfl _ _ 36 rfl W1.heap.size 5 i0 (.int .u8 0) 1 1 Try.underlying36 hi0 hz0 hz1 hz2 rfl (by decide) _ _ _ rfl hown ⟨g, p, none⟩ 32 (C - p) (FL.map (Value.int .u8)) rfl (by rw [List.length_map]; exact HL.out) hcA (by exact map_one FL) (by unfold maxLen; omega) (by omega) (by simp) ?_; intro v' w1 hown' hgrow _)
    have hb3 : Below W1.heap.size W1 w1 := HB.out.grown hgrow (by simp) (fun j hj => (hown.lt j hj).1)
    go_ret2
    rw [Nat.zero_add, List.nil_append] at hown'
    exact ⟨⟨_, rfl, hown'⟩, hb3⟩
/-- A row of a sector's bytes. -/
def Inn (X : Nat → Prop) (w : World) (F : List Int) (x : Value) : Prop := ∃ g cap, x = .slice (some ⟨g, 0, none⟩) 32 cap ∧ 32 ≤ cap ∧ ¬ X g ∧ ∀ k y, F[k]? = some y → w.cell? ⟨g, k, none⟩ = some (.int .u8 y)
theorem Inn.stay {X Y : Nat → Prop} {w w' : World} {F : List Int} {x : Value} (h : Inn X w F x) (k : Apart Y w w') (hY : ∀ g, Y g → X g) : Inn X w' F x := by
  obtain ⟨g, cap, e, hc, hx, h⟩ := h
  refine ⟨g, cap, e, hc, hx, fun j y hj => ?_⟩
  have c := h j y hj
  rw [World.cell?_of_block (w := w) (k.block g (World.block_lt_of_cell? w _ c) (fun y => hx (hY g y)))]
  exact c
theorem Inn.change {X Y : Nat → Prop} {w : World} {F : List Int} {x : Value} (h : Inn X w F x) (h0 : 0 < F.length) (hY : ∀ g, g < w.heap.size → Y g → X g) : Inn Y w F x := by
  obtain ⟨g, cap, e, hc, hx, h⟩ := h
  have c := h 0 F[0] (List.getElem?_eq_getElem h0)
  exact ⟨g, cap, e, hc, fun y => hx (hY g (World.block_lt_of_cell? w _ c) y), h⟩
/-- What it may not be, and its own. -/
def RZ (X : Nat → Prop) (rb og g : Nat) : Prop := X g ∨ g = rb ∨ g = og
/-- The document's disk. -/
structure Rk (B : Nat) (X : Nat → Prop) (w : World) (rb og n : Nat) (S : List Int) (u : Value) (last : Int) (Q : List Rq) : Prop where
  blk : ∃ C, n ≤ C ∧ w.heap[rb]? = some (.cells #[.slice (some ⟨og, 0, none⟩) n C, u, .int .u32 last] 91)
  row : ∃ cs : List Value, w.heap[og]? = some (.cells cs.toArray 36) ∧ ∀ j, j < n → ∃ x, cs[j]? = some x ∧ Inn (RZ X rb og) w (frL S j) x
  req : RqS (RZ X rb og) w u Q
  len : S.length = n * 32
  n1 : 1 ≤ n
  n64 : n ≤ 64
  few : Q.length ≤ 8
  gr : B ≤ rb
  gg : B ≤ og
  nr : ¬ X rb
  ng : ¬ X og
  la : 0 ≤ last ∧ last ≤ 1000000
theorem Rk.lt {B : Nat} {X : Nat → Prop} {w : World} {rb og n : Nat} {S : List Int} {u : Value} {last : Int} {Q : List Rq} (h : Rk B X w rb og n S u last Q) : rb < w.heap.size := by
  obtain ⟨C, _, e⟩ := h.blk
  exact (Array.getElem?_eq_some_iff.1 e).1
theorem Rk.ltg {B : Nat} {X : Nat → Prop} {w : World} {rb og n : Nat} {S : List Int} {u : Value} {last : Int} {Q : List Rq} (h : Rk B X w rb og n S u last Q) : og < w.heap.size := by
  obtain ⟨C, e, _⟩ := h.row
  exact (Array.getElem?_eq_some_iff.1 e).1
theorem Rk.ne {B : Nat} {X : Nat → Prop} {w : World} {rb og n : Nat} {S : List Int} {u : Value} {last : Int} {Q : List Rq} (h : Rk B X w rb og n S u last Q) : rb ≠ og := by
  intro e
  subst e
  obtain ⟨C, _, e1⟩ := h.blk
  obtain ⟨r, e2, _⟩ := h.row
  rw [e1] at e2
  injection e2 with e2
  injection e2 with _ e2
  exact absurd e2 (by decide)
theorem Rk.form {B : Nat} {X : Nat → Prop} {w : World} {rb og n : Nat} {S : List Int} {u : Value} {last : Int} {Q : List Rq} (h : Rk B X w rb og n S u last Q) : ∃ a cap, u = .slice a Q.length cap ∧ Q.length ≤ cap := by
  obtain ⟨a, cap, e, hc, _⟩ := h.req
  exact ⟨a, cap, e, hc⟩
theorem Rk.c {B : Nat} {X : Nat → Prop} {w : World} {rb og n : Nat} {S : List Int} {u : Value} {last : Int} {Q : List Rq} (h : Rk B X w rb og n S u last Q) : ∃ C : Nat, n ≤ C ∧ w.cell? ⟨rb, 0, none⟩ = some (.slice (some ⟨og, 0, none⟩) n C) ∧ w.cell? ⟨rb, 1, none⟩ = some u ∧ w.cell? ⟨rb, 2, none⟩ = some (.int .u32 last) ∧ ∀ j, w.frozen? ⟨rb, j, none⟩ = false := by
  obtain ⟨C, hC, e⟩ := h.blk
  exact ⟨C, hC, by rw [Lib.cell_of_heap e]; rfl, by rw [Lib.cell_of_heap e]; rfl, by rw [Lib.cell_of_heap e]; rfl, fun j => Lib.frozen_of_heap e j⟩
theorem Rk.at {B : Nat} {X : Nat → Prop} {w : World} {rb og n : Nat} {S : List Int} {u : Value} {last : Int} {Q : List Rq} (h : Rk B X w rb og n S u last Q) (j : Nat) (hj : j < n) : ∃ g cap, w.cell? ⟨og, j, none⟩ = some (.slice (some ⟨g, 0, none⟩) 32 cap) ∧ 32 ≤ cap ∧ g < w.heap.size ∧ ¬ X g ∧ ∀ k y, (frL S j)[k]? = some y → w.cell? ⟨g, k, none⟩ = some (.int .u8 y) := by
  obtain ⟨cs, e, hr⟩ := h.row
  obtain ⟨x, hx, g, cap, rfl, hc, hz, hk⟩ := hr j hj
  have hl := frL_lenS h.len hj
  have c := hk 0 (frL S j)[0] (List.getElem?_eq_getElem (by omega))
  exact ⟨g, cap, by rw [cell_of_row w og j _ _ _ e, List.getElem?_toArray]; exact hx, hc, World.block_lt_of_cell? w _ c, fun y => hz (.inl y), hk⟩
theorem Rk.stay {B : Nat} {X Y : Nat → Prop} {w w' : World} {rb og n : Nat} {S : List Int} {u : Value} {last : Int} {Q : List Rq} (h : Rk B X w rb og n S u last Q) (k : Apart Y w w') (hY : ∀ g, Y g → X g) : Rk B X w' rb og n S u last Q := by
  obtain ⟨C, hC, e⟩ := h.blk
  obtain ⟨cs, e2, hr⟩ := h.row
  refine ⟨⟨C, hC, (k.block rb h.lt (fun y => h.nr (hY _ y))).trans e⟩, ⟨cs, (k.block og h.ltg (fun y => h.ng (hY _ y))).trans e2, fun j hj => ?_⟩, h.req.stay k (fun g y => .inl (hY g y)), h.len, h.n1, h.n64, h.few, h.gr, h.gg, h.nr, h.ng, h.la⟩
  obtain ⟨x, hx, hi⟩ := hr j hj
  exact ⟨x, hx, hi.stay k (fun g y => .inl (hY g y))⟩
theorem Rk.below {B : Nat} {X : Nat → Prop} {w w' : World} {rb og n : Nat} {S : List Int} {u : Value} {last : Int} {Q : List Rq} (h : Rk B X w rb og n S u last Q) (k : Below w.heap.size w w') : Rk B X w' rb og n S u last Q := h.stay (Y := fun _ => False) (Apart.of_below k) (fun _ e => e.elim)
theorem Rk.change {B : Nat} {X Y : Nat → Prop} {w : World} {rb og n : Nat} {S : List Int} {u : Value} {last : Int} {Q : List Rq} (h : Rk B X w rb og n S u last Q) (hY : ∀ g, g < w.heap.size → Y g → X g) : Rk B Y w rb og n S u last Q := by
  obtain ⟨cs, e2, hr⟩ := h.row
  have hz : ∀ g, g < w.heap.size → RZ Y rb og g → RZ X rb og g := fun g hg y => y.imp (hY g hg) id
  refine ⟨h.blk, ⟨cs, e2, fun j hj => ?_⟩, h.req.change hz, h.len, h.n1, h.n64, h.few, h.gr, h.gg, fun y => h.nr (hY _ h.lt y), fun y => h.ng (hY _ h.ltg y), h.la⟩
  obtain ⟨x, hx, hi⟩ := hr j hj
  exact ⟨x, hx, hi.change (by rw [frL_lenS h.len hj]; decide) hz⟩
/-- Its last number is set. -/
theorem Rk.setl {B : Nat} {X : Nat → Prop} {w : World} {rb og n : Nat} {S : List Int} {u : Value} {last : Int} {Q : List Rq} (h : Rk B X w rb og n S u last Q) (l : Int) (hl : 0 ≤ l ∧ l ≤ 1000000) : Rk B X (w.setCell ⟨rb, 2, none⟩ (.int .u32 l)) rb og n S u l Q ∧ Apart (fun k => k = rb) w (w.setCell ⟨rb, 2, none⟩ (.int .u32 l)) := by
  obtain ⟨C, hC, e⟩ := h.blk
  obtain ⟨cs, e2, hr⟩ := h.row
  have a := Apart.set w ⟨rb, 2, none⟩ (.int .u32 l)
  refine ⟨⟨⟨C, hC, (set3 e).2.2⟩, ⟨cs, (a.block og h.ltg (fun y => h.ne y.symm)).trans e2, fun j hj => ?_⟩, h.req.stay a (fun g y => .inr (.inl y)), h.len, h.n1, h.n64, h.few, h.gr, h.gg, h.nr, h.ng, hl⟩, a⟩
  obtain ⟨x, hx, hi⟩ := hr j hj
  exact ⟨x, hx, hi.stay a (fun g y => .inr (.inl y))⟩
/-- Its requests are laid anew. -/
theorem Rk.setq {B : Nat} {X : Nat → Prop} {w w2 : World} {rb og n : Nat} {S : List Int} {u u' : Value} {last : Int} {Q Q' : List Rq} (h : Rk B X w rb og n S u last Q) (hX : ∀ g, X g → g < w.heap.size) (k : Below w.heap.size w w2) (hu : w2.ownsRow w.heap.size 45 5 u' Q'.length (rqsCs Q')) (hl : Q'.length ≤ 8) : Rk B X (w2.setCell ⟨rb, 1, none⟩ u') rb og n S u' last Q' ∧ Apart (fun k => k = rb) w (w2.setCell ⟨rb, 1, none⟩ u') := by
  have h2 := h.below k
  have hlt := h.lt
  have hlg := h.ltg
  obtain ⟨C, hC, e⟩ := h2.blk
  obtain ⟨cs, e2, hr⟩ := h2.row
  have a := Apart.set w2 ⟨rb, 1, none⟩ u'
  refine ⟨⟨⟨C, hC, (set3 e).2.1⟩, ⟨cs, (a.block og h2.ltg (fun y => h.ne y.symm)).trans e2, fun j hj => ?_⟩, (RqS.of_own hu (RZ X rb og) (fun g h1 _ hz => ?_)).stay a (fun g y => .inr (.inl y)), h.len, h.n1, h.n64, hl, h.gr, h.gg, h.nr, h.ng, h.la⟩, (Apart.of_below k).trans a⟩
  · obtain ⟨x, hx, hi⟩ := hr j hj
    exact ⟨x, hx, hi.stay a (fun g y => .inr (.inl y))⟩
  · rcases hz with y | y | y
    · have := hX g y
      omega
    · omega
    · omega
theorem frL_put_same {S vs : List Int} {i n : Nat} (hl : S.length = n * 32) (hi : i < n) (hv : vs.length = 32) : frL (putL S (i * 32) vs) i = vs := by
  unfold frL putL
  rw [List.drop_append_of_le_length (by rw [List.length_take]; omega), List.drop_of_length_le (by rw [List.length_take]; omega), List.nil_append, List.take_append_of_le_length (by omega), List.take_of_length_le (by omega)]
theorem frL_put_ne {S vs : List Int} {i j n : Nat} (hl : S.length = n * 32) (hi : i < n) (hj : j < n) (hv : vs.length = 32) (hne : j ≠ i) : frL (putL S (i * 32) vs) j = frL S j := by
  have hp : (putL S (i * 32) vs).length = S.length := putL_length (by omega)
  refine List.ext_getElem? fun k => ?_
  unfold frL
  rw [List.getElem?_take, List.getElem?_take]
  split
  · rename_i hk
    rw [List.getElem?_drop, List.getElem?_drop]
    have h1 := putL_out (L := S) (vs := vs) (k := i * 32) (p := j * 32 + k) (by omega) (by
      rcases Nat.lt_or_gt_of_ne hne with h | h
      · left; omega
      · right; omega)
    rw [List.getD_eq_getElem?_getD, List.getD_eq_getElem?_getD, List.getElem?_eq_getElem (by omega), List.getElem?_eq_getElem (by omega)] at h1
    rw [List.getElem?_eq_getElem (by omega), List.getElem?_eq_getElem (by omega)]
    exact congrArg some h1
  · rfl
/-- A sector's row is another one. -/
theorem Rk.sets {B : Nat} {X : Nat → Prop} {w w2 : World} {rb og n i : Nat} {S vs : List Int} {u x : Value} {last : Int} {Q : List Rq} (h : Rk B X w rb og n S u last Q) (hX : ∀ g, X g → g < w.heap.size) (k : Below w.heap.size w w2) (hi : i < n) (hv : vs.length = 32) (hu : w2.ownsRow w.heap.size 5 1 x 32 (vs.map (Value.int .u8))) : Rk B X (w2.setCell ⟨og, i, none⟩ x) rb og n (putL S (i * 32) vs) u last Q ∧ Apart (fun k => k = og) w (w2.setCell ⟨og, i, none⟩ x) := by
  have h2 := h.below k
  have hlt := h.lt
  have hlg := h.ltg
  obtain ⟨C, hC, e⟩ := h2.blk
  obtain ⟨cs, e2, hr⟩ := h2.row
  have a := Apart.set w2 ⟨og, i, none⟩ x
  have hlen := h.len
  have hcl : i < cs.length := by
    obtain ⟨y, hy, _⟩ := hr i hi
    exact (List.getElem?_eq_some_iff.1 hy).1
  have e3 : (w2.setCell ⟨og, i, none⟩ x).heap[og]? = some (.cells (cs.set i x).toArray 36) := by
    have hl2 := h2.ltg
    rw [Array.getElem?_eq_getElem hl2] at e2
    injection e2 with e2
    simp [World.setCell, Array.getElem_modify, e2, hl2]
  refine ⟨⟨⟨C, hC, (a.block rb h2.lt (fun y => h.ne y)).trans e⟩, ⟨cs.set i x, e3, fun j hj => ?_⟩, h2.req.stay a (fun g y => .inr (.inr y)), by rw [putL_length (by omega)]; exact hlen, h.n1, h.n64, h.few, h.gr, h.gg, h.nr, h.ng, h.la⟩, (Apart.of_below k).trans a⟩
  by_cases hji : j = i
  · subst hji
    refine ⟨x, by rw [List.getElem?_set_self hcl], ?_⟩
    rw [frL_put_same hlen hj hv]
    obtain ⟨g, cap, rfl⟩ := own_pos hu (by decide)
    refine ⟨g, cap, rfl, ?_, fun hz => ?_, fun q y hq => ?_⟩
    · rcases hu.2 with ⟨h0, _⟩ | ⟨g', cap', cur, e', _, _, h4, _⟩
      · cases h0
      · injection e' with _ _ e'
        omega
    · have hg := (hu.lt g rfl).1
      rcases hz with y | y | y
      · have := hX g y
        omega
      · omega
      · omega
    · have hne : g ≠ og := by
        have := (hu.lt g rfl).1
        omega
      have c := own_cell hu q y hq
      rw [World.cell?_of_block (w := w2) (a.block g (World.block_lt_of_cell? w2 _ c) (fun y => hne y))]
      exact c
  · obtain ⟨y, hy, hin⟩ := hr j hj
    refine ⟨y, by rw [List.getElem?_set_ne (fun e => hji e.symm)]; exact hy, ?_⟩
    rw [frL_put_ne hlen hi hj hv hji]
    exact hin.stay a (fun g y => .inr (.inr y))
end Go.Proofs.Ytlnjpgcaciemnaa
