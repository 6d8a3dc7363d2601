/- The document's disk: Deliver. -/
import Derived.Test.YtlnjpgcaciemnaaDevW
namespace Go.Proofs.Ytlnjpgcaciemnaa
open Go.RowKit Go.Maps
set_option linter.unusedVariables false
set_option maxRecDepth 100000
set_option maxHeartbeats 8000000 in
theorem rdeliver_a (B : Nat) (X : Nat → Prop) (rb og n mb rg N i s : Nat) (S L : List Int) (u : Value) (last : Int) (Q : List Rq) (r0 r3 r4 : Int) (r1 : Bool) (w : World) (h : Rk B X w rb og n S u last Q) (hM : RMem w mb rg (32 * N) L) (hXX : ∀ g, X g → g < w.heap.size) (hXg : X rg) (hi : Q[i]? = some (r0, r1, (s : Int), r3, r4)) (hs : s < n) (hf : 0 ≤ r3) (hN : (N : Int) ≤ r3) (hN64 : N ≤ 64) (hedge : ∀ a l cap, u = .slice a l cap → ¬ cap = i + 1) : Calls Try.prog 49 #[.pointer (some ⟨rb, 0, none⟩), .int .i64 i, .pointer (some ⟨mb, 0, none⟩)] w fun e w' => e = .returned (.tuple #[.agg #[.int .u32 r0, .bool r1, .int .i64 s, .int .i64 r3, .int .u8 r4], .int .i64 10]) ∧ ∃ u', Rk B X w' rb og n S u' last (Q.take i ++ Q.drop (i + 1)) ∧ RMem w' mb rg (32 * N) L ∧ Apart (DX rb og rg) w w' := by
  have hX' : Rk B (fun g => X g ∨ g = w.heap.size) w rb og n S u last Q := h.change (fun g hg hy => hy.elim id (fun e => absurd e (by omega)))
  obtain ⟨C, hC, c0, c1, c2, fz⟩ := h.c
  obtain ⟨a, cap, rfl, hcap⟩ := h.form
  have hedge' := hedge _ _ _ rfl
  have hlt := h.lt
  have hne : rb ≠ w.heap.size := by omega
  have hne1 : rb ≠ w.heap.size + 1 := by omega
  have hfew := h.few
  have hil : i < Q.length := (List.getElem?_eq_some_iff.1 hi).1
  obtain ⟨m, hm⟩ : ∃ m, Q.length = i + 1 + m := ⟨Q.length - (i + 1), by omega⟩
  obtain ⟨g, rfl, hgx, e0, e1, e2, e3, e4⟩ := h.req.at i _ hi
  simp only at e0 e1 e2 e3 e4
  have hglw : g < w.heap.size := World.block_lt_of_cell? w _ e0
  have hgnw : g ≠ w.heap.size := by omega
  obtain ⟨p, hp⟩ : ∃ p, p = i + m := ⟨_, rfl⟩
  have hi1 : ¬ (i : Int) < 0 := by omega
  have hi2 : ¬ (Q.length : Int) ≤ (i : Int) := by omega
  have hi4 : (i : Int) < (Q.length : Int) := by omega
  have hb0 : (0 : Int) ≤ (i : Int) := by omega
  have hb1 : (i : Int) ≤ (Q.length : Int) := by omega
  have hb4 : (i : Int) ≤ (cap : Int) := by omega
  have hb2 : (Q.length : Int) ≤ (cap : Int) := by omega
  have hcz : ¬ cap = 0 := by omega
  obtain ⟨k, hk2⟩ : ∃ k, k = i + 1 := ⟨_, rfl⟩
  have hks0 := hk2
  have hks : (i : Int) + 1 = (k : Int) := by omega
  have hk0 : (0 : Int) ≤ (k : Int) := by omega
  have hi8 : (i : Int) < 8 := by omega
  have hk8 : (k : Int) ≤ 8 := by omega
  have hwk : IntKind.i64.wrap (k : Int) = (k : Int) := by rw [IntKind.wrap_i64]; omega
  have hk1 : (k : Int) ≤ (Q.length : Int) := by omega
  have hk3 : (k : Int) ≤ (cap : Int) := by omega
  have hmk : Q.length - k = m := by omega
  have hk5 : ¬ cap = k := by omega
  have hk4 : ¬ cap - k = 0 := by omega
  have HQl : Hid3 (Q.length = i + 1 + m) := ⟨hm⟩
  have HP : Hid3 (p = i + m) := ⟨hp⟩
  have HI := Hid3.mk hi
  have HK := Hid3.mk hX'
  have HM := Hid3.mk hM
  have HXX := Hid3.mk hXX
  have HXg := Hid3.mk hXg
  have HKS := Hid3.mk hks0
  clear h hX' hM hi hXX hXg hp hm hk2 hks0 hedge hedge'
  go_enter Try.func49, Try.ntmps49
  go_upto_region 6 with fail
  have hbW : Below w.heap.size w ((w.alloc (.cells #[.int .u32 0, .bool false, .int .i64 0, .int .i64 0, .int .u8 0] 45)).alloc (.cells #[.int .u32 r0, .bool r1, .int .i64 s, .int .i64 r3, .int .u8 r4] 45)) := ((Below.refl _ w).alloc (Nat.le_refl _) _).alloc (by simp) _
  have hbz : ((w.alloc (.cells #[.int .u32 0, .bool false, .int .i64 0, .int .i64 0, .int .u8 0] 45)).alloc (.cells #[.int .u32 r0, .bool r1, .int .i64 s, .int .i64 r3, .int .u8 r4] 45)).heap[w.heap.size]? = some (.cells #[.int .u32 0, .bool false, .int .i64 0, .int .i64 0, .int .u8 0] 45) := (Lib.alloc_old _ _ _ (by simp)).trans (heap_alloc_last w _)
  have hbr : ((w.alloc (.cells #[.int .u32 0, .bool false, .int .i64 0, .int .i64 0, .int .u8 0] 45)).alloc (.cells #[.int .u32 r0, .bool r1, .int .i64 s, .int .i64 r3, .int .u8 r4] 45)).heap[w.heap.size + 1]? = some (.cells #[.int .u32 r0, .bool r1, .int .i64 s, .int .i64 r3, .int .u8 r4] 45) := by
    have := heap_alloc_last (w.alloc (.cells #[.int .u32 0, .bool false, .int .i64 0, .int .i64 0, .int .u8 0] 45)) (.cells #[.int .u32 r0, .bool r1, .int .i64 s, .int .i64 r3, .int .u8 r4] 45)
    rw [World.size_alloc] at this
    exact this
  clear c0 c1 c2 fz e0 e1 e2 e3 e4
  generalize ((w.alloc (.cells #[.int .u32 0, .bool false, .int .i64 0, .int .i64 0, .int .u8 0] 45)).alloc (.cells #[.int .u32 r0, .bool r1, .int .i64 s, .int .i64 r3, .int .u8 r4] 45)) = W2 at *
  have hk2' := HK.out.below hbW
  have HR := Hid3.mk hk2'
  have HXX2 : Hid3 (∀ g, (X g ∨ g = w.heap.size) → g < W2.heap.size) := ⟨fun g hg => hg.elim (fun e => Nat.lt_of_lt_of_le (HXX.out g e) hbW.size) (fun e => by rw [e]; exact (Array.getElem?_eq_some_iff.1 hbz).1)⟩
  have g0 : W2.cell? ⟨rb, 1, none⟩ = some (.slice (some ⟨g, 0, none⟩) Q.length cap) := by
    obtain ⟨_, _, _, e, _⟩ := hk2'.c
    exact e
  have hl2 := hk2'.lt
  have HC : Hid3 (∀ j x, (rqsCs Q)[j]? = some x → W2.cell? ⟨g, j, none⟩ = some x) := ⟨fun j x hj => by
    obtain ⟨a', cap', ea, _, _, hc⟩ := hk2'.req
    obtain ⟨g', eg, _, c⟩ := hc j x hj
    injection ea with ea _ _
    rw [eg] at ea
    injection ea with ea
    injection ea with ea
    rw [ea]
    exact c⟩
  have hgl : g < W2.heap.size := World.block_lt_of_cell? W2 _ (HC.out _ _ (rqsCs_at Q i _ HI.out).1)
  have HC2 : Hid3 (∀ j x, (rqsCs (Q.drop (i + 1)))[j]? = some x → W2.cell? ⟨g, k * 5 + j, none⟩ = some x) := ⟨fun j x hj => by
    rw [rqsCs_drop, List.getElem?_drop] at hj
    have := HC.out _ _ hj
    rw [HKS.out]
    exact this⟩
  have HBW := Hid3.mk hbW
  have HBZ := Hid3.mk (And.intro hbz hbr)
  have HM2 := Hid3.mk (HM.out.below hbW)
  have g1 : (W2.alloc (.cells #[] 45)).cell? ⟨rb, 1, none⟩ = some (.slice (some ⟨g, 0, none⟩) Q.length cap) := Lib.cell?_alloc_some _ g0
  have hX1 : Below W2.heap.size W2 (W2.alloc (.cells #[] 45)).drew := ((Below.refl _ W2).alloc (Nat.le_refl _) _).drew
  have HX1 := Hid3.mk hX1
  have H01 : Hid3 ((W2.alloc (.cells #[] 45)).drew.ownsRow W2.heap.size 45 5 (.slice (some ⟨W2.heap.size, 0, none⟩) 0 0) ([] : List Rq).length (rqsCs [])) := ⟨own_none5 W2 _ (Nat.le_refl _)⟩
  have H11 : Hid3 (∀ j x, (rqsCs (Q.take i))[j]? = some x → (W2.alloc (.cells #[] 45)).drew.cell? ((⟨g, 0, none⟩ : Addr).add j) = some x) := ⟨fun j x hj => by
    rw [rqsCs_take, List.getElem?_take] at hj
    split at hj
    · rw [Addr.add_mid, Nat.zero_add]
      exact (hX1.cell (p := ⟨g, j, none⟩) hgl).trans (HC.out j x hj)
    · cases hj⟩
  have lT : (Q.take i).length = i := by rw [List.length_take]; omega
  have lD : (Q.drop (i + 1)).length = m := by rw [List.length_drop]; have := HQl.out; omega
  have lQ : (Q.take i ++ Q.drop (i + 1)).length = p := by rw [List.length_append, lT, lD]; exact HP.out.symm
  have HLs : Hid3 ((Q.take i).length = i ∧ (Q.drop (i + 1)).length = m ∧ (Q.take i ++ Q.drop (i + 1)).length = p ∧ (Q.take i ++ Q.drop (i + 1)).length ≤ 8) := ⟨⟨lT, lD, lQ, by rw [lQ]; have := HP.out; have := HQl.out; omega⟩⟩
  clear hX1 hbW hbz hbr hk2' lT lD lQ
  go_cut [] (fun wx => ∃ a' cap' Wb, wx = Wb.setCell ⟨rb, 1, none⟩ (.slice a' p cap') ∧ Hid3 (RB5 B (fun g => X g ∨ g = w.heap.size) W2 Wb rb og n S (.slice (some ⟨g, 0, none⟩) Q.length cap) (.slice a' p cap') last (Q.take i ++ Q.drop (i + 1))))
  case first =>
   go_region_law ((first
    | (refine step_app5 (by rfl) _ _ (by rfl) W2.heap.size (.slice (some ⟨W2.heap.size, 0, none⟩) 0 0) [] (Q.take i) ⟨g, 0, none⟩ cap i (by exact HLs.out.1.symm) (by rfl) (by rfl) (by exact H01.out) (by exact H11.out) (by have := HLs.out.1; simp only [List.length_nil]; omega) (by exact HX1.out.size) ?_; intro va Wa owna growa ata; have HA : Hid3 (RA5 W2 Wa va (Q.take i)) := ⟨RA5.mk' HX1.out (Nat.le_refl _) owna growa⟩; have ga : Wa.cell? ⟨rb, 1, none⟩ = some (.slice (some ⟨g, 0, none⟩) Q.length cap) := (HA.out.below.cell (p := ⟨rb, 1, none⟩) hl2).trans g0; have HCa : Hid3 (∀ j x, (rqsCs (Q.drop (i + 1)))[j]? = some x → Wa.cell? ((⟨g, k * 5, none⟩ : Addr).add j) = some x) := ⟨fun j x hj => by { rw [Addr.add_mid]; exact (HA.out.below.cell hgl).trans (HC2.out j x hj) }⟩; clear owna growa ata)
    | (refine step_app5 (by rfl) _ _ (by rfl) W2.heap.size va ([] ++ Q.take i) (Q.drop (i + 1)) ⟨g, k * 5, none⟩ _ m (by exact HLs.out.2.1.symm) (by rfl) (by rfl) (by exact HA.out.own) (by exact HCa.out) (by have := HLs.out.1; have := HLs.out.2.1; simp only [List.nil_append]; omega) (by exact HA.out.below.size) ?_; intro vb Wb ownb growb atb; have HQ : Hid3 (RB5 B (fun g => X g ∨ g = w.heap.size) W2 Wb rb og n S (.slice (some ⟨g, 0, none⟩) Q.length cap) vb last (Q.take i ++ Q.drop (i + 1))) := ⟨RB5.mk' HR.out HXX2.out HA.out (Below.refl _ _) ownb growb HLs.out.2.2.2⟩; have c4 := HQ.out.c; have f4 := HQ.out.f; obtain ⟨a', cap', e'⟩ := HQ.out.v; have e'' : vb = .slice a' p cap' := by { rw [e', HLs.out.2.2.1] }; clear e'; subst e''; clear ownb growb atb)))
   all_goals
     go_wp2_with fail
     go_meet
     case rel => exact ⟨a', cap', Wb, rfl, HQ⟩
  case rest =>
   obtain ⟨a', cap', Wb, rfl, HQ⟩ := hcut
   have hA3 := HQ.out.a
   have hne9 := HK.out.mem_ne HM.out
   have hM3 : RMem (Wb.setCell ⟨rb, 1, none⟩ (.slice a' p cap')) mb rg (32 * N) L := HM2.out.stay hA3 hne9.1.1 hne9.2.1
   have kz : (Wb.setCell ⟨rb, 1, none⟩ (.slice a' p cap')).heap[w.heap.size]? = some (.cells #[.int .u32 0, .bool false, .int .i64 0, .int .i64 0, .int .u8 0] 45) := (hA3.block _ (Array.getElem?_eq_some_iff.1 HBZ.out.1).1 (fun e => hne e.symm)).trans HBZ.out.1
   have kr : (Wb.setCell ⟨rb, 1, none⟩ (.slice a' p cap')).heap[w.heap.size + 1]? = some (.cells #[.int .u32 r0, .bool r1, .int .i64 s, .int .i64 r3, .int .u8 r4] 45) := (hA3.block _ (Array.getElem?_eq_some_iff.1 HBZ.out.2).1 (fun e => hne1 e.symm)).trans HBZ.out.2
   have HK3 := Hid3.mk HQ.out.k
   have HA3 : Hid3 (Apart (DX rb og rg) w (Wb.setCell ⟨rb, 1, none⟩ (.slice a' p cap'))) := ⟨((Apart.of_below HBW.out).trans hA3).wide (fun _ _ e => .inl e)⟩
   have HKZ := Hid3.mk (And.intro kz kr)
   have HM3 := Hid3.mk hM3
   have hne9' := Hid3.mk hne9
   obtain ⟨_, y1, y2, y3, y4⟩ := b5m kr
   have hw3 : w.heap.size + 2 ≤ (Wb.setCell ⟨rb, 1, none⟩ (.slice a' p cap')).heap.size := (Array.getElem?_eq_some_iff.1 kr).1
   clear H01 H11 HX1 HQ HBW HBZ HM2 HC HC2 HXX2 g0 g1 hl2 hgl HLs HR hA3 kz kr hM3 hne9 hgx
   generalize (Wb.setCell ⟨rb, 1, none⟩ (.slice a' p cap')) = W3 at *
   have cF := rframe_any mb rg (32 * N) N r3 L W3 HM3.out rfl
   rw [show inE (N : Int) r3 0 1 = 2 by
     unfold inE
     rw [if_neg (fun q => by have := (inB_t q).2.1; omega)]] at cF
   go_wp2_with fail
   refine cF.mono ?_
   rintro e W4 ⟨⟨v, rfl, _⟩, hB4⟩
   clear cF
   have kz := (hB4.block _ (by omega)).trans HKZ.out.1
   have kr := (hB4.block _ (by omega)).trans HKZ.out.2
   have HK4 := Hid3.mk (HK3.out.below hB4)
   have HM4 := Hid3.mk (HM3.out.below hB4)
   have HA4 := Hid3.mk (HA3.out.trans (Apart.of_below hB4))
   clear hB4
   obtain ⟨z0, z1, z2, z3, z4⟩ := b5m kz
   obtain ⟨x0, x1, x2, x3, x4⟩ := b5m kr
   have zf : ∀ j, W4.frozen? ⟨w.heap.size, j, none⟩ = false := fun j => Lib.frozen_of_heap kz j
   have n1 : w.heap.size ≠ w.heap.size + 1 := by omega
   have a5 := apart_set5 W4 w.heap.size (.int .u32 r0) (.bool r1) (.int .i64 s) (.int .i64 r3) (.int .u8 r4)
   have HF : Hid3 (Rk B X (((((W4.setCell ⟨w.heap.size, 0, none⟩ (.int .u32 r0)).setCell ⟨w.heap.size, 1, none⟩ (.bool r1)).setCell ⟨w.heap.size, 2, none⟩ (.int .i64 s)).setCell ⟨w.heap.size, 3, none⟩ (.int .i64 r3)).setCell ⟨w.heap.size, 4, none⟩ (.int .u8 r4)) rb og n S (.slice a' p cap') last (Q.take i ++ Q.drop (i + 1)) ∧ RMem (((((W4.setCell ⟨w.heap.size, 0, none⟩ (.int .u32 r0)).setCell ⟨w.heap.size, 1, none⟩ (.bool r1)).setCell ⟨w.heap.size, 2, none⟩ (.int .i64 s)).setCell ⟨w.heap.size, 3, none⟩ (.int .i64 r3)).setCell ⟨w.heap.size, 4, none⟩ (.int .u8 r4)) mb rg (32 * N) L ∧ Apart (DX rb og rg) w (((((W4.setCell ⟨w.heap.size, 0, none⟩ (.int .u32 r0)).setCell ⟨w.heap.size, 1, none⟩ (.bool r1)).setCell ⟨w.heap.size, 2, none⟩ (.int .i64 s)).setCell ⟨w.heap.size, 3, none⟩ (.int .i64 r3)).setCell ⟨w.heap.size, 4, none⟩ (.int .u8 r4))) := ⟨by
    have q1 : Rk B (fun g => X g ∨ g = w.heap.size) W4 rb og n S (.slice a' p cap') last (Q.take i ++ Q.drop (i + 1)) := HK4.out
    refine ⟨(q1.stay a5 (fun g e => .inr e)).change (fun g _ hx => .inl hx), RMem.stay HM4.out a5 (fun e => ?_) (fun e => ?_), HA4.out.then a5 (fun i hi e => by have e' : i = w.heap.size := e; omega)⟩
    · have := HM.out.lt
      have e' : mb = w.heap.size := e
      omega
    · have := HM.out.ltg
      have e' : rg = w.heap.size := e
      omega⟩
   clear kz kr a5
   go_wp2
   refine bodyPost_ret (v := .tuple #[.agg #[.int .u32 r0, .bool r1, .int .i64 s, .int .i64 r3, .int .u8 r4], .int .i64 10]) (by simp [results, Try.results49, go_sem, *]) rfl ⟨rfl, _, HF.out⟩
end Go.Proofs.Ytlnjpgcaciemnaa
