/- TopPaged: a sector that is read into a frame is seen at the page that is mapped in it. -/
import Derived.Test.YtdmahmolhdbegaaPgIn
import Derived.Test.YtdmahmolhdbegaaPgTlbK
import Derived.BigQuiet
namespace Go.Proofs.Ytdmahmolhdbegaa
open Go.RowKit Go.Maps
set_option linter.unusedVariables false
set_option maxRecDepth 100000
theorem to_tb {X : Nat → Prop} {w w' : World} (h : Apart X w w') : Tb.Apart X w w' := ⟨h.os, h.tape, h.output, h.size, h.block⟩
theorem of_tb {X : Nat → Prop} {w w' : World} (h : Tb.Apart X w w') : Apart X w w' := ⟨h.os, h.tape, h.output, h.size, h.block⟩
theorem belowN5 {B : Nat} {a w : World} (h : Below B a w) (n : Nat) : Below B a (w.drewN n) := h.trans ⟨rfl, rfl, rfl, Nat.le_refl _, fun _ _ => rfl⟩
theorem frL_put_same {S vs : List Int} {i n : Nat} (hl : S.length = n * 32) (hi : i < n) (hv : vs.length = 32) : frL (putL S (i * 32) vs) i = vs := by
  unfold frL putL
  rw [List.drop_append_of_le_length (by rw [List.length_take]; omega), List.drop_of_length_le (by rw [List.length_take]; omega), List.nil_append, List.take_append_of_le_length (by omega), List.take_of_length_le (by omega)]
theorem tr_hit (p f o : Nat) (hp : p < 16) (ho : o < 32) : Tb.trL 3 ((p : Int) * 32 + o) false [((3, (p : Int), (f : Int), false) : Tb.Mp)] = ((f : Int), (o : Int), 0) := by
  unfold Tb.trL
  have e1 : ((p : Int) * 32 + o) / 32 = p := by omega
  have e2 : ((p : Int) * 32 + o) % 32 = o := by omega
  rw [if_neg (by omega), e1, e2]
  simp [Tb.ofB, List.findIdx?, List.findIdx?.go]
theorem tr_miss (p o : Nat) (hp : p < 16) (ho : o < 32) : Tb.trL 3 ((p : Int) * 32 + o) false [] = (0, 0, 10) := by
  unfold Tb.trL
  rw [if_neg (by omega)]
  rfl
set_option maxHeartbeats 8000000 in
theorem paged_law (xs : List Int) (hxl : xs.length = 32) (hxb : ∀ x ∈ xs, 0 ≤ x ∧ x ≤ 255) (px py pz pu : Int) (w : World) (hpx : 0 ≤ px ∧ px ≤ 255) (hpy : 0 ≤ py ∧ py ≤ 255) (hpz : 0 ≤ pz ∧ pz ≤ 255) (hpu : 0 ≤ pu ∧ pu ≤ 255) : Calls Try.prog 3 #[.agg (xs.map (Value.int .u8)).toArray, .agg #[.int .u8 px, .int .u8 py, .int .u8 pz, .int .u8 pu]] w fun e w' => e = .returned (.bool true) ∧ Below w.heap.size w w' := by
  obtain ⟨s, hs⟩ : ∃ s : Nat, px.tmod 8 = (s : Int) := ⟨(px % 8).toNat, by rw [Int.tmod_eq_emod_of_nonneg hpx.1]; omega⟩
  obtain ⟨p, hp⟩ : ∃ p : Nat, py.tmod 16 = (p : Int) := ⟨(py % 16).toNat, by rw [Int.tmod_eq_emod_of_nonneg hpy.1]; omega⟩
  obtain ⟨f, hf⟩ : ∃ f : Nat, pz.tmod 8 = (f : Int) := ⟨(pz % 8).toNat, by rw [Int.tmod_eq_emod_of_nonneg hpz.1]; omega⟩
  obtain ⟨o, ho⟩ : ∃ o : Nat, pu.tmod 32 = (o : Int) := ⟨(pu % 32).toNat, by rw [Int.tmod_eq_emod_of_nonneg hpu.1]; omega⟩
  have s8 : s < 8 := by rw [Int.tmod_eq_emod_of_nonneg hpx.1] at hs; omega
  have p16 : p < 16 := by rw [Int.tmod_eq_emod_of_nonneg hpy.1] at hp; omega
  have f8 : f < 8 := by rw [Int.tmod_eq_emod_of_nonneg hpz.1] at hf; omega
  have o32 : o < 32 := by rw [Int.tmod_eq_emod_of_nonneg hpu.1] at ho; omega
  have wx : IntKind.i64.wrap px = px := by rw [IntKind.wrap_i64]; omega
  have wu : IntKind.i64.wrap pu = pu := by rw [IntKind.wrap_i64]; omega
  have wp : IntKind.u8.wrap (p : Int) = (p : Int) := by simp only [IntKind.wrap, IntKind.signed, IntKind.bits]; simp; omega
  have wf : IntKind.u8.wrap (f : Int) = (f : Int) := by simp only [IntKind.wrap, IntKind.signed, IntKind.bits]; simp; omega
  have wp2 : IntKind.i64.wrap (p : Int) = (p : Int) := by rw [IntKind.wrap_i64]; omega
  have wf2 : IntKind.i64.wrap (f : Int) = (f : Int) := by rw [IntKind.wrap_i64]; omega
  have wd1 : IntKind.i64.wrap ((p : Int) * 32) = (p : Int) * 32 := by rw [IntKind.wrap_i64]; omega
  have wd2 : IntKind.i64.wrap ((p : Int) * 32 + o) = (p : Int) * 32 + o := by rw [IntKind.wrap_i64]; omega
  have wd3 : IntKind.u16.wrap ((p : Int) * 32 + o) = (p : Int) * 32 + o := by simp only [IntKind.wrap, IntKind.signed, IntKind.bits]; simp; omega
  obtain ⟨xo, hxa⟩ : ∃ xo, xs[o]? = some xo := ⟨_, List.getElem?_eq_getElem (by omega)⟩
  have hb0 : Below w.heap.size w ((w.alloc (.cells (xs.map (Value.int .u8)).toArray 22)).alloc (.cells #[.int .u8 px, .int .u8 py, .int .u8 pz, .int .u8 pu] 23)) := ((Below.refl _ w).alloc (Nat.le_refl _) _).alloc (by simp) _
  have hbx : ((w.alloc (.cells (xs.map (Value.int .u8)).toArray 22)).alloc (.cells #[.int .u8 px, .int .u8 py, .int .u8 pz, .int .u8 pu] 23)).heap[w.heap.size]? = some (.cells (xs.map (Value.int .u8)).toArray 22) := (Lib.alloc_old _ _ _ (by simp)).trans (heap_alloc_last w _)
  have hax : ((w.alloc (.cells (xs.map (Value.int .u8)).toArray 22)).alloc (.cells #[.int .u8 px, .int .u8 py, .int .u8 pz, .int .u8 pu] 23)).heap[w.heap.size + 1]? = some (.cells #[.int .u8 px, .int .u8 py, .int .u8 pz, .int .u8 pu] 23) := by
    have := heap_alloc_last (w.alloc (.cells (xs.map (Value.int .u8)).toArray 22)) (.cells #[.int .u8 px, .int .u8 py, .int .u8 pz, .int .u8 pu] 23)
    rw [World.size_alloc] at this
    exact this
  have hs0 : ((w.alloc (.cells (xs.map (Value.int .u8)).toArray 22)).alloc (.cells #[.int .u8 px, .int .u8 py, .int .u8 pz, .int .u8 pu] 23)).heap.size = w.heap.size + 2 := by simp
  have c1 := dnew_good 8 ((w.alloc (.cells (xs.map (Value.int .u8)).toArray 22)).alloc (.cells #[.int .u8 px, .int .u8 py, .int .u8 pz, .int .u8 pu] 23)) (by decide) (by decide)
  have HB0 := Hid3.mk hb0
  have HX0 := Hid3.mk (And.intro hbx hax)
  have HX := Hid3.mk (And.intro hxl hxa)
  clear hb0 hbx hax hxl hxb hxa hpx hpy hpz hpu
  go_enter Try.func3, Try.ntmps3
  go_wp2_with fail
  refine c1.mono ?_
  rintro e W1 ⟨rfl, hD1, hB1⟩
  rw [hs0] at hD1
  clear c1
  have c2 := new_good 8 W1 (by decide) (by decide)
  have hs1 := hB1.size
  rw [hs0] at hs1
  have HD1 := Hid3.mk hD1
  have HX1 := Hid3.mk (And.intro ((hB1.block w.heap.size (by omega)).trans HX0.out.1) ((hB1.block (w.heap.size + 1) (by omega)).trans HX0.out.2))
  have HB1 := Hid3.mk (HB0.out.trans (hB1.mono HB0.out.size))
  have hd1 := hD1.lt
  clear hD1 hB1
  go_wp2_with fail
  refine c2.mono ?_
  rintro e W2 ⟨rfl, hM2, hB2⟩
  clear c2
  have c3 := Tb.new_any W2
  have hs2 := hB2.size
  have HM2 := Hid3.mk hM2
  have HD2 := Hid3.mk (HD1.out.below hB2)
  have HX2 := Hid3.mk (And.intro ((hB2.block w.heap.size (by omega)).trans HX1.out.1) ((hB2.block (w.heap.size + 1) (by omega)).trans HX1.out.2))
  have HB2 := Hid3.mk (HB1.out.trans (hB2.mono HB1.out.size))
  have hm2 := hM2.lt
  clear hM2 hB2
  go_wp2_with fail
  refine c3.mono ?_
  rintro e W3 ⟨rfl, hO3, hB3⟩
  clear c3
  have hs3 := hB3.size
  have ht3 := hO3.lt
  have HD3 := Hid3.mk (HD2.out.below hB3)
  have HM3 := Hid3.mk (HM2.out.below hB3)
  have HO3 := Hid3.mk hO3
  have hX3a := (hB3.block w.heap.size (by omega)).trans HX2.out.1
  have hX3b := (hB3.block (w.heap.size + 1) (by omega)).trans HX2.out.2
  have HX3 := Hid3.mk hX3a
  have HB3 := Hid3.mk (HB2.out.trans (hB3.mono HB2.out.size))
  have k0 : W3.cell? ⟨w.heap.size + 1, 0, none⟩ = some (.int .u8 px) := by rw [Lib.cell_of_heap hX3b]; rfl
  have k1 : W3.cell? ⟨w.heap.size + 1, 1, none⟩ = some (.int .u8 py) := by rw [Lib.cell_of_heap hX3b]; rfl
  have k2 : W3.cell? ⟨w.heap.size + 1, 2, none⟩ = some (.int .u8 pz) := by rw [Lib.cell_of_heap hX3b]; rfl
  have k3 : W3.cell? ⟨w.heap.size + 1, 3, none⟩ = some (.int .u8 pu) := by rw [Lib.cell_of_heap hX3b]; rfl
  generalize hmb : W1.heap.size = mb at *
  generalize htb : W2.heap.size = tb at *
  clear hB3 hO3 hX3a hX3b HD1 HD2 HM2 HX0 HX1 HX2 HB0 HB1 HB2 hmb htb
  go_wp2_with fail
  go_quiet (fail)
  generalize hW3d : W3.drewN _ = W3d at *
  have hbd : Below W3.heap.size W3 W3d := by rw [← hW3d]; exact belowN5 (Below.refl _ W3) _
  have hsd := hbd.size
  have HD := Hid3.mk (HD3.out.below hbd)
  have HM := Hid3.mk (HM3.out.below hbd)
  have HO := Hid3.mk (HO3.out.below hbd)
  have HXd := Hid3.mk ((hbd.block w.heap.size (by omega)).trans HX3.out)
  have HBd := Hid3.mk (HB3.out.trans (hbd.mono HB3.out.size))
  have hsrc : Src W3d (w.heap.size + 2) w.heap.size 0 xs := ⟨by omega, by omega, fun j x hj => by
    rw [Nat.zero_add, cell_of_row W3d _ j _ _ _ HXd.out, List.getElem?_toArray, List.getElem?_map, hj]
    rfl⟩
  have c4 := dset_ok (w.heap.size + 2) (w.heap.size + 2 + 1) (w.heap.size + 2) 8 s _ xs _ 0 [] w.heap.size 0 32 W3d HD.out s8 HX.out.1 hsrc
  clear k0 k1 k2 k3 hbd hW3d HD3 HM3 HO3 HX3 HB3 hsrc wx wu hs hp hf ho
  go_wp2_with fail
  refine c4.mono ?_
  rintro e W4 ⟨rfl, hD4, hO4⟩
  clear c4
  obtain ⟨S4, hS4⟩ : ∃ S4, S4 = putL (List.replicate (8 * 32) (0 : Int)) (s * 32) xs := ⟨_, rfl⟩
  rw [← hS4] at hD4
  have eS4 : frL S4 s = xs := by rw [hS4]; exact frL_put_same List.length_replicate s8 HX.out.1
  have hs4 := hO4.size
  have a4 := Apart.of_only hO4
  have HP4 : Hid3 (PSt (w.heap.size + 2) W4 (w.heap.size + 2 + 1) (w.heap.size + 2) 8 mb 8 (.slice none 0 0) ⟨S4, zeroL, 0, []⟩) := ⟨PSt.mk' (z := ⟨S4, zeroL, 0, []⟩) hD4 (HM.out.stay a4 (by omega)) (by omega)⟩
  have HO4 := Hid3.mk (HO.out.stay (to_tb a4) (by omega) (fun g hg => by cases hg))
  have HX4 := Hid3.mk ((a4.block w.heap.size (by omega) (by omega)).trans HXd.out)
  have HB4 := Hid3.mk (HBd.out.trans (a4.below w.heap.size (fun k e => by have e' : k = w.heap.size + 2 := e; omega) HBd.out.size))
  have HS := Hid3.mk eS4
  have c5 := askp_any (w.heap.size + 2) (w.heap.size + 2 + 1) (w.heap.size + 2) 8 mb 8 (.slice none 0 0) ⟨S4, zeroL, 0, []⟩ 0 false s f 0 W4 HP4.out (by show (0 : Int) < 1000000; decide) (by omega)
  have eE : askE 8 ([] : List Rq).length (s : Int) (f : Int) = 0 := by unfold askE; rw [if_pos (by omega), if_pos (by decide)]
  rw [show askN 8 ⟨S4, zeroL, 0, []⟩ (s : Int) (f : Int) = 1 by unfold askN; exact (if_pos eE).trans rfl, show askE 8 (Sd.mk S4 zeroL 0 []).Q.length (s : Int) (f : Int) = 0 from eE, show askS 8 ⟨S4, zeroL, 0, []⟩ (false, (s : Int), (f : Int), 0) = ⟨S4, zeroL, 1, [(1, false, (s : Int), (f : Int), 0)]⟩ by unfold askS; exact (if_pos eE).trans rfl] at c5
  clear hD4 hO4 a4 HD HM HO HXd HBd eE hS4 eS4
  go_wp2_with fail
  refine c5.mono ?_
  rintro e W5 ⟨rfl, v5, hp5, ha5, ho5⟩
  clear c5
  have hs5 := ha5.size
  have HP5 := Hid3.mk hp5
  have px5 : ∀ k, k ≠ w.heap.size + 2 + 1 → k ≠ w.heap.size + 2 → k ≠ mb → ¬ PX (w.heap.size + 2 + 1) (w.heap.size + 2) mb (.slice none 0 0) k := fun k h1 h2 h3 hk => by
    rcases hk with e | e | e | e
    · exact h1 e
    · exact h2 e
    · exact h3 e
    · cases e
  have hv5 : Hid3 (∀ g, v5.ownBlock = some g → W4.heap.size ≤ g ∧ g < W5.heap.size) := ⟨fun g hg => by
    rcases ho5 g hg with e | e
    · cases e
    · exact ⟨e, (hp5.d.own.lt g hg).2⟩⟩
  have HO5 := Hid3.mk (HO4.out.stay (to_tb ha5) (px5 _ (by omega) (by omega) (by omega)) (fun g hg => by cases hg))
  have HX5 := Hid3.mk ((ha5.block w.heap.size (by omega) (px5 _ (by omega) (by omega) (by omega))).trans HX4.out)
  have HB5 := Hid3.mk (HB4.out.trans ((PStp.bel HP4.out ⟨v5, hp5, ha5, ho5⟩ (by omega)).mono (by omega)))
  have c6 := Tb.insert_any tb tb (.slice none 0 0) [] (3, (p : Int), (f : Int), false) W5 HO5.out Tb.Good.nil ⟨by show (0 : Int) ≤ 3; decide, by show (3 : Int) ≤ 255; decide, by simp only; omega, by simp only; omega, by simp only; omega, by simp only; omega⟩ (by unfold Tb.rngB; exact decide_eq_true ⟨by simp only; omega, by simp only; omega⟩) (by omega)
  rw [show Tb.insO (3, (p : Int), (f : Int), false) [] = Tb.zM from rfl, show Tb.insL (3, (p : Int), (f : Int), false) [] = [(3, (p : Int), (f : Int), false)] from rfl, show (Tb.insK (3, (p : Int), (f : Int), false) []).isSome = false from rfl] at c6
  unfold Tb.mpV Tb.zM at c6
  simp only at c6
  clear hp5 ha5 ho5 px5 HP4 HO4 HX4 HB4
  go_wp2_with fail
  refine c6.mono ?_
  rintro e W6 ⟨rfl, v6, hS6⟩
  clear c6
  have hs6 := hS6.ap.size
  have a6 := of_tb hS6.ap
  have nx6 : ∀ k, k ≠ tb → ¬ (k = tb ∨ some k = Value.ownBlock (.slice none 0 0)) := fun k h1 hk => hk.elim h1 (fun e => by cases e)
  have hv5' := hv5.out
  have hba : Below W6.heap.size W6 (W6.alloc (.cells #[.int .u8 0, .int .u8 0, .int .u8 0, .bool false] 39)) := (Below.refl _ W6).alloc (Nat.le_refl _) _
  have hP6 : PSt (w.heap.size + 2) W6 (w.heap.size + 2 + 1) (w.heap.size + 2) 8 mb 8 v5 ⟨S4, zeroL, 1, [(1, false, (s : Int), (f : Int), 0)]⟩ := PSt.mk' (z := ⟨S4, zeroL, 1, [(1, false, (s : Int), (f : Int), 0)]⟩) (HP5.out.d.stay a6 (nx6 _ (by omega)) (nx6 _ (by omega)) (fun g hg => nx6 g (by have := hv5' g hg; omega))) (HP5.out.m.stay a6 (nx6 _ (by omega))) HP5.out.mB
  have hv6 : Hid3 (∀ g, v6.ownBlock = some g → W5.heap.size ≤ g ∧ g < W6.heap.size) := ⟨fun g hg => by
    rcases hS6.own with e | ⟨g', h1, h2⟩
    · rw [e] at hg
      cases hg
    · rw [h2] at hg
      have := Option.some.inj hg
      exact ⟨by omega, (hS6.ob.row.lt g (by rw [h2]; exact hg)).2⟩⟩
  have HP6 := Hid3.mk (hP6.below hba)
  have HO6 := Hid3.mk (hS6.ob.below hba)
  have HX6 := Hid3.mk ((hba.block _ (by omega)).trans ((a6.block w.heap.size (by omega) (nx6 _ (by omega))).trans HX5.out))
  have hB6 := HB5.out.trans (a6.below w.heap.size (fun k hk => hk.elim (fun e => by omega) (fun e => by cases e)) HB5.out.size)
  have HB6 := Hid3.mk (hB6.trans (hba.mono hB6.size))
  have hs7 := hba.size
  have hw7 : Wq 8 1 [((1, false, (s : Int), (f : Int), 0) : Rq)] := (Wq.nil 8 0).snoc (1, false, (s : Int), (f : Int), 0) (by decide) rfl ⟨by simp only; omega, by simp only; omega⟩ ⟨by simp only; omega, by simp only; omega⟩
  have c7 := dlvp_any (w.heap.size + 2) (w.heap.size + 2 + 1) (w.heap.size + 2) 8 mb 8 v5 ⟨S4, zeroL, 1, [(1, false, (s : Int), (f : Int), 0)]⟩ 0 (W6.alloc (.cells #[.int .u8 0, .int .u8 0, .int .u8 0, .bool false] 39)) HP6.out hw7
  obtain ⟨L7, hL7⟩ : ∃ L7, L7 = putL zeroL (f * 32) xs := ⟨_, rfl⟩
  have d1 : dlS 8 ⟨S4, zeroL, 1, [(1, false, (s : Int), (f : Int), 0)]⟩ 0 = ⟨S4, L7, 1, []⟩ := by
    show Sd.mk (mvS S4 zeroL false ((s : Int)).toNat (f : Int) 8) (mvL S4 zeroL false ((s : Int)).toNat (f : Int) 8) _ _ = _
    unfold mvS mvL
    rw [if_neg (fun c => by cases c.2), if_pos ⟨by omega, rfl⟩, Int.toNat_natCast, Int.toNat_natCast, HS.out, ← hL7]
    rfl
  have d1e : dlE 8 ⟨S4, zeroL, 1, [(1, false, (s : Int), (f : Int), 0)]⟩ 0 = 0 := by
    show (if (f : Int) < ((8 : Nat) : Int) then (0 : Int) else 10) = 0
    rw [if_pos (by omega)]
  rw [d1, d1e, show dlR ⟨S4, zeroL, 1, [(1, false, (s : Int), (f : Int), 0)]⟩ 0 = (1, false, (s : Int), (f : Int), 0) from rfl] at c7
  have HL : Hid3 (L7.getD (f * 32 + o) 0 = xo) := ⟨by
    rw [← frL_get o32, hL7, frL_put_same (n := 64) zeroL_length (by omega) HX.out.1, List.getD_eq_getElem?_getD, HX.out.2]
    rfl⟩
  unfold rqV at c7
  simp only at c7
  clear hS6 a6 nx6 hv5' hba hP6 hB6 hw7 hL7 d1 d1e HP5 HO5 HX5 HB5
  go_wp2_with fail
  generalize hW6a : (W6.alloc (.cells #[.int .u8 0, .int .u8 0, .int .u8 0, .bool false] 39)) = W6a at *
  clear hW6a
  refine c7.mono ?_
  rintro e W7 ⟨rfl, v7, hp7, ha7, ho7⟩
  clear c7
  have hs8 := ha7.size
  have hv5' := hv5.out
  have px7 : ∀ k, k ≠ w.heap.size + 2 + 1 → k ≠ w.heap.size + 2 → k ≠ mb → (k < W4.heap.size ∨ W5.heap.size ≤ k) → ¬ PX (w.heap.size + 2 + 1) (w.heap.size + 2) mb v5 k := fun k h1 h2 h3 h4 hk => by
    rcases hk with e | e | e | e
    · exact h1 e
    · exact h2 e
    · exact h3 e
    · have := hv5' k e.symm
      omega
  have hb7 : Below W7.heap.size W7 (W7.alloc (.cells #[.int .u32 1, .bool false, .int .i64 s, .int .i64 f, .int .u8 0] 37)) := (Below.refl _ W7).alloc (Nat.le_refl _) _
  have hO7 := HO6.out.stay (to_tb ha7) (px7 _ (by omega) (by omega) (by omega) (by omega)) (fun g hg => px7 g (by have := hv6.out g hg; omega) (by have := hv6.out g hg; omega) (by have := hv6.out g hg; omega) (by have := hv6.out g hg; omega))
  have HO7 := Hid3.mk (hO7.below hb7)
  have HM7 := Hid3.mk (hp7.m.below hb7)
  have HX7 := Hid3.mk ((hb7.block _ (by omega)).trans ((ha7.block w.heap.size (by omega) (px7 _ (by omega) (by omega) (by omega) (by omega))).trans HX6.out))
  have hB7 := HB6.out.trans ((PStp.bel HP6.out ⟨v7, hp7, ha7, ho7⟩ (by omega)).mono (by omega))
  have HB7 := Hid3.mk (hB7.trans (hb7.mono hB7.size))
  have hs9 := hb7.size
  have hmp : ∀ m ∈ [((3, (p : Int), (f : Int), false) : Tb.Mp)], Tb.MpOk m := fun m hm => by
    rw [List.mem_singleton.1 hm]
    exact ⟨by show (0 : Int) ≤ 3; decide, by show (3 : Int) ≤ 255; decide, by simp only; omega, by simp only; omega, by simp only; omega, by simp only; omega⟩
  have c8 := Tb.trans_any tb tb v6 [(3, (p : Int), (f : Int), false)] 3 ((p : Int) * 32 + o) false (W7.alloc (.cells #[.int .u32 1, .bool false, .int .i64 s, .int .i64 f, .int .u8 0] 37)) HO7.out (by simp) hmp (by omega) (by omega)
  rw [tr_hit p f o p16 o32] at c8
  unfold Tb.trV at c8
  simp only at c8
  clear hp7 ha7 ho7 px7 hv5' hb7 hO7 hB7 HP6 HO6 HX6 HB6 hmp
  go_wp2_with fail
  generalize hW7a : (W7.alloc (.cells #[.int .u32 1, .bool false, .int .i64 s, .int .i64 f, .int .u8 0] 37)) = W7a at *
  clear hW7a
  refine c8.mono ?_
  rintro e W8 ⟨rfl, hB8⟩
  clear c8
  have hs10 := hB8.size
  have HO8 := Hid3.mk (HO7.out.below hB8)
  have HM8 := Hid3.mk (HM7.out.below hB8)
  have hX8 := (hB8.block w.heap.size (by omega)).trans HX7.out
  have HX8 := Hid3.mk hX8
  have HB8 := Hid3.mk (HB7.out.trans (hB8.mono HB7.out.size))
  have c9 := byte_ok mb f o 8 L7 W8 HM8.out (by omega) o32
  rw [HL.out] at c9
  clear hB8 HO7 HM7 HX7 HB7 hX8
  go_wp2_with fail
  refine c9.mono ?_
  rintro e W9 ⟨rfl, rfl⟩
  clear c9
  have cA := Tb.frame_any tb tb v6 [(3, (p : Int), (f : Int), false)] f _ HO8.out (by simp)
  rw [show ([((3, (p : Int), (f : Int), false) : Tb.Mp)].filter (fun x => !decide (x.2.2.1 = (f : Int)))) = [] by simp] at cA
  simp only [List.length_cons, List.length_nil] at cA
  go_wp2_with fail
  refine cA.mono ?_
  rintro e Wa ⟨rfl, va, hSa⟩
  clear cA
  have hsa := hSa.ap.size
  have aa := of_tb hSa.ap
  have hv6' := hv6.out
  have HXa := (aa.block w.heap.size (by omega) (fun hk => hk.elim (fun e => by omega) (fun e => by have := hv6' _ e.symm; omega))).trans HX8.out
  have HBa := Hid3.mk (HB8.out.trans (aa.below w.heap.size (fun k hk => hk.elim (fun e => by omega) (fun e => by have := hv6' _ e.symm; omega)) HB8.out.size))
  have HXa := Hid3.mk HXa
  have cB := Tb.trans_any tb tb va [] 3 ((p : Int) * 32 + o) false Wa hSa.ob (by decide) (fun m hm => by cases hm) (by omega) (by omega)
  rw [tr_miss p o p16 o32] at cB
  unfold Tb.trV at cB
  simp only at cB
  clear hSa aa hv6'
  go_wp2_with fail
  refine cB.mono ?_
  rintro e Wb ⟨rfl, hBb⟩
  clear cB
  have hXb := (hBb.block w.heap.size (by omega)).trans HXa.out
  have kb : Wb.cell? ⟨w.heap.size, o, none⟩ = some (.int .u8 xo) := by
    rw [cell_of_row Wb _ o _ _ _ hXb, List.getElem?_toArray, List.getElem?_map, HX.out.2]
    rfl
  have HBb := Hid3.mk (HBa.out.trans (hBb.mono HBa.out.size))
  have hoz : (o : Int) < 32 := by omega
  have ho0 : (0 : Int) ≤ (o : Int) := by omega
  clear hXb hBb
  go_wp2
  go_ret
  exact ⟨rfl, HBb.out⟩
end Go.Proofs.Ytdmahmolhdbegaa
