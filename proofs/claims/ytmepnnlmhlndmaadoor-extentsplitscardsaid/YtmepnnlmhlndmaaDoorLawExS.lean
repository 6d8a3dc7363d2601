/- ExtentSplits: the walk. -/
import Derived.Test.YtmepnnlmhlndmaaDoorLawExA
namespace Go.Proofs.YtmepnnlmhlndmaaDoor
open Go.RowKit Go.Maps
set_option linter.unusedVariables false
set_option maxRecDepth 100000
theorem Cl.farT {B : Nat} {w w' : World} {L : Lo} {s : Xt} {q : Nat} {cs : List Value} (h : Cl w q 36 cs) (ht : Pt B w L s) (ap : Apart (XT L) w w') : Cl w' q 36 cs := by
  refine h.stay ap (fun hx => ?_)
  obtain ⟨t, c', h3, h4⟩ := ht.ty hx
  have hg : w.heap[q]? = some (.cells cs.toArray 36 (0, 0)) := h
  have := h3.symm.trans hg
  injection this with this
  injection this with _ this
  rcases h4 with e | e <;> (rw [e] at this; exact absurd this (by decide))
/-- The table, the row that was told, and the extent that was told. -/
structure Osx (w W : World) (T : Nat) (L : Lo) (s : Xt) (v : Value) (l : List Ex) (q : Nat) (x : Ex) : Prop where
  o : Ow w W T L s v l
  c : Cl W q 36 (exCs x)
theorem Osx.low {w W W' : World} {T : Nat} {L : Lo} {s : Xt} {v : Value} {l : List Ex} {q : Nat} {x : Ex} (h : Osx w W T L s v l q x) (k : Below W.heap.size W W') : Osx w W' T L s v l q x := ⟨h.o.low k, h.c.below k⟩
theorem Osx.step {w W W' : World} {T : Nat} {L : Lo} {s s' : Xt} {v : Value} {l : List Ex} {q : Nat} {x : Ex} (h : Osx w W T L s v l q x) (k : TStp w.heap.size W W' L s') : ∃ L', Osx w W' T L' s' v l q x := by
  obtain ⟨L', hL⟩ := h.o.step k
  exact ⟨L', hL, h.c.farT h.o.p k.ap⟩
theorem find_x {s : Xt} {ow id : Nat} {pre post : List Ex} {x : Ex} (k : AtX s ow id pre x post) : s.l.find? (isId id) = some x := by
  rw [List.find?_eq_some_iff_append]
  refine ⟨by unfold isId; rw [decide_eq_true k.i], pre, post, k.l, fun y hy => ?_⟩
  unfold isId
  rw [decide_eq_false (k.n y hy)]
  rfl
theorem Ex.same {x y : Ex} (h1 : x.id = y.id) (h2 : x.st = y.st) (h3 : x.ln = y.ln) (h4 : x.ow = y.ow) (h5 : x.nm = y.nm) (h6 : x.rt = y.rt) : x = y := by
  cases x
  cases y
  simp_all
set_option maxHeartbeats 8000000 in
theorem splits_law (v : Value) (l : List Dd) (id pt : Nat) (w : World) (hd : Dds w v l) (hpt : pt ≤ 255) (hn : NTabs w) : Calls Tryd.prog 5 #[v, .int .u32 id, .int .u8 pt] w fun r w' => r = .returned (.bool true) ∧ Below w.heap.size w w' := by
  have cP := play_any v l w hd hn
  obtain ⟨ad, cap, rfl, _⟩ := _root_.id hd
  obtain ⟨p, hp⟩ : ∃ p : Int, (pt : Int) = p := ⟨_, rfl⟩
  have HPT := Hid3.mk (And.intro hp hpt)
  rw [hp]
  have hwp : IntKind.i64.wrap p = p := by rw [IntKind.wrap_i64]; omega
  clear hd hn hp hpt
  go_enter Tryd.func5, Tryd.ntmps5
  go_wp2_with fail
  refine cP.mono ?_
  rintro r W1 ⟨T, b, L, s, rfl, hP⟩
  have HP := Hid3.mk hP
  have cL := live_any W1
  clear cP hP
  go_wp2_with fail
  refine cL.mono ?_
  rintro r W2 ⟨rfl, hb⟩
  have HP2 := Hid3.mk (HP.out.low hb)
  have cG := p_get HP2.out.m.t id
  rw [HP2.out.t] at cG
  clear cL hb HP
  rcases find_id (s := s) (id := id) with hf | ⟨pre, x, post, hf, k1, k2, k3⟩
  · rw [hf] at cG
    have cG : Calls Tryd.prog 13 #[.pointer (some ⟨T, 0, none⟩), .int .u32 id] W2 fun e w' => e = .returned (.tuple #[.agg #[.int .u32 0, .int .i64 0, .int .i64 0, .int .u8 0, .string ⟨#[]⟩, .int .u8 0], .bool false]) ∧ Below W2.heap.size W2 w' := cG
    clear hf
    go_wp2_with fail
    refine cG.mono ?_
    rintro r W3 ⟨rfl, hb⟩
    have HB := Hid3.mk ((HP2.out.bl.trans (hb.mono HP2.out.bl.size)).alloc (Nat.le_trans HP2.out.bl.size hb.size) (.cells #[.int .u32 0, .int .i64 0, .int .i64 0, .int .u8 0, .string ⟨#[]⟩, .int .u8 0] 36))
    clear cG hb
    go_wp2
    go_ret
    exact ⟨rfl, HB.out⟩
  · rw [hf] at cG
    have cG : Calls Tryd.prog 13 #[.pointer (some ⟨T, 0, none⟩), .int .u32 id] W2 fun e w' => e = .returned (.tuple #[.agg #[.int .u32 x.id, .int .i64 x.st, .int .i64 x.ln, .int .u8 x.ow, .string x.nm, .int .u8 x.rt.toNat], .bool true]) ∧ Below W2.heap.size W2 w' := cG
    clear hf
    go_wp2_with fail
    refine cG.mono ?_
    rintro r W3 ⟨rfl, hb⟩
    have hb2 := below_new W3 (.cells (exCs x).toArray 36)
    have HX := Hid3.mk (Cl.new W3 36 (exCs x))
    have HP4 := Hid3.mk ((HP2.out.low hb).low hb2)
    rw [exs_agg] at HX HP4
    have cS := p_list HP4.out.m.t
    rw [HP4.out.t] at cS
    have hxm : x ∈ s.l := by rw [k1]; simp
    have HLN : Hid3 (1 ≤ x.ln ∧ x.st + x.ln ≤ 20) := ⟨by have := HP4.out.m.t.ok.ln x hxm; have := HP4.out.n; omega⟩
    have HLE : Hid3 (s.l.length ≤ 24 ∧ s.last ≤ 40 ∧ ∀ u ∈ s.l, u.id ≤ s.last) := ⟨⟨HP4.out.m.t.ok.len, HP4.out.la, fun u hu => (HP4.out.m.t.ok.idl u hu).2⟩⟩
    have HAT : Hid3 (AtX s x.ow id pre x post) := ⟨⟨k1, k2, k3, rfl⟩⟩
    clear cG hb hb2 k1 k2 k3 hxm HP2
    go_wp2_with fail
    refine cS.mono ?_
    rintro r W5 ⟨v1, rfl, h1, hb⟩
    have HO : Hid3 (Osx w W5 T L s v1 s.l W3.heap.size x) := ⟨⟨⟨HP4.out.t, HP4.out.m.t.below hb, HP4.out.bl.trans (hb.mono HP4.out.bl.size), XR.of_own h1⟩, HX.out.below hb⟩⟩
    obtain ⟨a1, cap1, hv, _⟩ := (XR.of_own h1).cells
    subst hv
    obtain ⟨ln, hln⟩ : ∃ ln : Int, (x.ln : Int) = ln := ⟨_, rfl⟩
    obtain ⟨st, hst⟩ : ∃ st : Int, (x.st : Int) = st := ⟨_, rfl⟩
    obtain ⟨r, hr⟩ : ∃ r : Nat, pt % x.ln = r := ⟨_, rfl⟩
    obtain ⟨ri, hri⟩ : ∃ ri : Int, (r : Int) = ri := ⟨_, rfl⟩
    obtain ⟨a, ha⟩ : ∃ a : Int, st + ri = a := ⟨_, rfl⟩
    have hlt : r < x.ln := by rw [← hr]; exact Nat.mod_lt _ HLN.out.1
    have hlo := HLN.out
    have hz : ¬ ln = 0 := by omega
    have hrm : p.tmod ln = ri := by
      rw [← HPT.out.1, ← hln, ← hri, ← hr]
      exact Int.tmod_eq_emod_of_nonneg (by omega)
    have hw1 : IntKind.i64.wrap ri = ri := by rw [IntKind.wrap_i64]; omega
    have hw2 : IntKind.i64.wrap (st + ri) = a := by rw [IntKind.wrap_i64]; omega
    have x1 := HO.out.c.cell 1
    have x2 := HO.out.c.cell 2
    simp only [List.getElem?_cons_zero, List.getElem?_cons_succ, exCs] at x1 x2
    rw [hst] at x1
    rw [hln] at x2
    have hxl := HO.out.c.lt
    have HE := Hid3.mk (And.intro hln (And.intro hst (And.intro hri (And.intro ha hlt))))
    clear cS h1 hb HX HP4 hln hst hr hri ha hlt hlo
    generalize W3.heap.size = q at *
    go_wp2_with fail
    go_quiet (fail)
    have HV := Hid3.mk (HO.out.low (belowN5 (Below.refl _ _) nq))
    clear x1 x2 hxl HO
    generalize W5.drewN nq = V at *
    have x3 := HV.out.c.cell 3
    simp only [List.getElem?_cons_zero, List.getElem?_cons_succ, exCs] at x3
    have hxl := HV.out.c.lt
    by_cases hr0 : r = 0
    · have cT := p_split_far HV.out.o.p x.ow id a pre post x HAT.out (.inl (by have := HE.out; omega))
      rw [HV.out.o.t] at cT
      go_wp2_with fail
      refine cT.mono ?_
      rintro r W6 ⟨rfl, hs⟩
      obtain ⟨L6, h6⟩ := HV.out.step hs
      have HO6 := Hid3.mk h6
      have cI := p_list h6.o.p
      rw [h6.o.t] at cI
      clear cT hs h6 HV x3 hxl
      go_wp2_with fail
      refine cI.mono ?_
      rintro r W7 ⟨v2, rfl, h2, hb⟩
      have HO7 := Hid3.mk (HO6.out.low hb)
      have c7 := same_any v2 _ s.l W7 (XR.of_own h2) HO7.out.o.r (by have := HLE.out.1; omega)
      clear cI h2 hb HO6
      go_wp2_with fail
      refine c7.mono ?_
      rintro r W8 ⟨rfl, hb⟩
      have HO8 := Hid3.mk (HO7.out.low hb)
      have x1 := HO8.out.c.cell 1
      simp only [List.getElem?_cons_zero, List.getElem?_cons_succ, exCs] at x1
      rw [HE.out.2.1] at x1
      have hxl := HO8.out.c.lt
      have hq : a = st := by have := HE.out; omega
      have hqq : (a == st) = true := by rw [beq_iff_eq]; exact hq
      clear c7 hb HO7
      go_wp2
      go_ret
      exact ⟨rfl, HO8.out.o.bl⟩
    · have hE := HE.out
      have hL := HLN.out
      have hae : ((x.st + r : Nat) : Int) = a := by omega
      by_cases hfull : 24 ≤ s.l.length
      · have cT := p_split_full HV.out.o.p x.ow id (x.st + r) pre post x HAT.out (by omega) (by omega) hfull
        rw [HV.out.o.t, hae] at cT
        have HL24 : Hid3 (s.l.length = 24) := ⟨by have := HLE.out.1; omega⟩
        clear hE hL hae hfull
        go_wp2_with fail
        refine cT.mono ?_
        rintro r W6 ⟨rfl, hs⟩
        obtain ⟨L6, h6⟩ := HV.out.step hs
        have HO6 := Hid3.mk h6
        have cI := p_list h6.o.p
        rw [h6.o.t] at cI
        clear cT hs h6 HV x3 hxl
        go_wp2_with fail
        refine cI.mono ?_
        rintro r W7 ⟨v2, rfl, h2, hb⟩
        have HO7 := Hid3.mk (HO6.out.low hb)
        have c7 := same_any v2 _ s.l W7 (XR.of_own h2) HO7.out.o.r (by have := HLE.out.1; omega)
        clear cI h2 hb HO6
        go_wp2_with fail
        refine c7.mono ?_
        rintro r W8 ⟨rfl, hb⟩
        have HO8 := Hid3.mk (HO7.out.low hb)
        have hl24 : ((s.l.length : Int) == 24) = true := by rw [HL24.out]; rfl
        clear c7 hb HO7
        go_wp2
        go_ret
        exact ⟨rfl, HO8.out.o.bl⟩
      · have hb1 : x.st + (x.st + r - x.st) ≤ 1000 := by omega
        have cT := p_split HV.out.o.p HV.out.o.bl.size x.ow id (x.st + r) pre post x HAT.out (by omega) (by omega) (by omega) (by have := HLE.out.2.1; omega) hb1
        have hcut : x.st + r ≤ x.st + x.ln := by omega
        obtain ⟨y, hy⟩ : ∃ y, x.len (x.st + r - x.st) hb1 = y := ⟨_, rfl⟩
        obtain ⟨n, hn⟩ : ∃ n, s.last + 1 = n := ⟨_, rfl⟩
        obtain ⟨z, hz2⟩ : ∃ z, (x.cut (x.st + r) hcut).num n = z := ⟨_, rfl⟩
        rw [HV.out.o.t, hae, hn, hy, hz2] at cT
        have y0 : y.id = x.id ∧ y.st = x.st ∧ y.ln = r ∧ y.ow = x.ow ∧ y.nm = x.nm ∧ y.rt = x.rt := by subst hy; exact ⟨rfl, rfl, by show x.st + r - x.st = r; omega, rfl, rfl, rfl⟩
        have z0 : z.id = n ∧ z.st = x.st + r ∧ z.ln = x.ln - r ∧ z.ow = x.ow ∧ z.nm = x.nm ∧ z.rt = x.rt := by subst hz2; exact ⟨rfl, rfl, by show x.st + x.ln - (x.st + r) = x.ln - r; omega, rfl, rfl, rfl⟩
        have hA := HAT.out
        have HKA : Hid3 (AtX ⟨s.N, pre ++ y :: z :: post, n⟩ x.ow id pre y (z :: post)) := ⟨⟨rfl, hA.n, y0.1.trans hA.i, y0.2.2.2.1⟩⟩
        have HKB : Hid3 (AtX ⟨s.N, pre ++ y :: z :: post, n⟩ x.ow n (pre ++ [y]) z post) := ⟨⟨by simp, fun u hu => by
          have hid := HLE.out.2.2
          rcases List.mem_append.1 hu with hu | hu
          · have := hid u (by rw [hA.l]; simp [hu])
            omega
          · rw [List.mem_singleton.1 hu, y0.1]
            have := hid x (by rw [hA.l]; simp)
            omega, z0.1, z0.2.2.2.1⟩⟩
        have HBB : Hid3 (y.st + (y.ln + z.ln) ≤ 1000) := ⟨by omega⟩
        have HBK : Hid3 (pre ++ y.len (y.ln + z.ln) HBB.out :: post = s.l) := ⟨by
          rw [hA.l]
          congr 2
          exact Ex.same y0.1 y0.2.1 (by show y.ln + z.ln = x.ln; omega) y0.2.2.2.1 y0.2.2.2.2.1 y0.2.2.2.2.2⟩
        have HSG : Hid3 (sameG y z = true) := ⟨by unfold sameG; rw [y0.2.2.2.2.1, z0.2.2.2.2.1, y0.2.2.2.2.2, z0.2.2.2.2.2]; simp⟩
        have HYZ := Hid3.mk (And.intro y0 z0)
        clear hE hL hae hfull hb1 hcut hy hz2 y0 z0 hA hn
        go_wp2_with fail
        refine cT.mono ?_
        rintro r W6 ⟨rfl, hs⟩
        obtain ⟨L6, h6⟩ := HV.out.step hs
        have HO6 := Hid3.mk h6
        have cI := p_get h6.o.p id
        rw [h6.o.t, find_x HKA.out] at cI
        have cI : Calls Tryd.prog 13 #[.pointer (some ⟨T, 0, none⟩), .int .u32 id] W6 fun e w' => e = .returned (.tuple #[.agg #[.int .u32 y.id, .int .i64 y.st, .int .i64 y.ln, .int .u8 y.ow, .string y.nm, .int .u8 y.rt.toNat], .bool true]) ∧ Below W6.heap.size W6 w' := cI
        have hE := HE.out
        have hyz := HYZ.out
        have hys : (y.st : Int) = st := by omega
        have hyl : (y.ln : Int) = ri := by omega
        have cI2 : Calls Tryd.prog 13 #[.pointer (some ⟨T, 0, none⟩), .int .u32 id] W6 fun e w' => e = .returned (.tuple #[.agg #[.int .u32 x.id, .int .i64 st, .int .i64 ri, .int .u8 x.ow, .string x.nm, .int .u8 x.rt.toNat], .bool true]) ∧ Below W6.heap.size W6 w' := cI.mono (fun e w' h => ⟨by rw [h.1, hyz.1.1, hys, hyl, hyz.1.2.2.2.1, hyz.1.2.2.2.2.1, hyz.1.2.2.2.2.2], h.2⟩)
        obtain ⟨zl, hzl⟩ : ∃ zl : Int, (z.ln : Int) = zl := ⟨_, rfl⟩
        have hzs : (z.st : Int) = a := by omega
        have hw3 : IntKind.i64.wrap (ri + zl) = ln := by rw [IntKind.wrap_i64]; have := HLN.out; omega
        have HZE := Hid3.mk (And.intro hzl hzs)
        clear cT hs h6 HV x3 hxl cI hE hyz hys hyl hzs hzl
        go_wp2_with fail
        refine cI2.mono ?_
        rintro r W7 ⟨rfl, hb⟩
        have hb2 := below_new W7 (.cells #[.int .u32 x.id, .int .i64 st, .int .i64 ri, .int .u8 x.ow, .string x.nm, .int .u8 x.rt.toNat] 36)
        have HY := Hid3.mk (Cl.new W7 36 [.int .u32 x.id, .int .i64 st, .int .i64 ri, .int .u8 x.ow, .string x.nm, .int .u8 x.rt.toNat])
        have HO7 := Hid3.mk ((HO6.out.low hb).low hb2)
        have cJ := p_get HO7.out.o.p n
        rw [HO7.out.o.t, find_x HKB.out] at cJ
        have cJ : Calls Tryd.prog 13 #[.pointer (some ⟨T, 0, none⟩), .int .u32 n] (W7.alloc (.cells #[.int .u32 x.id, .int .i64 st, .int .i64 ri, .int .u8 x.ow, .string x.nm, .int .u8 x.rt.toNat] 36)) fun e w' => e = .returned (.tuple #[.agg #[.int .u32 z.id, .int .i64 z.st, .int .i64 z.ln, .int .u8 z.ow, .string z.nm, .int .u8 z.rt.toNat], .bool true]) ∧ Below (W7.alloc (.cells #[.int .u32 x.id, .int .i64 st, .int .i64 ri, .int .u8 x.ow, .string x.nm, .int .u8 x.rt.toNat] 36)).heap.size (W7.alloc (.cells #[.int .u32 x.id, .int .i64 st, .int .i64 ri, .int .u8 x.ow, .string x.nm, .int .u8 x.rt.toNat] 36)) w' := cJ
        have cJ2 : Calls Tryd.prog 13 #[.pointer (some ⟨T, 0, none⟩), .int .u32 n] (W7.alloc (.cells #[.int .u32 x.id, .int .i64 st, .int .i64 ri, .int .u8 x.ow, .string x.nm, .int .u8 x.rt.toNat] 36)) fun e w' => e = .returned (.tuple #[.agg #[.int .u32 n, .int .i64 a, .int .i64 zl, .int .u8 x.ow, .string x.nm, .int .u8 x.rt.toNat], .bool true]) ∧ Below (W7.alloc (.cells #[.int .u32 x.id, .int .i64 st, .int .i64 ri, .int .u8 x.ow, .string x.nm, .int .u8 x.rt.toNat] 36)).heap.size (W7.alloc (.cells #[.int .u32 x.id, .int .i64 st, .int .i64 ri, .int .u8 x.ow, .string x.nm, .int .u8 x.rt.toNat] 36)) w' := cJ.mono (fun e w' h => ⟨by
          have hyz := HYZ.out
          rw [h.1, hyz.2.1, HZE.out.2, HZE.out.1, hyz.2.2.2.2.1, hyz.2.2.2.2.2.1, hyz.2.2.2.2.2.2], h.2⟩)
        clear cI2 hb hb2 HO6 cJ
        go_wp2_with fail
        refine cJ2.mono ?_
        rintro r W8 ⟨rfl, hb⟩
        have HY1 := Hid3.mk (HY.out.below hb)
        have HO1 := Hid3.mk (HO7.out.low hb)
        have hb2 := below_new W8 (.cells #[.int .u32 n, .int .i64 a, .int .i64 zl, .int .u8 x.ow, .string x.nm, .int .u8 x.rt.toNat] 36)
        have HZ := Hid3.mk (Cl.new W8 36 [.int .u32 n, .int .i64 a, .int .i64 zl, .int .u8 x.ow, .string x.nm, .int .u8 x.rt.toNat])
        have HO8 := Hid3.mk (HO1.out.low hb2)
        have eM := fun W => eqC W x.nm x.nm (x.rt.toNat : Int) (x.rt.toNat : Int)
        have eG := eqGuardC
        have cM := p_merge HO8.out.o.p HO8.out.o.bl.size x.ow id n pre post y z HKA.out HKB.out (by have := HYZ.out; omega) HSG.out HBB.out
        rw [HO8.out.o.t] at cM
        have x1 := HO1.out.c.cell 1
        have x2 := HO1.out.c.cell 2
        have x3 := HO1.out.c.cell 3
        have x4 := HO1.out.c.cell 4
        have x5 := HO1.out.c.cell 5
        have y2 := HY1.out.cell 2
        simp only [List.getElem?_cons_zero, List.getElem?_cons_succ, exCs] at x1 x2 x3 x4 x5 y2
        have hxl := HO1.out.c.lt
        have hyl2 := HY1.out.lt
        rw [HE.out.1] at x2
        clear cJ2 hb hb2 HO7 HY HY1 HO1 HZ
        go_wp2_with fail
        refine cM.mono ?_
        rintro r W9 ⟨rfl, hs⟩
        obtain ⟨L9, h9⟩ := HO8.out.step hs
        have HO9 := Hid3.mk h9
        have cI := p_list h9.o.p
        rw [h9.o.t] at cI
        have cI : Calls Tryd.prog 12 #[.pointer (some ⟨T, 0, none⟩)] W9 fun e w' => ∃ v, e = .returned v ∧ w'.ownsRow W9.heap.size 36 6 v (pre ++ y.len (y.ln + z.ln) HBB.out :: post).length (exsC (pre ++ y.len (y.ln + z.ln) HBB.out :: post)) ∧ Below W9.heap.size W9 w' := cI
        rw [HBK.out] at cI
        clear cM hs h9 HO8 x1 x2 x3 x4 x5 y2 hxl hyl2
        go_wp2_with fail
        refine cI.mono ?_
        rintro r Wa ⟨v2, rfl, h2, hb⟩
        have HOa := Hid3.mk (HO9.out.low hb)
        have c7 := same_any v2 _ s.l Wa (XR.of_own h2) HOa.out.o.r (by have := HLE.out.1; omega)
        clear cI h2 hb HO9
        go_wp2_with fail
        refine c7.mono ?_
        rintro r Wb ⟨rfl, hb⟩
        have HBc := Hid3.mk (HOa.out.o.bl.trans (hb.mono HOa.out.o.bl.size))
        clear c7 hb
        go_wp2
        go_ret
        exact ⟨rfl, HBc.out⟩
end Go.Proofs.YtmepnnlmhlndmaaDoor
