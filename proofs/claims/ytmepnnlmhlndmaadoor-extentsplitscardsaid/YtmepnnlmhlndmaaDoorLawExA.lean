/- ExtentPlays, ExtentOwns: the walks. -/
import Derived.Test.YtmepnnlmhlndmaaDoorEzP
import Derived.Test.YtmepnnlmhlndmaaDoorEzQ
namespace Go.Proofs.YtmepnnlmhlndmaaDoor
open Go.RowKit Go.Maps
set_option linter.unusedVariables false
set_option maxRecDepth 100000
set_option maxHeartbeats 1000000 in
theorem plays_law (v : Value) (l : List Dd) (w : World) (hd : Dds w v l) (hn : NTabs w) : Calls Tryd.prog 3 #[v] w fun r w' => r = .returned (.bool true) ∧ Below w.heap.size w w' := by
  have cP := play_any v l w hd hn
  obtain ⟨ad, cap, rfl, _⟩ := id hd
  clear hd hn
  go_enter Tryd.func3, Tryd.ntmps3
  go_wp2_with fail
  refine cP.mono ?_
  rintro r W1 ⟨T, b, L, s, rfl, hP⟩
  have HP := Hid3.mk hP
  have cL := live_any W1
  clear cP hP
  go_wp2_with fail
  refine cL.mono ?_
  rintro r W2 ⟨rfl, hb⟩
  have HP2 := Hid3.mk (HP.out.low hb)
  have cS := same_both _ T b L s W2 HP2.out.m HP2.out.t
  clear cL hb HP
  go_wp2_with fail
  refine cS.mono ?_
  rintro r W3 ⟨rfl, hb⟩
  have HB3 := Hid3.mk (HP2.out.bl.trans (hb.mono HP2.out.bl.size))
  clear cS hb
  go_wp2
  go_ret
  exact ⟨rfl, HB3.out⟩
theorem XR.farT {B : Nat} {w w' : World} {L : Lo} {s : Xt} {v : Value} {l : List Ex} (h : XR w v l) (ht : Pt B w L s) (ap : Apart (XT L) w w') : XR w' v l := by
  refine h.stay ap (fun g cur hg hx => ?_)
  obtain ⟨t, c', h3, h4⟩ := ht.ty hx
  have := h3.symm.trans hg
  injection this with this
  injection this with _ this
  rcases h4 with e | e <;> (rw [e] at this; exact absurd this (by decide))
/-- The program's table alone, and a row that was told. -/
structure Ow (w W : World) (T : Nat) (L : Lo) (s : Xt) (v : Value) (l : List Ex) : Prop where
  t : L.t = T
  p : Pt w.heap.size W L s
  bl : Below w.heap.size w W
  r : XR W v l
theorem Ow.low {w W W' : World} {T : Nat} {L : Lo} {s : Xt} {v : Value} {l : List Ex} (h : Ow w W T L s v l) (k : Below W.heap.size W W') : Ow w W' T L s v l := ⟨h.t, h.p.below k, h.bl.trans (k.mono h.bl.size), h.r.low k⟩
theorem Ow.step {w W W' : World} {T : Nat} {L : Lo} {s s' : Xt} {v : Value} {l : List Ex} (h : Ow w W T L s v l) (k : TStp w.heap.size W W' L s') : ∃ L', Ow w W' T L' s' v l := by
  obtain ⟨L', e, hP, _⟩ := k.out
  exact ⟨L', e.trans h.t, hP, h.bl.trans (k.low h.p h.bl.size), h.r.farT h.p k.ap⟩
theorem find_id {s : Xt} {id : Nat} : s.l.find? (isId id) = none ∨ ∃ pre x post, s.l.find? (isId id) = some x ∧ s.l = pre ++ x :: post ∧ (∀ y ∈ pre, y.id ≠ id) ∧ x.id = id := by
  cases h : s.l.find? (isId id) with
  | none => exact .inl rfl
  | some x =>
    obtain ⟨h1, pre, post, h2, h3⟩ := List.find?_eq_some_iff_append.1 h
    refine .inr ⟨pre, x, post, rfl, h2, fun y hy => ?_, of_decide_eq_true h1⟩
    have := h3 y hy
    unfold isId at this
    simpa using this
set_option maxHeartbeats 4000000 in
theorem owns_law (v : Value) (l : List Dd) (id env : Nat) (w : World) (hd : Dds w v l) (hn : NTabs w) : Calls Tryd.prog 6 #[v, .int .u32 id, .int .u8 env] w fun r w' => r = .returned (.bool true) ∧ Below w.heap.size w w' := by
  have cP := play_any v l w hd hn
  obtain ⟨ad, cap, rfl, _⟩ := _root_.id hd
  clear hd hn
  go_enter Tryd.func6, Tryd.ntmps6
  go_wp2_with fail
  refine cP.mono ?_
  rintro r W1 ⟨T, b, L, s, rfl, hP⟩
  have HP := Hid3.mk hP
  have cL := live_any W1
  clear cP hP
  go_wp2_with fail
  refine cL.mono ?_
  rintro r W2 ⟨rfl, hb⟩
  have HP2 := Hid3.mk (HP.out.low hb)
  have cG := p_get HP2.out.m.t id
  rw [HP2.out.t] at cG
  clear cL hb HP
  rcases find_id (s := s) (id := id) with hf | ⟨pre, x, post, hf, k1, k2, k3⟩
  · rw [hf] at cG
    have cG : Calls Tryd.prog 13 #[.pointer (some ⟨T, 0, none⟩), .int .u32 id] W2 fun e w' => e = .returned (.tuple #[.agg #[.int .u32 0, .int .i64 0, .int .i64 0, .int .u8 0, .string ⟨#[]⟩, .int .u8 0], .bool false]) ∧ Below W2.heap.size W2 w' := cG
    clear hf
    go_wp2_with fail
    refine cG.mono ?_
    rintro r W3 ⟨rfl, hb⟩
    have HB := Hid3.mk ((HP2.out.bl.trans (hb.mono HP2.out.bl.size)).alloc (Nat.le_trans HP2.out.bl.size hb.size) (.cells #[.int .u32 0, .int .i64 0, .int .i64 0, .int .u8 0, .string ⟨#[]⟩, .int .u8 0] 36))
    clear cG hb
    go_wp2
    go_ret
    exact ⟨rfl, HB.out⟩
  · rw [hf] at cG
    have cG : Calls Tryd.prog 13 #[.pointer (some ⟨T, 0, none⟩), .int .u32 id] W2 fun e w' => e = .returned (.tuple #[.agg #[.int .u32 x.id, .int .i64 x.st, .int .i64 x.ln, .int .u8 x.ow, .string x.nm, .int .u8 x.rt.toNat], .bool true]) ∧ Below W2.heap.size W2 w' := cG
    clear hf
    go_wp2_with fail
    refine cG.mono ?_
    rintro r W3 ⟨rfl, hb⟩
    have hb2 := below_new W3 (.cells (exCs x).toArray 36)
    have HX := Hid3.mk (Cl.new W3 36 (exCs x))
    have HP4 := Hid3.mk ((HP2.out.low hb).low hb2)
    rw [exs_agg] at HX HP4
    clear cG hb hb2
    by_cases ho : x.ow = env
    · have ho' : ((x.ow : Int) == (env : Int)) = true := by rw [beq_iff_eq]; omega
      have ho2 : (x.ow : Int) = (env : Int) := by omega
      have HO := Hid3.mk ho2
      clear k1 k2 k3 ho ho2
      have HBB := Hid3.mk HP4.out.bl
      go_wp2
      go_ret
      first | exact ⟨rfl, HBB.out⟩ | (rw [HO.out] at HBB; exact ⟨rfl, HBB.out⟩)
    · have ho' : ((x.ow : Int) == (env : Int)) = false := by rw [beq_eq_false_iff_ne]; omega
      have HK : Hid3 (NoX s env id 7) := ⟨.inr ⟨rfl, pre, x, post, k1, k2, k3, ho⟩⟩
      have cS := p_list HP4.out.m.t
      rw [HP4.out.t] at cS
      have hwx : IntKind.i64.wrap ((x.st : Int) + 1) = (x.st : Int) + 1 := by have := x.b; rw [IntKind.wrap_i64]; omega
      have HLE : Hid3 (s.l.length ≤ 1000) := ⟨by have := HP4.out.m.t.ok.len; omega⟩
      clear k1 k2 k3 ho
      go_wp2_with fail
      refine cS.mono ?_
      rintro r W5 ⟨v1, rfl, h1, hb⟩
      have HO5 : Hid3 (Ow w W5 T L s v1 s.l) := ⟨HP4.out.t, HP4.out.m.t.below hb, HP4.out.bl.trans (hb.mono HP4.out.bl.size), XR.of_own h1⟩
      have hX5 := HX.out.below hb
      have x1 := hX5.cell 1
      have hxl := hX5.lt
      simp only [List.getElem?_cons_zero, List.getElem?_cons_succ, exCs] at x1
      have c1 := p_split_no HO5.out.p env id ((x.st : Int) + 1) 7 HK.out
      rw [HO5.out.t] at c1
      clear cS h1 hb hX5 HX HP2
      go_wp2_with fail
      refine c1.mono ?_
      rintro r W6 ⟨rfl, hs⟩
      obtain ⟨L6, h6⟩ := HO5.out.step hs
      have HO6 := Hid3.mk h6
      have c2 := p_merge_no h6.p env id id 7 HK.out
      rw [h6.t] at c2
      clear c1 hs h6 HO5 x1 hxl
      go_wp2_with fail
      refine c2.mono ?_
      rintro r W7 ⟨rfl, hs⟩
      obtain ⟨L7, h7⟩ := HO6.out.step hs
      have HO7 := Hid3.mk h7
      have c3 := p_free_no h7.p env id 7 HK.out
      rw [h7.t] at c3
      clear c2 hs h7 HO6
      go_wp2_with fail
      refine c3.mono ?_
      rintro r W8 ⟨rfl, hs⟩
      obtain ⟨L8, h8⟩ := HO7.out.step hs
      have HO8 := Hid3.mk h8
      have c4 := p_give_no h8.p env id env 7 HK.out
      rw [h8.t] at c4
      clear c3 hs h8 HO7
      go_wp2_with fail
      refine c4.mono ?_
      rintro r W9 ⟨rfl, hs⟩
      obtain ⟨L9, h9⟩ := HO8.out.step hs
      have HO9 := Hid3.mk h9
      have c5 := p_grow_no h9.p env id 1 7 HK.out
      rw [h9.t] at c5
      clear c4 hs h9 HO8
      go_wp2_with fail
      refine c5.mono ?_
      rintro r Wa ⟨rfl, hs⟩
      obtain ⟨La, ha⟩ := HO9.out.step hs
      have HOa := Hid3.mk ha
      have c6 := p_list ha.p
      rw [ha.t] at c6
      clear c5 hs ha HO9
      go_wp2_with fail
      refine c6.mono ?_
      rintro r Wb ⟨v2, rfl, h2, hb⟩
      have HOb := Hid3.mk (HOa.out.low hb)
      have c7 := same_any v2 v1 s.l Wb (XR.of_own h2) HOb.out.r HLE.out
      clear c6 h2 hb HOa
      go_wp2_with fail
      refine c7.mono ?_
      rintro r Wc ⟨rfl, hb⟩
      have HBc := Hid3.mk (HOb.out.bl.trans (hb.mono HOb.out.bl.size))
      clear c7 hb
      go_wp2
      go_ret
      exact ⟨rfl, HBc.out⟩
end Go.Proofs.YtmepnnlmhlndmaaDoor
