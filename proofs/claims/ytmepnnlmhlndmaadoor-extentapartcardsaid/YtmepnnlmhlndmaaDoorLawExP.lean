/- ExtentApart: the walk. -/
import Derived.Test.YtmepnnlmhlndmaaDoorEzP
import Derived.Test.YtmepnnlmhlndmaaDoorEzQ
namespace Go.Proofs.YtmepnnlmhlndmaaDoor
open Go.RowKit Go.Maps
set_option linter.unusedVariables false
set_option maxRecDepth 100000
theorem findx_id {s : Xt} (ok : s.Ok) {m : Nat} (h : m < s.l.length) : s.l.find? (isId s.l[m].id) = some s.l[m] := by
  cases hf : s.l.find? (isId s.l[m].id) with
  | none =>
    have := List.find?_eq_none.1 hf _ (List.getElem_mem h)
    unfold isId at this
    simp at this
  | some y =>
    have h1 := List.find?_some hf
    obtain ⟨k, hk, rfl⟩ := List.getElem_of_mem (List.mem_of_find?_eq_some hf)
    have h2 : s.l[k].id = s.l[m].id := of_decide_eq_true h1
    have hp := List.pairwise_map.1 ok.ids
    rcases Nat.lt_trichotomy k m with q | q | q
    · exact absurd h2 ((List.pairwise_iff_getElem.1 hp) k m hk h q)
    · subst q
      rfl
    · exact absurd h2.symm ((List.pairwise_iff_getElem.1 hp) m k h hk q)
theorem end_at {s : Xt} (ok : s.Ok) {m : Nat} (h : m < s.l.length) : endL (s.l.take m) ≤ s.l[m].st := by
  cases m with
  | zero => rw [List.take_zero, endL_nil]; omega
  | succ k =>
    rw [List.take_succ_eq_append_getElem (by omega), endL_snoc]
    exact (List.pairwise_iff_getElem.1 ok.srt) k (k + 1) (by omega) h (by omega)
theorem lnS_take (l : List Ex) (m : Nat) : lnS (l.take m) ≤ lnS l := by
  have := lnS_app (l.take m) (l.drop m)
  rw [List.take_append_drop] at this
  omega
set_option maxHeartbeats 4000000 in
theorem apart_law (v : Value) (l : List Dd) (w : World) (hd : Dds w v l) (hn : NTabs w) : Calls Tryd.prog 4 #[v] w fun r w' => r = .returned (.bool true) ∧ Below w.heap.size w w' := by
  have cP := play_any v l w hd hn
  obtain ⟨ad, cap, rfl, _⟩ := id hd
  have eG := eqGuardE
  clear hd hn
  go_enter Tryd.func4, Tryd.ntmps4
  go_wp2_with fail
  refine cP.mono ?_
  rintro r W1 ⟨T, b, L, s, rfl, hP⟩
  have HP := Hid3.mk hP
  have cL := live_any W1
  clear cP hP
  go_wp2_with fail
  refine cL.mono ?_
  rintro r W2 ⟨rfl, hb⟩
  have HP2 := Hid3.mk (HP.out.low hb)
  have cS := p_list HP2.out.m.t
  rw [HP2.out.t] at cS
  clear cL hb HP
  go_wp2_with fail
  refine cS.mono ?_
  rintro r W3 ⟨v1, rfl, h1, hb⟩
  have HP3 := Hid3.mk (HP2.out.low hb)
  obtain ⟨a1, cap1, rfl, hc⟩ := (XR.of_own h1).cells
  have HC := Hid3.mk hc
  have HOK := Hid3.mk HP3.out.m.t.ok
  have HN : Hid3 (s.N = 20) := ⟨HP3.out.n⟩
  obtain ⟨n, hln⟩ : ∃ n, s.l.length = n := ⟨_, rfl⟩
  have HL := Hid3.mk hln
  have hn24 : n ≤ 24 := by rw [← hln]; exact HOK.out.len
  rw [hln]
  clear cS h1 hc hb hln HP2
  go_wp2_with fail
  go_loopw [7, 8, 9] (fun se sa si W => ∃ (m : Nat) (e a : Int), m ≤ n ∧ si = .int .i64 m ∧ se = .int .i64 e ∧ sa = .int .i64 a ∧ Hid3 (e = (endL (s.l.take m) : Nat)) ∧ Hid3 (a = (lnS (s.l.take m) : Nat)) ∧ Hid3 (Below W3.heap.size W3 W)) (fun _ _ si _ => n - (intOf si).toNat)
  case atStart => exact ⟨0, 0, 0, Nat.zero_le _, rfl, rfl, rfl, ⟨rfl⟩, ⟨rfl⟩, ⟨Below.refl _ _⟩⟩
  case round =>
    obtain ⟨m, e, a, hm, rfl, rfl, rfl, HE, HA, HB⟩ := hrel
    have HP4 := Hid3.mk (HP3.out.low HB.out)
    by_cases hmn : m < n
    · have hmz : (m : Int) < (n : Int) := by omega
      have hml : m < s.l.length := by rw [HL.out]; exact hmn
      obtain ⟨g, rfl, hE0⟩ := HC.out m s.l[m] (List.getElem?_eq_getElem hml)
      have hE := hE0.low HB.out
      have hend := end_at HOK.out hml
      have hlx := HOK.out.ln _ (List.getElem_mem hml)
      have hs1 := lnS_take s.l (m + 1)
      have hs2 := HOK.out.sum
      have hN := HN.out
      have he := HE.out
      have ha := HA.out
      have htk : s.l.take (m + 1) = s.l.take m ++ [s.l[m]] := List.take_succ_eq_append_getElem hml
      have hA2 : lnS (s.l.take (m + 1)) = lnS (s.l.take m) + s.l[m].ln := by rw [htk]; exact lnS_snoc _ _
      have HE2 : Hid3 ((endL (s.l.take (m + 1)) : Int) = ((s.l[m].st + s.l[m].ln : Nat) : Int)) := ⟨by rw [htk, endL_snoc]⟩
      have HA2 : Hid3 ((lnS (s.l.take (m + 1)) : Int) = a + s.l[m].ln) := ⟨by omega⟩
      have hf := findx_id HOK.out hml
      generalize hx : s.l[m] = x at *
      obtain ⟨st, hst⟩ : ∃ st : Int, (x.st : Int) = st := ⟨_, rfl⟩
      obtain ⟨ln, hln⟩ : ∃ ln : Int, (x.ln : Int) = ln := ⟨_, rfl⟩
      obtain ⟨R, hR⟩ : ∃ R : Int, 20 - st = R := ⟨_, rfl⟩
      obtain ⟨S, hS⟩ : ∃ S : Int, st + ln = S := ⟨_, rfl⟩
      obtain ⟨A, hA3⟩ : ∃ A : Int, a + ln = A := ⟨_, rfl⟩
      have HS : Hid3 (((x.st + x.ln : Nat) : Int) = S) := ⟨by omega⟩
      have HAA : Hid3 (a + (x.ln : Int) = A) := ⟨by omega⟩
      have HLN := Hid3.mk hln
      have hst2 := Hid3.mk hst
      have hw1 : IntKind.i64.wrap (st + ln) = S := by rw [IntKind.wrap_i64]; omega
      have hw2 : IntKind.i64.wrap (20 - st) = R := by rw [IntKind.wrap_i64]; omega
      have hw3 : IntKind.i64.wrap (a + ln) = A := by rw [IntKind.wrap_i64]; omega
      have d1 : decide (st < e) = false := decide_eq_false (by omega)
      have d2 : decide (ln < 1) = false := decide_eq_false (by omega)
      have d3 : decide (R < ln) = false := decide_eq_false (by omega)
      have e0 := hE.e0
      have e1 := hE.e1
      have e2 := hE.e2
      have e3 := hE.e3
      have e4 := hE.e4
      have e5 := hE.e5
      have hg := hE.l
      have HX := Hid3.mk hE
      have HF := Hid3.mk hf
      rw [hst] at e1
      rw [hln] at e2
      clear hE hE0 hend hlx hs1 hs2 hN he ha htk hA2 hx hf hst hln hR hS hA3
      go_wp2_with fail
      go_quiet (fail)
      have HX2 := Hid3.mk (HX.out.low (belowN5 (Below.refl _ _) nq))
      have HP5 := Hid3.mk (HP4.out.low (belowN5 (Below.refl _ _) nq))
      have HB2 := Hid3.mk (belowN5 HB.out nq)
      clear e0 e1 e2 e3 e4 e5 hg HX HP4 HB
      generalize wr.drewN nq = V at *
      have e1 := HX2.out.e1
      have e2 := HX2.out.e2
      have hg := HX2.out.l
      rw [hst2.out] at e1
      rw [HLN.out] at e2
      go_wp2_with fail
      go_quiet (fail)
      have HX3 := Hid3.mk (HX2.out.low (belowN5 (Below.refl _ _) nq))
      have HP6 := Hid3.mk (HP5.out.low (belowN5 (Below.refl _ _) nq))
      have HB3 := Hid3.mk (belowN5 HB2.out nq)
      clear e1 e2 hg HX2 HP5 HB2
      generalize V.drewN nq = V2 at *
      have e0 := HX3.out.e0
      have e2 := HX3.out.e2
      have hg := HX3.out.l
      rw [HLN.out] at e2
      have cG := p_get HP6.out.m.t x.id
      rw [HF.out, HP6.out.t] at cG
      have cG : Calls Tryd.prog 13 #[.pointer (some ⟨T, 0, none⟩), .int .u32 x.id] V2 fun e w' => e = .returned (.tuple #[.agg #[.int .u32 x.id, .int .i64 x.st, .int .i64 x.ln, .int .u8 x.ow, .string x.nm, .int .u8 x.rt.toNat], .bool true]) ∧ Below V2.heap.size V2 w' := cG
      go_wp2_with fail
      refine cG.mono ?_
      rintro e W4 ⟨rfl, hb⟩
      have HX4 := Hid3.mk (HX3.out.low hb)
      have HB4 := Hid3.mk (HB3.out.trans (hb.mono HB3.out.size))
      have hb2 := below_new W4 (.cells (exCs x).toArray 36)
      have HY := Hid3.mk (Cl.new W4 36 (exCs x))
      have HB5 := Hid3.mk (HB4.out.alloc HB4.out.size (.cells (exCs x).toArray 36))
      rw [exs_agg] at HY HB5
      have eM := fun W => eqE W x.id x.st x.ln x.ow x.nm x.rt.toNat
      have f0 := HX4.out.e0
      have f1 := HX4.out.e1
      have f2 := HX4.out.e2
      have f3 := HX4.out.e3
      have f4 := HX4.out.e4
      have f5 := HX4.out.e5
      have hg := HX4.out.l
      clear cG hb hb2 e0 e2 HX3 HP6 HB3
      go_wp2_with fail
      go_quiet (fail)
      have HB6 := Hid3.mk (belowN5 HB5.out nq)
      clear f0 f1 f2 f3 f4 f5 hg HB5 HX4 HY eM
      go_wp2
      go_roundw
      case rel => exact ⟨m + 1, S, A, by omega, by go_num, rfl, rfl, ⟨by rw [HE2.out]; exact HS.out.symm⟩, ⟨by rw [HA2.out]; exact HAA.out.symm⟩, HB6⟩
      case measure => simp [intOf]; omega
    · have hmz : ¬ (m : Int) < (n : Int) := by omega
      have htk : s.l.take m = s.l := List.take_of_length_le (by rw [HL.out]; omega)
      have ha := HA.out
      rw [htk] at ha
      have cL := p_left HP4.out.m.t
      rw [HP4.out.t, HN.out] at cL
      obtain ⟨R, hR⟩ : ∃ R : Int, ((20 : Nat) : Int) - (lnS s.l : Int) = R := ⟨_, rfl⟩
      rw [hR] at cL
      have hs2 := HOK.out.sum
      have hN := HN.out
      have hw : IntKind.i64.wrap (a + R) = 20 := by rw [IntKind.wrap_i64]; omega
      have hn24z : (n : Int) ≤ 24 := by omega
      clear ha htk hR hs2 hN
      go_wp2_with fail
      refine cL.mono ?_
      rintro e W4 ⟨rfl, hb⟩
      have HB4 := Hid3.mk ((HP4.out.low hb).bl)
      clear cL hb HP4
      go_wp2
      go_ret
      exact ⟨rfl, HB4.out⟩
end Go.Proofs.YtmepnnlmhlndmaaDoor
