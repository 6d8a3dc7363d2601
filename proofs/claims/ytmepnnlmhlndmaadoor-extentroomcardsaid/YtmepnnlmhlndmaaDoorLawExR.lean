/- ExtentRoom: the walk. -/
import Derived.Test.YtmepnnlmhlndmaaDoorEzP
import Derived.Test.YtmepnnlmhlndmaaDoorEzQ
namespace Go.Proofs.YtmepnnlmhlndmaaDoor
open Go.RowKit Go.Maps
set_option linter.unusedVariables false
set_option maxRecDepth 100000
/-- Free are they just where nobody has one of them. -/
theorem win_iff {l : List Ex} (hl : ∀ x ∈ l, 1 ≤ x.ln) (st n : Int) (hn : 1 ≤ n) : freeX l st n ↔ ∀ j : Int, st ≤ j → j < st + n → l.find? (hasS j) = none := by
  constructor
  · intro h j h1 h2
    rw [List.find?_eq_none]
    intro x hx hs
    unfold hasS at hs
    rw [Bool.and_eq_true, decide_eq_true_iff, decide_eq_true_iff] at hs
    rcases h x hx with k | k <;> omega
  · intro h x hx
    have hxl := hl x hx
    by_cases k : st + n ≤ (x.st : Int) ∨ ((x.st + x.ln : Nat) : Int) ≤ st
    · exact k
    · exfalso
      by_cases q : st ≤ (x.st : Int)
      · have := List.find?_eq_none.1 (h x.st q (by omega)) x hx
        unfold hasS at this
        rw [Bool.and_eq_true, decide_eq_true_iff, decide_eq_true_iff] at this
        omega
      · have := List.find?_eq_none.1 (h st (Int.le_refl _) (by omega)) x hx
        unfold hasS at this
        rw [Bool.and_eq_true, decide_eq_true_iff, decide_eq_true_iff] at this
        omega
/-- Behind so many sectors: how many are free at the end, and that there were none yet. -/
structure Wi (s : Xt) (n i f : Int) : Prop where
  f0 : 0 ≤ f
  fi : f ≤ i
  fn : f < n
  fr : ∀ j, i - f ≤ j → j < i → s.l.find? (hasS j) = none
  tk : f = i ∨ s.l.find? (hasS (i - f - 1)) ≠ none
  no : ∀ st, 0 ≤ st → st + n ≤ i → ¬ freeX s.l st n
theorem Wi.start (s : Xt) {n : Int} (hn : 1 ≤ n) : Wi s n 0 0 := ⟨Int.le_refl _, Int.le_refl _, by omega, fun j h1 h2 => by omega, .inl rfl, fun st h1 h2 => by omega⟩
theorem Wi.taken {s : Xt} (ok : s.Ok) {n i f : Int} (h : Wi s n i f) (hn : 1 ≤ n) {x : Ex} (hx : s.l.find? (hasS i) = some x) : Wi s n (i + 1) 0 := by
  refine ⟨Int.le_refl _, by have := h.f0; have := h.fi; omega, by omega, fun j h1 h2 => by omega, .inr (by rw [show i + 1 - 0 - 1 = i by omega, hx]; simp), fun st h1 h2 hf => ?_⟩
  by_cases hq : st + n ≤ i
  · exact h.no st h1 hq hf
  · have := (win_iff (fun x hx => (ok.ln x hx).1) st n hn).1 hf i (by omega) (by omega)
    rw [hx] at this
    cases this
theorem Wi.more {s : Xt} (ok : s.Ok) {n i f : Int} (h : Wi s n i f) (hn : 1 ≤ n) (hx : s.l.find? (hasS i) = none) (hne : f + 1 ≠ n) : Wi s n (i + 1) (f + 1) := by
  have h0 := h.f0
  have h1 := h.fi
  have h2 := h.fn
  refine ⟨by omega, by omega, by omega, fun j k1 k2 => ?_, ?_, fun st k1 k2 hf => ?_⟩
  · by_cases hj : j = i
    · rw [hj]; exact hx
    · exact h.fr j (by omega) (by omega)
  · rcases h.tk with e | e
    · exact .inl (by omega)
    · exact .inr (by rw [show i + 1 - (f + 1) - 1 = i - f - 1 by omega]; exact e)
  · by_cases hq : st + n ≤ i
    · exact h.no st k1 hq hf
    · rcases h.tk with e | e
      · omega
      · exact e ((win_iff (fun x hx => (ok.ln x hx).1) st n hn).1 hf _ (by omega) (by omega))
theorem Wi.full {s : Xt} (ok : s.Ok) {n i f : Int} (h : Wi s n i f) (hn : 1 ≤ n) (hx : s.l.find? (hasS i) = none) (he : f + 1 = n) (hi : i + 1 ≤ (s.N : Int)) : freeX s.l (i - n + 1) n ∧ RoomX s n (i - n + 1) 0 := by
  have h0 := h.f0
  have h1 := h.fi
  have hf : freeX s.l (i - n + 1) n := (win_iff (fun x hx => (ok.ln x hx).1) _ n hn).2 (fun j k1 k2 => by
    by_cases hj : j = i
    · rw [hj]; exact hx
    · exact h.fr j (by omega) (by omega))
  exact ⟨hf, .inl ⟨rfl, by omega, hf, by omega, fun st k1 k2 k3 => h.no st k1 (by omega)⟩⟩
theorem Wi.fin {s : Xt} {n f : Int} (h : Wi s n (s.N : Int) f) : RoomX s n 0 4 := .inr ⟨rfl, rfl, fun i h1 h2 => h.no i h1 h2⟩
theorem slash_ok : rightB (⟨#[47]⟩ : ByteArray).data.toList (0#8).toNat = true := by decide
set_option maxHeartbeats 8000000 in
theorem room_law (v : Value) (l : List Dd) (pt : Nat) (w : World) (hd : Dds w v l) (hpt : pt ≤ 255) (hn : NTabs w) : Calls Tryd.prog 7 #[v, .int .u8 pt] w fun r w' => r = .returned (.bool true) ∧ Below w.heap.size w w' := by
  have cP := play_any v l w hd hn
  obtain ⟨ad, cap, rfl, _⟩ := id hd
  obtain ⟨p, hp⟩ : ∃ p : Int, (pt : Int) = p := ⟨_, rfl⟩
  obtain ⟨n, hn2⟩ : ∃ n : Nat, pt % 20 + 1 = n := ⟨_, rfl⟩
  obtain ⟨N, hN⟩ : ∃ N : Int, (n : Int) = N := ⟨_, rfl⟩
  obtain ⟨m, hm⟩ : ∃ m : Int, ((pt % 20 : Nat) : Int) = m := ⟨_, rfl⟩
  have hlt : pt % 20 < 20 := Nat.mod_lt _ (by decide)
  have hwp : IntKind.i64.wrap p = p := by rw [IntKind.wrap_i64]; omega
  have hrm : p.tmod 20 = m := by
    rw [← hp, ← hm]
    exact Int.tmod_eq_emod_of_nonneg (by omega)
  have hw1 : IntKind.i64.wrap m = m := by rw [IntKind.wrap_i64]; omega
  have hw2 : IntKind.i64.wrap (m + 1) = N := by rw [IntKind.wrap_i64]; omega
  have HNN : Hid3 ((n : Int) = N ∧ 1 ≤ N ∧ N ≤ 20) := ⟨⟨hN, by omega, by omega⟩⟩
  rw [hp]
  clear hd hn hp hpt hn2 hN hm hlt
  go_enter Tryd.func7, Tryd.ntmps7
  go_wp2_with fail
  refine cP.mono ?_
  rintro r W1 ⟨T, b, L, s, rfl, hP⟩
  have HP := Hid3.mk hP
  have cL := live_any W1
  clear cP hP
  go_wp2_with fail
  refine cL.mono ?_
  rintro r W2 ⟨rfl, hb⟩
  have HP2 := Hid3.mk (HP.out.low hb)
  have cR := p_room HP2.out.m.t N
  rw [HP2.out.t] at cR
  clear cL hb HP
  go_wp2_with fail
  refine cR.mono ?_
  rintro r W3 ⟨r, c, rfl, hr, hb⟩
  have HR : Hid3 (RoomX s N r c) := ⟨by
    rcases hr with ⟨h, _⟩ | ⟨_, h⟩
    · have := HNN.out; omega
    · exact h⟩
  have HP3 := Hid3.mk (HP2.out.low hb)
  clear cR hr hb HP2 hwp hrm hw1 hw2
  go_wp2_with fail
  go_loopw [11, 12] (fun sf si W => ∃ (i : Nat) (f : Int), i ≤ 20 ∧ si = .int .i64 i ∧ sf = .int .i64 f ∧ Hid3 (Wi s N i f) ∧ Hid3 (Below W3.heap.size W3 W)) (fun _ si _ => 20 - (intOf si).toNat)
  case atStart => exact ⟨0, 0, by omega, rfl, rfl, ⟨Wi.start s HNN.out.2.1⟩, ⟨Below.refl _ _⟩⟩
  case round =>
    obtain ⟨i, f, hi, rfl, rfl, HW, HB⟩ := hrel
    have HP4 := Hid3.mk (HP3.out.low HB.out)
    by_cases hi20 : i < 20
    · have hiz : (i : Int) < 20 := by omega
      have cA := p_at HP4.out.m.t (i : Int)
      rw [HP4.out.t] at cA
      cases hfi : s.l.find? (hasS (i : Int)) with
      | some x =>
        rw [hfi] at cA
        have cA : Calls Tryd.prog 22 #[.pointer (some ⟨T, 0, none⟩), .int .i64 (i : Int)] wr fun e w' => e = .returned (.tuple #[.agg #[.int .u32 x.id, .int .i64 x.st, .int .i64 x.ln, .int .u8 x.ow, .string x.nm, .int .u8 x.rt.toNat], .bool true]) ∧ Below wr.heap.size wr w' := cA
        have HW2 := Hid3.mk (HW.out.taken HP4.out.m.t.ok HNN.out.2.1 hfi)
        clear hfi HW
        go_wp2_with fail
        refine cA.mono ?_
        rintro e W4 ⟨rfl, hb⟩
        have HB2 := Hid3.mk ((HB.out.trans (hb.mono HB.out.size)).alloc (Nat.le_trans HB.out.size hb.size) (.cells #[.int .u32 x.id, .int .i64 x.st, .int .i64 x.ln, .int .u8 x.ow, .string x.nm, .int .u8 x.rt.toNat] 36))
        clear cA hb HB HP4
        go_wp2
        go_roundw
        case rel => exact ⟨i + 1, 0, by omega, by go_num, rfl, by have := HW2; push_cast; exact this, HB2⟩
        case measure => simp [intOf]; omega
      | none =>
        rw [hfi] at cA
        have cA : Calls Tryd.prog 22 #[.pointer (some ⟨T, 0, none⟩), .int .i64 (i : Int)] wr fun e w' => e = .returned (.tuple #[.agg #[.int .u32 0, .int .i64 0, .int .i64 0, .int .u8 0, .string ⟨#[]⟩, .int .u8 0], .bool false]) ∧ Below wr.heap.size wr w' := cA
        obtain ⟨F, hF⟩ : ∃ F : Int, f + 1 = F := ⟨_, rfl⟩
        have hwf : IntKind.i64.wrap (f + 1) = F := by
          have := HW.out.f0; have := HW.out.fn; have := HNN.out
          rw [IntKind.wrap_i64]; omega
        by_cases hfn : F = N
        · have hFull := HW.out.full HP4.out.m.t.ok HNN.out.2.1 hfi (hF.trans hfn) (by have := HP4.out.n; omega)
          obtain ⟨e1, e2⟩ := HR.out.uniq hFull.2
          subst e2
          obtain ⟨k, hk⟩ : ∃ k : Int, (i : Int) - N = k := ⟨_, rfl⟩
          have hNN := HNN.out
          have hN20 := HP4.out.n
          have hw3 : IntKind.i64.wrap ((i : Int) - N) = k := by rw [IntKind.wrap_i64]; omega
          have hw4 : IntKind.i64.wrap (k + 1) = r := by rw [IntKind.wrap_i64]; omega
          have hr0 : 0 ≤ r := by have := HW.out.fi; have := HW.out.f0; omega
          have hrr : ((r.toNat : Nat) : Int) = r := by omega
          have hfree : freeX s.l (r.toNat : Int) (n : Int) := by rw [hrr, hNN.1, e1]; exact hFull.1
          have hrn : r.toNat + n ≤ s.N := by omega
          have z1 : (r != r) = false := by simp
          subst hfn
          clear hFull hF hfi HW e1 hk HR
          go_wp2_with fail
          refine cA.mono ?_
          rintro e W4 ⟨rfl, hb⟩
          have hb2 := below_new W4 (.cells #[.int .u32 0, .int .i64 0, .int .i64 0, .int .u8 0, .string ⟨#[]⟩, .int .u8 0] 36)
          have HP5 := Hid3.mk ((HP4.out.low hb).low hb2)
          by_cases hfull : 24 ≤ s.l.length
          · have cT := p_alloc_full HP5.out.m.t 3 r.toNat n ⟨#[47]⟩ 0#8 (by decide) (by omega) hrn (by decide) slash_ok hfree hfull
            rw [HP5.out.t, hrr, hNN.1] at cT
            have cT : Calls Tryd.prog 23 #[.pointer (some ⟨T, 0, none⟩), .int .u8 3, .int .i64 r, .int .i64 F, .agg #[.string ⟨#[47]⟩, .int .u8 0]] (W4.alloc (.cells #[.int .u32 0, .int .i64 0, .int .i64 0, .int .u8 0, .string ⟨#[]⟩, .int .u8 0] 36)) fun e w' => e = .returned (.tuple #[.int .u32 0, .int .i64 4]) ∧ TStp w.heap.size (W4.alloc (.cells #[.int .u32 0, .int .i64 0, .int .i64 0, .int .u8 0, .string ⟨#[]⟩, .int .u8 0] 36)) w' L s := cT
            have hl24 : s.l.length = 24 := by have := HP5.out.m.t.ok.len; omega
            clear cA hb hb2 HP4 hfree hrn hrr hr0 hNN hN20 hfull
            go_wp2_with fail
            refine cT.mono ?_
            rintro e W5 ⟨rfl, hs⟩
            obtain ⟨L', e', hP6, _⟩ := hs.out
            have HB6 : Hid3 (Below w.heap.size w W5) := ⟨HP5.out.bl.trans (hs.low HP5.out.m.t HP5.out.bl.size)⟩
            have cI := p_list hP6
            rw [e', HP5.out.t] at cI
            clear cT hs hP6
            go_wp2_with fail
            refine cI.mono ?_
            rintro e W6 ⟨v2, rfl, h2, hb⟩
            obtain ⟨a1, cap1, hv, _⟩ := (XR.of_own h2).cells
            subst hv
            have HB7 : Hid3 (Below w.heap.size w W6) := ⟨HB6.out.trans (hb.mono HB6.out.size)⟩
            clear cI h2 hb
            go_wp2
            go_ret
            exact ⟨rfl, HB7.out⟩
          · obtain ⟨pre, post, hc⟩ := cut_x HP5.out.m.t.ok r.toNat n (by omega) hfree
            have hx : r.toNat + n ≤ 1000 := by omega
            have cT := p_alloc HP5.out.m.t HP5.out.bl.size 3 r.toNat n ⟨#[47]⟩ 0#8 (by decide) (by omega) hrn (by decide) slash_ok hfree (by omega) (by have := HP5.out.la; omega) pre post hc hx
            obtain ⟨s1, hs1⟩ : ∃ s1 : Xt, (⟨s.N, pre ++ (nEx 3 r.toNat n ⟨#[47]⟩ 0#8 hx).num (s.last + 1) :: post, s.last + 1⟩ : Xt) = s1 := ⟨_, rfl⟩
            obtain ⟨n1, hn1⟩ : ∃ n1 : Int, ((s.last + 1 : Nat) : Int) = n1 := ⟨_, rfl⟩
            rw [hs1, HP5.out.t, hrr, hNN.1, hn1] at cT
            have cT : Calls Tryd.prog 23 #[.pointer (some ⟨T, 0, none⟩), .int .u8 3, .int .i64 r, .int .i64 F, .agg #[.string ⟨#[47]⟩, .int .u8 0]] (W4.alloc (.cells #[.int .u32 0, .int .i64 0, .int .i64 0, .int .u8 0, .string ⟨#[]⟩, .int .u8 0] 36)) fun e w' => e = .returned (.tuple #[.int .u32 n1, .int .i64 0]) ∧ TStp w.heap.size (W4.alloc (.cells #[.int .u32 0, .int .i64 0, .int .i64 0, .int .u8 0, .string ⟨#[]⟩, .int .u8 0] 36)) w' L s1 := cT
            have d1 : decide (0 < n1) = true := decide_eq_true (by omega)
            clear cA hb hb2 HP4 hfree hrn hrr hr0 hNN hN20 hfull hc hs1 hn1
            go_wp2_with fail
            refine cT.mono ?_
            rintro e W5 ⟨rfl, hs⟩
            have HB6 : Hid3 (Below w.heap.size w W5) := ⟨HP5.out.bl.trans (hs.low HP5.out.m.t HP5.out.bl.size)⟩
            clear cT hs
            go_wp2
            go_ret
            exact ⟨rfl, HB6.out⟩
        · have HW2 := Hid3.mk (HW.out.more HP4.out.m.t.ok HNN.out.2.1 hfi (by omega))
          rw [hF] at HW2
          have hd : (F == N) = false := by rw [beq_eq_false_iff_ne]; exact hfn
          clear hfi HW hF
          go_wp2_with fail
          refine cA.mono ?_
          rintro e W4 ⟨rfl, hb⟩
          have HB2 := Hid3.mk ((HB.out.trans (hb.mono HB.out.size)).alloc (Nat.le_trans HB.out.size hb.size) (.cells #[.int .u32 0, .int .i64 0, .int .i64 0, .int .u8 0, .string ⟨#[]⟩, .int .u8 0] 36))
          clear cA hb HB HP4
          go_wp2
          go_roundw
          case rel => exact ⟨i + 1, F, by omega, by go_num, rfl, by have := HW2; push_cast; exact this, HB2⟩
          case measure => simp [intOf]; omega
    · have hiz : ¬ (i : Int) < 20 := by omega
      have hq : RoomX s N 0 4 := by
        have hNN := HP3.out.n
        have : (i : Int) = (s.N : Int) := by omega
        have h := HW.out
        rw [this] at h
        exact h.fin
      obtain ⟨e1, e2⟩ := HR.out.uniq hq
      subst e1
      subst e2
      clear hq
      go_wp2
      go_ret
      exact ⟨rfl, HP4.out.bl⟩
end Go.Proofs.YtmepnnlmhlndmaaDoor
