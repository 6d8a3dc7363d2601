/- RegOnce: the walk. -/
import Derived.Test.YtboelnkeejmjnaaRgI
import Derived.Test.YtboelnkeejmjnaaLawRgK
namespace Go.Proofs.Ytboelnkeejmjnaa
open Go.RowKit Go.Maps
set_option linter.unusedVariables false
set_option maxRecDepth 100000
/-- The sectors that are held, as if they were frames. -/
def qS (q : St) : St := ⟨fun s => (q.F s).map fun f => (f, false), q.F⟩
theorem qS_some (q : St) (s : Int) : ((qS q).C s).isSome = (q.F s).isSome := by
  unfold qS
  simp
theorem count_eq {q : St} (hq : q.Ok) : (frL (qS q) 64).length = (frL q 64).length := by
  have hg : ∀ f ∈ frL q 64, ∃ s b, q.C f = some (s, b) ∧ 0 ≤ f ∧ f < 64 ∧ 0 ≤ s ∧ s < 64 ∧ q.F s = some f := fun f hf => by
    obtain ⟨i, _, rfl, h3⟩ := (frL_mem q 64 f).1 hf
    cases e : q.C (i : Int) with
    | none => rw [e] at h3; cases h3
    | some c => exact ⟨c.1, c.2, rfl, hq.c _ c.1 c.2 e⟩
  have hp : ((frL q 64).map fun f => ((q.C f).getD (0, false)).1).Perm (frL (qS q) 64) := by
    refine (List.perm_ext_iff_of_nodup ?_ ((frL_lt (qS q) 64).imp (fun h => by omega))).2 fun s => ?_
    · rw [List.Nodup, List.pairwise_map]
      refine List.Pairwise.imp_of_mem ?_ (frL_lt q 64)
      intro x y hx hy hlt e
      obtain ⟨s1, b1, k1, _, _, _, _, f1⟩ := hg x hx
      obtain ⟨s2, b2, k2, _, _, _, _, f2⟩ := hg y hy
      rw [k1, k2] at e
      have e' : s1 = s2 := e
      rw [← e', f1] at f2
      have : x = y := by simpa using f2
      omega
    · rw [List.mem_map, frL_mem]
      constructor
      · rintro ⟨f, hf, rfl⟩
        obtain ⟨s1, b1, k1, _, _, a3, a4, f1⟩ := hg f hf
        rw [k1]
        refine ⟨s1.toNat, by show s1.toNat < 64; omega, by show s1 = _; omega, ?_⟩
        rw [qS_some, show ((s1.toNat : Nat) : Int) = s1 by omega, f1]
        rfl
      · rintro ⟨i, h1, rfl, h3⟩
        rw [qS_some] at h3
        cases e : q.F (i : Int) with
        | none => rw [e] at h3; cases h3
        | some f =>
          obtain ⟨b1, hb⟩ := hq.f i f e
          obtain ⟨a1, a2, _⟩ := hq.c f i b1 hb
          refine ⟨f, (frL_mem q 64 f).2 ⟨f.toNat, by omega, by omega, ?_⟩, by rw [hb]; rfl⟩
          rw [show ((f.toNat : Nat) : Int) = f by omega, hb]
          rfl
  have := hp.length_eq
  rw [List.length_map] at this
  exact this.symm
/-- What is told of the frame at a place of the list. -/
theorem frL_at {q : St} (hq : q.Ok) (N : Nat) (hN : N ≤ 64) (i : Nat) (hi : i < (frL q N).length) : ∃ y s b, (frL q N).getD i 0 = y ∧ ctE q.C y = 0 ∧ ctC q.C y = (s, b) ∧ q.F s = some y ∧ (0 < i → (frL q N).getD (i - 1) 0 < y) := by
  have hm : (frL q N)[i] ∈ frL q N := List.getElem_mem hi
  have hp := frL_lt q N
  obtain ⟨k, hk, ek, hs⟩ := (frL_mem q N _).1 hm
  generalize frL q N = L at *
  cases e : q.C (k : Int) with
  | none => rw [e] at hs; cases hs
  | some c =>
    obtain ⟨a1, a2, _, _, a5⟩ := hq.c k c.1 c.2 e
    have hn : ¬ (64 : Int) ≤ k := by omega
    refine ⟨k, c.1, c.2, by rw [List.getD_eq_getElem?_getD, List.getElem?_eq_getElem hi]; exact ek, by unfold ctE; rw [if_neg hn, e]; rfl, by unfold ctC; rw [if_neg hn, e]; rfl, a5, fun h0 => ?_⟩
    have hlt := List.pairwise_iff_getElem.1 hp (i - 1) i (by omega) hi (by omega)
    rw [List.getD_eq_getElem?_getD, List.getElem?_eq_getElem (by omega : i - 1 < _)]
    show L[i - 1] < _
    rw [ek] at hlt
    exact hlt
theorem below_drewN (w : World) (k : Nat) : Below w.heap.size w (w.drewN k) := ⟨rfl, rfl, rfl, Nat.le_refl _, fun _ _ => rfl⟩
theorem frL_step (q : St) (k : Nat) : (frL q (k + 1)).length = (frL q k).length + (if (q.C (k : Nat)).isSome then 1 else 0) := by
  show (frL q k ++ _).length = _
  rw [List.length_append]
  split <;> rfl
theorem Rd.form {w : World} {base : Nat} {v : Value} {ys : List Int} (h : Rd w base v ys) : ∃ a cap, v = .slice a ys.length cap := by
  rcases h with ⟨rfl, rfl⟩ | ⟨g, cap, rfl, _⟩
  · exact ⟨none, 0, rfl⟩
  · exact ⟨_, _, rfl⟩
theorem Rd.get {w : World} {base : Nat} {a : Option Addr} {n cap : Nat} {ys : List Int} (h : Rd w base (.slice a n cap) ys) (i : Nat) (hi : i < ys.length) : ∃ g, a = some ⟨g, 0, none⟩ ∧ g < w.heap.size ∧ ∀ j, j < ys.length → w.cell? ⟨g, j, none⟩ = some (.int .u8 (ys.getD j 0)) := by
  rcases h with ⟨_, rfl⟩ | ⟨g, cap', e, _, hr⟩
  · exact absurd hi (Nat.not_lt_zero _)
  · injection e with e1 e2 e3
    exact ⟨g, e1, hr.lt, fun j hj => hr.cell j hj⟩
set_option maxHeartbeats 8000000 in
theorem once_law (v : Value) (l : List Dd) (w : World) (hd : Dds w v l) (hok : ∀ d ∈ l, d.Ok) : Calls Try.prog 4 #[v] w fun e w' => e = .returned (.bool true) ∧ Below w.heap.size w w' := by
  have cP := play_any v l w hd hok
  clear hd
  go_enter Try.func4, Try.ntmps4
  go_wp2_with fail
  refine cP.mono ?_
  rintro r W1 ⟨b, rc, rf, rb, rfl, hT, hB⟩
  generalize playQ (l.take 50) q0 = q at *
  have HQ := Hid3.mk hT.ok
  have HK1 : Hid3 (Kp w W1 b rc rf q) := ⟨⟨hT.t, hB⟩⟩
  clear cP hT hB
  go_wp2_with fail
  refine (live_any _).mono ?_
  rintro r W2 ⟨rfl, hB⟩
  have HK2 := Hid3.mk (HK1.out.below hB)
  clear hB HK1
  go_wp2_with fail
  refine (frames_any _ _ _ _ _ _ HK2.out.r HQ.out).mono ?_
  rintro r W3 ⟨vf, rfl, hr, hB⟩
  have HA : Hid3 (∀ i, i < (frL q 64).length → ∃ y s b, (frL q 64).getD i 0 = y ∧ ctE q.C y = 0 ∧ ctC q.C y = (s, b) ∧ q.F s = some y ∧ (0 < i → (frL q 64).getD (i - 1) 0 < y)) := ⟨fun i hi => frL_at HQ.out 64 (Nat.le_refl _) i hi⟩
  have HC : Hid3 ((frL (qS q) 64).length = (frL q 64).length) := ⟨count_eq HQ.out⟩
  have hL := frL_len q 64
  generalize frL q 64 = L at *
  obtain ⟨a0, cap0, rfl⟩ := hr.form
  have HK3 : Hid3 (Kp w W3 b rc rf q ∧ Rd W3 W2.heap.size (.slice a0 L.length cap0) L) := ⟨HK2.out.below hB, hr⟩
  clear hr hB HK2
  generalize W2.heap.size = base at *
  go_wp2_with fail
  go_loopw [8] (fun s8 wr => ∃ i : Nat, i ≤ L.length ∧ s8 = .int .i64 i ∧ Hid3 (Kp w wr b rc rf q ∧ Rd wr base (.slice a0 L.length cap0) L)) (fun s8 _ => L.length - (intOf s8).toNat)
  case atStart => exact ⟨0, by omega, rfl, HK3⟩
  case round =>
    obtain ⟨i, hi, rfl, HK⟩ := hrel
    clear HK3
    by_cases hlt : i < L.length
    · have hltz : (i : Int) < (L.length : Int) := by omega
      obtain ⟨g, ea, hg, hcell⟩ := HK.out.2.get i hlt
      obtain ⟨y, s, bb, e1, e2, e3, e4, e5⟩ := HA.out i hlt
      have c1 := hcell i hlt
      rw [e1] at c1
      have hwi : IntKind.i64.wrap ((i : Int) + 1) = ((i + 1 : Nat) : Int) := by rw [IntKind.wrap_i64]; omega
      have cS := fun W (hW : Kp w W b rc rf q) => sector_any w.heap.size b rc rf q.C q.F y W hW.r
      simp only [e3, show (ctE q.C y == 0) = true by rw [e2]; rfl] at cS
      have cF := fun W (hW : Kp w W b rc rf q) => frame_any w.heap.size b rc rf q.C q.F s W hW.r
      simp only [e4, Option.getD_some, Option.isSome_some] at cF
      have hyy : (y != y) = false := by simp
      subst ea
      have HE1 := Hid3.mk e1
      have HE5 := Hid3.mk e5
      clear e1 e2 e3 e4 e5 hcell
      have HK' := HK
      clear HK
      go_wp2_with fail
      refine (cS _ HK'.out.1).mono ?_
      rintro r W4 ⟨rfl, hB⟩
      have HK4 : Hid3 (Kp w W4 b rc rf q ∧ Rd W4 base (.slice (some ⟨g, 0, none⟩) L.length cap0) L) := ⟨HK'.out.1.below hB, HK'.out.2.below hB⟩
      clear hB HK' c1 hg
      go_wp2_with fail
      refine (cF _ HK4.out.1).mono ?_
      rintro r W5 ⟨rfl, rfl⟩
      clear cS cF
      have HKn : Hid3 (∀ m, Kp w (W5.drewN m) b rc rf q ∧ Rd (W5.drewN m) base (.slice (some ⟨g, 0, none⟩) L.length cap0) L) := ⟨fun m => ⟨HK4.out.1.below (below_drewN W5 m), HK4.out.2.below (below_drewN W5 m)⟩⟩
      obtain ⟨g', eg, hg, hcell⟩ := HK4.out.2.get i hlt
      obtain rfl : g = g' := by injection eg with eg; injection eg
      have c1 : W5.cell? ⟨g, i, none⟩ = some (.int .u8 y) := by rw [← HE1.out]; exact hcell i hlt
      by_cases h0 : 0 < i
      · have h0z : (0 : Int) < (i : Int) := by omega
        have h0d : decide ((0 : Int) < (i : Int)) = true := by simpa using h0z
        obtain ⟨k, hk1, hk2⟩ : ∃ k, k + 1 ≤ i ∧ i ≤ k + 1 := ⟨i - 1, by omega, by omega⟩
        have hwk : IntKind.i64.wrap ((i : Int) - 1) = (k : Int) := by rw [IntKind.wrap_i64]; omega
        have c2 := hcell k (by omega)
        have hlt2 := HE5.out h0
        rw [show i - 1 = k by omega] at hlt2
        generalize L.getD k 0 = y2 at *
        have hkz : (k : Int) < (L.length : Int) := by omega
        have hle : ¬ y ≤ y2 := by omega
        have hled : decide (y ≤ y2) = false := by simpa using hle
        clear hcell HE5 eg HK4
        go_wp2_with fail
        go_quiet (fail)
        go_wp2
        go_roundw
        case rel => exact ⟨i + 1, by omega, by go_num, ⟨HKn.out _⟩⟩
        case measure => simp [intOf]; omega
      · have h0z : ¬ (0 : Int) < (i : Int) := by omega
        have h0d : decide ((0 : Int) < (i : Int)) = false := by simpa using h0z
        clear hcell HE5 eg HK4
        go_wp2_with fail
        go_quiet (fail)
        go_wp2
        go_roundw
        case rel => exact ⟨i + 1, by omega, by go_num, ⟨HKn.out _⟩⟩
        case measure => simp [intOf]; omega
    · have hltz : ¬ (i : Int) < (L.length : Int) := by omega
      have HK5 := Hid3.mk HK.out.1
      clear HK
      go_wp2_with fail
      go_loopw [7, 13] (fun s7 s13 wr => ∃ s : Nat, s ≤ 64 ∧ s13 = .int .i64 s ∧ s7 = .int .i64 (frL (qS q) s).length ∧ Hid3 (Kp w wr b rc rf q)) (fun _ t _ => 64 - (intOf t).toNat)
      case atStart => exact ⟨0, by omega, rfl, rfl, HK5⟩
      case round =>
        obtain ⟨s, hs, rfl, rfl, HK⟩ := hrel
        clear HK5
        by_cases h64 : s < 64
        · have h64z : (s : Int) < 64 := by omega
          have cF := frame_any w.heap.size b rc rf q.C q.F (s : Int) wr HK.out.r
          have hst := frL_step (qS q) s
          have hln := frL_len (qS q) s
          rw [qS_some] at hst
          have hws : IntKind.i64.wrap ((s : Int) + 1) = ((s + 1 : Nat) : Int) := by rw [IntKind.wrap_i64]; omega
          generalize (q.F (s : Int)).getD 0 = z at *
          obtain ⟨n, hn1⟩ : ∃ n, (frL (qS q) s).length = n := ⟨_, rfl⟩
          obtain ⟨n', hn2⟩ : ∃ n', (frL (qS q) (s + 1)).length = n' := ⟨_, rfl⟩
          rw [hn1, hn2] at hst
          rw [hn1] at hln
          have HN2 := Hid3.mk hn2
          rw [hn1]
          cases hz : (q.F (s : Int)).isSome with
          | true =>
            rw [hz] at hst cF
            have hwn : IntKind.i64.wrap ((n : Int) + 1) = (n' : Int) := by rw [IntKind.wrap_i64]; simp at hst; omega
            clear hst hn1 hn2 hz
            go_wp2_with fail
            refine cF.mono ?_
            rintro r W6 ⟨rfl, rfl⟩
            clear cF
            go_wp2
            go_roundw
            case rel => exact ⟨s + 1, by omega, by go_num, by rw [HN2.out], HK⟩
            case measure => simp [intOf]; omega
          | false =>
            rw [hz] at hst cF
            have hnn : n' = n := by simp at hst; omega
            have HN3 : Hid3 ((frL (qS q) (s + 1)).length = n) := ⟨by rw [HN2.out, hnn]⟩
            clear hst hn1 hn2 hz hnn HN2
            go_wp2_with fail
            refine cF.mono ?_
            rintro r W6 ⟨rfl, rfl⟩
            clear cF
            go_wp2
            go_roundw
            case rel => exact ⟨s + 1, by omega, by go_num, by rw [HN3.out], HK⟩
            case measure => simp [intOf]; omega
        · obtain rfl : s = 64 := by omega
          rw [HC.out]
          go_wp2
          go_ret
          exact ⟨rfl, HK.out.bl⟩
end Go.Proofs.Ytboelnkeejmjnaa
