/- The document's Sector, Written, Frames; both lists of frames are one. -/
import Derived.Test.YtboelnkeejmjnaaRgG
import Derived.Test.YtboelnkeejmjnaaRgS
import Derived.Test.YtboelnkeejmjnaaRgY
namespace Go.Proofs.Ytboelnkeejmjnaa
open Go.RowKit Go.Maps
set_option linter.unusedVariables false
set_option maxRecDepth 100000
/-- The frames below k that hold one. -/
def frL (q : St) : Nat → List Int
  | 0 => []
  | k + 1 => frL q k ++ (if (q.C (k : Nat)).isSome then [(k : Int)] else [])
theorem frL_mem (q : St) : ∀ (k : Nat) (f : Int), f ∈ frL q k ↔ ∃ i : Nat, i < k ∧ f = i ∧ (q.C i).isSome = true
  | 0, f => by simp [frL]
  | k + 1, f => by
    unfold frL
    rw [List.mem_append, frL_mem q k f]
    constructor
    · rintro (⟨i, h1, h2, h3⟩ | h)
      · exact ⟨i, by omega, h2, h3⟩
      · split at h
        · rename_i hs
          exact ⟨k, by omega, by simpa using h, hs⟩
        · cases h
    · rintro ⟨i, h1, rfl, h3⟩
      by_cases e : i = k
      · subst e
        right
        rw [if_pos h3]
        simp
      · exact .inl ⟨i, by omega, rfl, h3⟩
theorem frL_lt (q : St) : ∀ k : Nat, (frL q k).Pairwise (· < ·)
  | 0 => List.Pairwise.nil
  | k + 1 => by
    unfold frL
    rw [List.pairwise_append]
    refine ⟨frL_lt q k, by split <;> simp, fun x hx y hy => ?_⟩
    obtain ⟨i, h1, h2, _⟩ := (frL_mem q k x).1 hx
    split at hy
    · have : y = (k : Int) := by simpa using hy
      omega
    · cases hy
theorem frL_len (q : St) : ∀ k : Nat, (frL q k).length ≤ k
  | 0 => Nat.le_refl _
  | k + 1 => by
    have := frL_len q k
    unfold frL
    rw [List.length_append]
    split <;> simp <;> omega
theorem frL_eq {q : St} (hq : q.Ok) {ys : List Int} (h1 : ∀ f, f ∈ ys ↔ (q.C f).isSome = true) (h2 : ys.Nodup) (h3 : ys.Pairwise (· ≤ ·)) : ys = frL q 64 := by
  have hp : ys.Perm (frL q 64) := (List.perm_ext_iff_of_nodup h2 ((frL_lt q 64).imp (fun h => by omega))).2 fun f => by
    rw [h1, frL_mem]
    constructor
    · intro h
      cases e : q.C f with
      | none => rw [e] at h; cases h
      | some c =>
        obtain ⟨a1, a2, _⟩ := hq.c f c.1 c.2 e
        refine ⟨f.toNat, by omega, by omega, ?_⟩
        rw [show ((f.toNat : Nat) : Int) = f by omega, e]
        rfl
    · rintro ⟨i, _, rfl, h⟩
      exact h
  exact hp.eq_of_pairwise (fun a b _ _ x y => by omega) h3 ((frL_lt q 64).imp (fun h => by omega))
theorem frames_any (B b rc rf : Nat) (q : St) (w : World) (h : RgS B w b rc rf q) (hq : q.Ok) : Calls Try.prog 10 #[.pointer (some ⟨b, 0, none⟩)] w fun r w' => ∃ v, r = .returned v ∧ Rd w' w.heap.size v (frL q 64) ∧ Below w.heap.size w w' := by
  refine (frames_of B b rc rf q w h hq).mono ?_
  rintro r w' ⟨v, ys, rfl, h1, h2, h3, h4, h5⟩
  have e := frL_eq hq h1 h2 h3
  generalize frL q 64 = L at e ⊢
  subst e
  refine ⟨v, rfl, ?_, h5⟩
  rcases h4 with h4 | ⟨g, cap, k1, k2, k3⟩
  · exact .inl h4
  · exact .inr ⟨g, cap, k1, by omega, k3⟩
theorem Rd.below {w w' : World} {base : Nat} {v : Value} {ys : List Int} (h : Rd w base v ys) (k : Below w.heap.size w w') : Rd w' base v ys := by
  rcases h with h | ⟨g, cap, h1, h2, h3⟩
  · exact .inl h
  · exact .inr ⟨g, cap, h1, h2, h3.below k⟩
/-- A slice's text, in every world from here on. -/
def TxR (w : World) (v : Value) (S : ByteArray) : Prop := ∀ W, Below w.heap.size w W → (convert 30 9 v).run Try.prog W = .ok (.string S) W
theorem TxR.below {w w' : World} {v : Value} {S : ByteArray} (h : TxR w v S) (k : Below w.heap.size w w') : TxR w' v S := fun W hW => h W (k.trans (hW.mono k.size))
theorem TxR.of {w : World} {base : Nat} {v : Value} {ys : List Int} (h : Rd w base v ys) : TxR w v (strOfNums ys) := fun W hW => by
  rcases h.below hW with ⟨rfl, rfl⟩ | ⟨g, cap, rfl, _, hr⟩
  · exact run_convert_bytes_nil W 30 5 Try.underlying30 Try.underlying5 0 0 9 Try.underlying9
  · refine run_convert_bytes_arg W 30 5 Try.underlying30 Try.underlying5 g 0 ys.length cap ys rfl (fun i hi => ?_) 9 Try.underlying9
    have := hr.cell i hi
    rw [Nat.zero_add]
    exact this
theorem ct_zero {q : St} {x : Int} (h : ctE q.C x ≠ 0) : ctC q.C x = (0, false) := by
  unfold ctE at h
  unfold ctC
  by_cases h6 : 64 ≤ x
  · rw [if_pos h6]
  · rw [if_neg h6] at h
    rw [if_neg h6]
    cases e : q.C x with
    | none => rfl
    | some c => rw [e] at h; exact (h rfl).elim
set_option maxHeartbeats 2000000 in
theorem rsector_any (B b : Nat) (q : St) (f : Int) (w : World) (h : Rf B w b q.C) (hq : q.Ok) (h0 : 0 ≤ f) : Calls Try.prog 23 #[.pointer (some ⟨b, 0, none⟩), .int .u8 f] w fun r w' => r = .returned (.tuple #[.int .i64 (ctC q.C f).1, .bool (ctE q.C f == 0)]) ∧ w' = w := by
  have cH := rholds_any B b q f w h hq h0
  have hb := h.lt
  by_cases he : ctE q.C f = 0
  · obtain ⟨h6, c, hc, hcc, c0, c1⟩ := ct_some hq he
    obtain ⟨i, rfl⟩ := natOf h0
    have hx := (h.cs i (by omega)).1
    rw [hc] at hx
    simp only [sV] at hx
    rw [he] at cH
    have hiz : (i : Int) < 64 := h6
    rw [hcc, show (ctE q.C (i : Int) == 0) = true by rw [he]; rfl]
    have hw1 : IntKind.i64.wrap (c.1 + 1 - 1) = c.1 := by rw [IntKind.wrap_i64]; omega
    have hw2 : c.1 + 1 - 1 = c.1 := by omega
    generalize c.1 = s at *
    clear hc hcc he h hq
    go_enter Try.func23, Try.ntmps23
    go_wp2_with fail
    refine cH.mono ?_
    rintro r w' ⟨rfl, rfl⟩
    clear cH
    go_wp2
    go_ret2
    exact ⟨rfl, rfl⟩
  · rw [ct_zero he, show (ctE q.C f == 0) = false by simpa using he]
    generalize ctE q.C f = z at *
    clear h hq
    go_enter Try.func23, Try.ntmps23
    go_wp2_with fail
    refine cH.mono ?_
    rintro r w' ⟨rfl, rfl⟩
    clear cH
    go_wp2
    go_ret2
    exact ⟨rfl, rfl⟩
set_option maxHeartbeats 2000000 in
theorem rwritten_any (B b : Nat) (q : St) (f : Int) (w : World) (h : Rf B w b q.C) (hq : q.Ok) (h0 : 0 ≤ f) : Calls Try.prog 25 #[.pointer (some ⟨b, 0, none⟩), .int .u8 f] w fun r w' => r = .returned (.bool (ctC q.C f).2) ∧ w' = w := by
  have cH := rholds_any B b q f w h hq h0
  have hb := h.lt
  by_cases he : ctE q.C f = 0
  · obtain ⟨h6, c, hc, hcc, c0, c1⟩ := ct_some hq he
    obtain ⟨i, rfl⟩ := natOf h0
    have hx := (h.cs i (by omega)).2
    rw [hc] at hx
    simp only [wV] at hx
    rw [he] at cH
    have hiz : (i : Int) < 64 := h6
    rw [hcc]
    generalize c.2 = s at *
    clear hc hcc he h hq
    go_enter Try.func25, Try.ntmps25
    go_wp2_with fail
    refine cH.mono ?_
    rintro r w' ⟨rfl, rfl⟩
    clear cH
    go_wp2
    go_ret
    exact ⟨rfl, rfl⟩
  · have hz : (ctE q.C f == 0) = false := by simpa using he
    rw [ct_zero he]
    generalize ctE q.C f = z at *
    clear h hq
    go_enter Try.func25, Try.ntmps25
    go_wp2_with fail
    refine cH.mono ?_
    rintro r w' ⟨rfl, rfl⟩
    clear cH
    go_wp2
    go_ret
    exact ⟨rfl, rfl⟩
set_option maxHeartbeats 2000000 in
theorem rframes_any (B b : Nat) (q : St) (w : World) (h : Rf B w b q.C) (hq : q.Ok) : Calls Try.prog 26 #[.pointer (some ⟨b, 0, none⟩)] w fun r w' => ∃ v, r = .returned v ∧ Rd w' w.heap.size v (frL q 64) ∧ Below w.heap.size w w' := by
  have HR := Hid3.mk h
  have HQ := Hid3.mk hq
  obtain ⟨i0, hi, hz0, hz1, hz2⟩ := info_parts infoU
  clear h hq
  go_enter Try.func26, Try.ntmps26
  go_wp2_with fail
  go_loopw [3, 4] (fun s3 s4 wr => ∃ i : Nat, i ≤ 64 ∧ s4 = .int .u8 i ∧ wr.ownsRow w.heap.size 5 1 s3 (frL q i).length ((frL q i).map u8V) ∧ Hid3 (Below w.heap.size w wr)) (fun _ s4 _ => 64 - (intOf s4).toNat)
  case atStart => exact ⟨0, by omega, rfl, World.ownsRow_nil _ _ _ _, ⟨Below.refl _ _⟩⟩
  case round =>
    obtain ⟨i, hi6, rfl, hown, HB⟩ := hrel
    have cM := rmay_any b i wr
    unfold thE at cM
    by_cases h6 : i < 64
    · rw [if_neg (by omega)] at cM
      have hR := HR.out.below HB.out
      have c0 := (hR.cs i h6).1
      have hb := hR.lt
      have h64 : (i : Int) < 64 := by omega
      have hwi : IntKind.u8.wrap ((i : Int) + 1) = ((i + 1 : Nat) : Int) := by rw [IntKind.wrap_u8]; omega
      have hle := frL_len q i
      obtain ⟨a0, cap0, hvf⟩ : ∃ a cap, u3 = .slice a (frL q i).length cap := by
        rcases hown.2 with ⟨hv0, hk0⟩ | ⟨g, cap, cur, hv0, _⟩
        · exact ⟨none, 0, by rw [hk0]; exact hv0⟩
        · exact ⟨_, _, hv0⟩
      subst hvf
      cases e : q.C (i : Nat) with
      | none =>
        rw [e] at c0
        simp only [sV] at c0
        have hown1 : Hid3 (wr.ownsRow w.heap.size 5 1 (.slice a0 (frL q i).length cap0) (frL q (i + 1)).length ((frL q (i + 1)).map u8V)) := ⟨by
          have e2 : frL q (i + 1) = frL q i := by
            show frL q i ++ _ = _
            rw [e]
            simp
          rw [e2]
          exact hown⟩
        clear e hR hown
        go_wp2_with fail
        refine cM.mono ?_
        rintro r w' ⟨rfl, rfl⟩
        clear cM
        go_wp2
        go_roundw
        case rel => exact ⟨i + 1, by omega, by go_num, hown1.out, HB⟩
        case measure => simp [intOf]; omega
      | some c =>
        rw [e] at c0
        simp only [sV] at c0
        obtain ⟨_, _, c1, _⟩ := HQ.out.c i c.1 c.2 e
        have hnz : ¬ c.1 + 1 = 0 := by omega
        have e2 : Hid3 (frL q (i + 1) = frL q i ++ [(i : Int)]) := ⟨by
          show frL q i ++ _ = _
          rw [e]
          simp⟩
        generalize c.1 + 1 = cz at *
        have hsz := HB.out.size
        clear e hR c1
        go_wp2_with fail
        refine cM.mono ?_
        rintro r w' ⟨rfl, rfl⟩
        clear cM
        go_wp2_with (first | (at_builtin; refine wpList_append_own _ rfl _ _ 30 rfl w.heap.size 5 i0 (.int .u8 0) 1 1 Try.underlying30 hi hz0 hz1 hz2 rfl (by decide) _ _ _ rfl (hown.alloc _) ⟨w'.heap.size, 0, none⟩ 1 1 [u8V i] rfl rfl (cell_one_new _ _ _) (by simp [u8V, Value.oneCell']) (by unfold maxLen; omega) (by omega) (by simp; omega) ?_; intro v' w2 hown' hgrow _; obtain ⟨g', cap', rfl⟩ := ownsRow_succ hown'))
        go_roundw
        case rel =>
          have hBB : Below w.heap.size w' w2 := ((Below.refl w.heap.size w').alloc hsz _).grown hgrow (by simp; omega) (fun j ej => (hown.lt j ej).1)
          exact ⟨i + 1, by omega, by go_num, by rw [e2.out, List.length_append, List.map_append]; exact hown', ⟨HB.out.trans hBB⟩⟩
        case measure => simp [intOf]; omega
    · obtain rfl : i = 64 := by omega
      rw [if_pos (by omega)] at cM
      have HF : Hid3 (Rd wr w.heap.size u3 (frL q 64) ∧ Below w.heap.size w wr) := ⟨ro_own (n := 0) hown, HB.out⟩
      clear hown
      go_wp2_with fail
      refine cM.mono ?_
      rintro r w' ⟨rfl, rfl⟩
      clear cM
      go_wp2
      go_ret
      exact ⟨_, rfl, HF.out⟩
end Go.Proofs.Ytboelnkeejmjnaa
