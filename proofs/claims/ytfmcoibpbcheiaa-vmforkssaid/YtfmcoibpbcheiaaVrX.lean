/- vm: the document's Pages; when rows of numbers are the same. -/
import Derived.Test.YtfmcoibpbcheiaaVrW
import Derived.RangeFuncBox
namespace Go.Proofs.Ytfmcoibpbcheiaa
open Go.RowKit Go.Maps
set_option linter.unusedVariables false
set_option maxRecDepth 100000
def natV (n : Nat) : Value := .int .i64 n
def Ints (w : World) (v : Value) (L : List Nat) : Prop := ∃ a cap, v = .slice a L.length cap ∧ ∀ (j n : Nat), L[j]? = some n → ∃ g off, a = some ⟨g, off, none⟩ ∧ w.cell? ⟨g, off + j, none⟩ = some (.int .i64 n)
theorem Ints.of_own {B : Nat} {w : World} {v : Value} {L : List Nat} (h : w.ownsRow B 3 1 v L.length (L.map natV)) : Ints w v L := by
  rcases h.2 with ⟨rfl, h0⟩ | ⟨g, cap, cur, rfl, hge, hb, hk, hm, _, htk⟩
  · obtain rfl : L = [] := List.eq_nil_of_length_eq_zero h0
    exact ⟨none, 0, rfl, fun j i h => by cases h⟩
  · refine ⟨_, cap, rfl, fun j n hn => ⟨g, 0, rfl, ?_⟩⟩
    have hj : j < L.length := (List.getElem?_eq_some_iff.1 hn).1
    have : (L.map natV)[j]? = some (natV n) := by rw [List.getElem?_map, hn]; rfl
    rw [← htk, List.getElem?_take, if_pos (by omega)] at this
    simp only [Nat.zero_add, World.cell?, hb]
    simpa [natV] using this
theorem Ints.below {w w' : World} {v : Value} {L : List Nat} (h : Ints w v L) (k : Below w.heap.size w w') : Ints w' v L := by
  obtain ⟨a, cap, rfl, hcell⟩ := h
  refine ⟨a, cap, rfl, fun j m hj => ?_⟩
  obtain ⟨g, off, rfl, c0⟩ := hcell j m hj
  have hg : g < w.heap.size := World.block_lt_of_cell? w _ c0
  refine ⟨g, off, rfl, ?_⟩
  rw [World.cell?_of_block (w := w) (k.block g hg)]
  exact c0
theorem Ints.nil (w : World) : Ints w (.slice none 0 0) [] := ⟨none, 0, rfl, fun j n h => by cases h⟩
set_option maxHeartbeats 1000000 in
theorem sameints_any (v u : Value) (L : List Nat) (w : World) (hv : Ints w v L) (hu : Ints w u L) (hL : L.length ≤ 1000) :
    Calls Try.prog 26 #[v, u] w fun e w' => e = .returned (.bool true) ∧ Below w.heap.size w w' := by
  obtain ⟨ad, cap, rfl, hcell⟩ := hv
  obtain ⟨ad2, cap2, rfl, hcell2⟩ := hu
  have HC : Hid3 (∀ (j n : Nat), L[j]? = some n → ∃ g off, ad = some ⟨g, off, none⟩ ∧ w.cell? ⟨g, off + j, none⟩ = some (.int .i64 n)) := ⟨hcell⟩
  have HC2 : Hid3 (∀ (j n : Nat), L[j]? = some n → ∃ g off, ad2 = some ⟨g, off, none⟩ ∧ w.cell? ⟨g, off + j, none⟩ = some (.int .i64 n)) := ⟨hcell2⟩
  clear hcell hcell2
  have hne : ((L.length : Int) != (L.length : Int)) = false := by simp
  go_enter Try.func26, Try.ntmps26
  go_wp2
  go_loopw [5] (fun s5 wr => ∃ kk nq : Nat, kk ≤ L.length ∧ s5 = .int .i64 kk ∧ wr = w.drewN nq) (fun s5 _ => L.length - (intOf s5).toNat)
  case atStart => exact ⟨0, 0, Nat.zero_le _, rfl, rfl⟩
  case round =>
    obtain ⟨kk, nq, hkk, rfl, rfl⟩ := hrel
    by_cases hlt : kk < L.length
    · have hltz : (kk : Int) < (L.length : Int) := by omega
      obtain ⟨g, off, rfl, c0⟩ := HC.out kk L[kk] (List.getElem?_eq_getElem hlt)
      obtain ⟨g', off', rfl, d0⟩ := HC2.out kk L[kk] (List.getElem?_eq_getElem hlt)
      generalize ((L[kk] : Nat) : Int) = y at *
      have hyy : (y != y) = false := by simp
      go_wp2_with fail
      go_quiet (fail)
      go_wp2
      go_roundw
      case rel => exact ⟨kk + 1, _, by omega, by go_num, rfl⟩
      case measure => simp [intOf]; omega
    · have hltz : ¬ (kk : Int) < (L.length : Int) := by omega
      go_wp2
      go_ret
      exact ⟨rfl, ⟨rfl, rfl, rfl, Nat.le_refl _, fun _ _ => rfl⟩⟩
theorem infoI : (Try.prog.info? 3).map (fun i => (i.zero, i.size, i.bytes)) = some (some (.int .i64 0), 1, 8) := by kernel_rfl
theorem info_parts {t : TypeId} {z : Value} {s b : Nat} (h : (Try.prog.info? t).map (fun i => (i.zero, i.size, i.bytes)) = some (some z, s, b)) : ∃ i, Try.prog.info? t = some i ∧ i.zero = some z ∧ i.size = s ∧ i.bytes = b := by
  cases e : Try.prog.info? t with
  | none => rw [e] at h; cases h
  | some i =>
    rw [e] at h
    simp only [Option.map_some, Option.some.injEq, Prod.mk.injEq] at h
    exact ⟨i, rfl, h.1, h.2.1, h.2.2⟩
/-- The pages that are mapped among the first so many, rising. -/
def upN (f : Int → Option Int) (k : Nat) : List Nat := (List.range k).filter fun (i : Nat) => (f (i : Int)).isSome
theorem upN_snoc (f : Int → Option Int) (k : Nat) : upN f (k + 1) = upN f k ++ (if (f (k : Int)).isSome = true then [k] else []) := by
  unfold upN
  rw [List.range_succ, List.filter_append]
  congr 1
  by_cases c : (f (k : Int)).isSome = true
  · rw [if_pos c]
    simp [c]
  · rw [if_neg c]
    simp [c]
theorem upN_len (f : Int → Option Int) (k : Nat) : (upN f k).length ≤ k := by
  unfold upN
  exact Nat.le_trans (List.length_filter_le _ _) (by rw [List.length_range]; exact Nat.le_refl _)
def pgsV (s : Vs) (pid : Int) : List Nat := match prc s pid with | none => [] | some p => upN (s.pg p) 16
theorem pgsV_len (s : Vs) (pid : Int) : (pgsV s pid).length ≤ 16 := by
  unfold pgsV
  cases prc s pid with
  | none => exact Nat.zero_le _
  | some p => exact upN_len _ _
set_option maxHeartbeats 2000000 in
theorem rpages_any (B : Nat) (o : Ro) (N : Nat) (s : Vs) (L : List Int) (pid : Int) (w : World) (h : Rb B w o N s L) : Calls Try.prog 28 #[.pointer (some ⟨o.b, 0, none⟩), .int .i64 pid] w fun r w' => ∃ v, r = .returned v ∧ Ints w' v (pgsV s pid) ∧ Below w.heap.size w w' := by
  have HF : Hid3 (∀ W, Below w.heap.size w W → Calls Try.prog 61 #[.pointer (some ⟨o.b, 0, none⟩), .int .i64 pid] W fun r w' => r = .returned (.int .i64 (mayE s pid)) ∧ w' = W) := ⟨fun W k => rmay_any B o N s L pid W (h.below k)⟩
  unfold pgsV mayE at *
  rcases prc_cases s pid with ⟨h1, h2⟩ | ⟨p, h1, rfl, h2⟩
  · rw [h1] at HF ⊢
    simp only at HF ⊢
    have cF := HF.out w (Below.refl _ w)
    clear h h2 h1 HF
    go_enter Try.func28, Try.ntmps28
    go_wp2_with fail
    go_loopw [5, 6] (fun s5 s6 wr => s5 = .slice none 0 0 ∧ s6 = .int .i64 0 ∧ wr = w) (fun _ _ _ => 0)
    case atStart => exact ⟨rfl, rfl, rfl⟩
    case round =>
      obtain ⟨rfl, rfl, rfl⟩ := hrel
      go_wp2_with fail
      refine cF.mono ?_
      rintro r W ⟨rfl, rfl⟩
      clear cF
      go_wp2
      go_ret
      exact ⟨_, rfl, Ints.nil _, Below.refl _ _⟩
  · rw [h1] at HF ⊢
    simp only at HF ⊢
    have HP : Hid3 (∀ W, Below w.heap.size w W → ∀ k, k < 16 → W.cell? ⟨o.b, 7 + p.1 * 32 + k * 2, none⟩ = some (.bool (s.pg p k).isSome)) := ⟨fun W j k hk => ((h.below j).pg p k hk).1⟩
    have HN := Hid3.mk (upN_snoc (s.pg p))
    have HL := Hid3.mk (upN_len (s.pg p))
    have HI0 : Hid3 (upN (s.pg p) 0 = []) := ⟨rfl⟩
    generalize s.pg p = f at *
    obtain ⟨i0, hi, hz0, hz1, hz2⟩ := info_parts infoI
    clear h h1 h2
    obtain ⟨p, hp⟩ := p
    have h5 : (p : Int) < 6 := by omega
    simp only at HF HP ⊢
    obtain ⟨U, hU⟩ : ∃ U : Nat → List Nat, U = upN f := ⟨_, rfl⟩
    rw [← hU] at HN HL HI0 ⊢
    clear hU
    go_enter Try.func28, Try.ntmps28
    go_wp2_with fail
    go_loopw [5, 6] (fun s5 s6 wr => ∃ k : Nat, k ≤ 16 ∧ s6 = .int .i64 k ∧ wr.ownsRow w.heap.size 3 1 s5 (U k).length ((U k).map natV) ∧ Hid3 (Below w.heap.size w wr)) (fun _ s _ => 17 - (intOf s).toNat)
    case atStart => exact ⟨0, Nat.zero_le _, rfl, by rw [HI0.out]; exact World.ownsRow_nil _ _ _ _, ⟨Below.refl _ _⟩⟩
    case round =>
      obtain ⟨k, hk, rfl, hown, HB⟩ := hrel
      have cF := HF.out wr HB.out
      by_cases hlt : k < 16
      · have hltz : (k : Int) < 16 := by omega
        have c0 := HP.out wr HB.out k hlt
        have hN := HN.out k
        have hlen := HL.out k
        have hsz := HB.out.size
        obtain ⟨a0, cap0, hvf⟩ : ∃ a cap, u5 = .slice a (U k).length cap := by
          rcases hown.2 with ⟨hv0, hk0⟩ | ⟨g, cap, cur, hv0, _⟩
          · exact ⟨none, 0, by rw [hk0]; exact hv0⟩
          · exact ⟨_, _, hv0⟩
        subst hvf
        cases hs : (f (k : Int)).isSome with
        | true =>
          rw [hs] at c0
          rw [hs, if_pos rfl] at hN
          have HN2 := Hid3.mk hN
          clear hN hs
          generalize hU1 : U (k + 1) = U1 at *
          have HU1 := Hid3.mk hU1
          clear hU1
          generalize U k = U0 at *
          go_wp2_with fail
          refine cF.mono ?_
          rintro r W ⟨rfl, hW⟩
          rw [hW]
          clear cF hW
          go_wp2_with (at_builtin; go_loud (refine wpList_append_own _ rfl _ _ 51 rfl w.heap.size 3 i0 (.int .i64 0) 1 8 Try.underlying51 hi hz0 hz1 hz2 rfl (by decide) _ _ _ rfl (hown.alloc _) ⟨wr.heap.size, 0, none⟩ 1 1 [natV k] rfl rfl (cell_one_new _ _ _) (by simp [natV, Value.oneCell']) (by unfold maxLen; omega) (by omega) (by simp; omega) ?_; intro v' w1 hown' hgrow _; obtain ⟨g', cap', rfl⟩ := ownsRow_succ hown'))
          go_roundw
          case rel => exact ⟨k + 1, by omega, by go_num, by rw [HU1.out, HN2.out, List.length_append, List.map_append]; exact hown', ⟨(HB.out.alloc HB.out.size _).grown hgrow (by have := HB.out.size; simp; omega) (fun j ej => (hown.lt j ej).1)⟩⟩
          case measure => simp [intOf]; omega
        | false =>
          rw [hs] at c0
          rw [hs, if_neg (by simp), List.append_nil] at hN
          have HN2 := Hid3.mk hN
          clear hN hs
          generalize hU1 : U (k + 1) = U1 at *
          have HU1 := Hid3.mk hU1
          clear hU1
          generalize U k = U0 at *
          go_wp2_with fail
          refine cF.mono ?_
          rintro r W ⟨rfl, hW⟩
          rw [hW]
          clear cF hW
          go_wp2
          go_roundw
          case rel => exact ⟨k + 1, by omega, by go_num, by rw [HU1.out, HN2.out]; exact hown, HB⟩
          case measure => simp [intOf]; omega
      · obtain rfl : k = 16 := by omega
        go_wp2_with fail
        refine cF.mono ?_
        rintro r W ⟨rfl, hW⟩
        rw [hW]
        clear cF hW
        go_wp2
        go_ret
        exact ⟨_, rfl, Ints.of_own hown, HB.out⟩
end Go.Proofs.Ytfmcoibpbcheiaa
