/- QuantaOnce: the walk. -/
import Derived.Test.YtgfiliodbggahaaLawQuC
namespace Go.Proofs.Ytgfiliodbggahaa
open Go.RowKit Go.Maps
set_option linter.unusedVariables false
set_option maxRecDepth 100000
def sumN (l : List Pe) : Nat → Nat
  | 0 => 0
  | k + 1 => sumN l k + (pcL (k : Nat) l).length
theorem sumN_cons (x : Pe) (l : List Pe) : ∀ k, sumN (x :: l) k = sumN l k + (if x.2.1 < k then 1 else 0)
  | 0 => by simp [sumN]
  | k + 1 => by
    simp only [sumN]
    rw [sumN_cons x l k]
    have h : (pcL (k : Nat) (x :: l)).length = (pcL (k : Nat) l).length + (if x.2.1 = k then 1 else 0) := by
      unfold pcL
      by_cases e : x.2.1 = k
      · have : ((x.2.1 : Int) == (k : Int)) = true := by rw [beq_iff_eq, e]
        simp [e]
      · have : ((x.2.1 : Int) == (k : Int)) = false := by rw [beq_eq_false_iff_ne]; omega
        simp [this, e]
    rw [h]
    split <;> split <;> split <;> omega
theorem sumN_six : ∀ l : List Pe, sumN l 6 = l.length
  | [] => by simp [sumN, pcL]
  | x :: l => by
    rw [sumN_cons, sumN_six l, if_pos x.2.2, List.length_cons]
def heldN (pl : Fin 8 → Option (Fin 6)) : Nat → Nat
  | 0 => 0
  | k + 1 => heldN pl k + (if (pl (ordK 0 k)).isSome then 1 else 0)
theorem heldN_len (pl : Fin 8 → Option (Fin 6)) : ∀ k, (tkL pl 0 k).length = heldN pl k
  | 0 => rfl
  | k + 1 => by
    simp only [tkL, heldN, List.length_append, heldN_len pl k]
    congr 1
    unfold oneL
    cases pl (ordK 0 k) <;> rfl
theorem heldN_le (pl : Fin 8 → Option (Fin 6)) (k : Nat) : heldN pl k ≤ k := by rw [← heldN_len]; exact tkL_len pl 0 k
theorem sumN_le (l : List Pe) : ∀ k, k ≤ 6 → sumN l k ≤ l.length
  | 0, _ => Nat.zero_le _
  | k + 1, h => by
    have h1 : ∀ m, sumN l (k + 1) ≤ sumN l (k + 1 + m) := by
      intro m
      induction m with
      | zero => exact Nat.le_refl _
      | succ m ih => exact Nat.le_trans ih (by rw [show k + 1 + (m + 1) = (k + 1 + m) + 1 by omega]; simp only [sumN]; omega)
    have := h1 (6 - (k + 1))
    rw [show k + 1 + (6 - (k + 1)) = 6 by omega, sumN_six] at this
    exact this
theorem gv_zero {env place to : Int} {q : Qs} (h0 : 0 ≤ env) (h1 : 0 ≤ to) (h : gvE env place to q = 0) : ∃ (k : Fin 8) (t : Fin 6), place = (k.1 : Int) ∧ to = (t.1 : Int) ∧ gvQ env place to q = { q with pl := upd q.pl k (some t) } := by
  unfold gvE at h
  unfold gvQ
  rcases ep_cases env place h0 with ⟨e, k, rfl, rfl, he⟩ | ⟨hb, he⟩
  · rcases en_cases to h1 with ⟨t, rfl, ht⟩ | ⟨hb, ht⟩
    · rw [he, ht] at h ⊢
      simp only [handE] at h
      split at h
      · rename_i hp
        exact ⟨k, t, rfl, rfl, by simp [handQ, hp]⟩
      · cases h
    · rw [he, ht] at h
      cases h
  · rw [he] at h
    cases h
theorem gv_else {env place to : Int} {q : Qs} (h : gvE env place to q ≠ 0) : gvQ env place to q = q := by
  unfold gvE at h
  unfold gvQ
  split at h
  · simp only [handE] at h
    split at h
    · exact absurd rfl h
    · rename_i hp
      simp [handQ, hp]
  · rfl
theorem dp_zero {env place : Int} {q : Qs} (h0 : 0 ≤ env) (h : dpE env place q = 0) : ∃ (k : Fin 8), place = (k.1 : Int) ∧ dpQ env place q = { q with pl := upd q.pl k none } := by
  unfold dpE at h
  unfold dpQ
  rcases ep_cases env place h0 with ⟨e, k, rfl, rfl, he⟩ | ⟨hb, he⟩
  · rw [he] at h ⊢
    simp only [handE] at h
    split at h
    · rename_i hp
      exact ⟨k, rfl, by simp [handQ, hp]⟩
    · cases h
  · rw [he] at h
    cases h
set_option maxHeartbeats 2000000 in
theorem once_law (v : Value) (l : List Dd) (d : Dd) (w : World) (hd : Dds w v l) (hok : ∀ d ∈ l, DdOk d) (hd2 : DdOk d) : Calls Try.prog 6 #[v, ddV d] w fun e w' => e = .returned (.bool true) ∧ Below w.heap.size w w' := by
  obtain ⟨kk, place, env, to⟩ := d
  obtain ⟨h0, h1⟩ := hd2
  simp only at h0 h1
  unfold ddV
  have hX := below_new w (.cells #[.int .i64 kk, .int .i64 place, .int .u8 env, .int .u8 to] 42)
  have hbx := heap_alloc_new w (.cells #[.int .i64 kk, .int .i64 place, .int .u8 env, .int .u8 to] 42)
  have hsz : w.heap.size < (w.alloc (.cells #[.int .i64 kk, .int .i64 place, .int .u8 env, .int .u8 to] 42)).heap.size := by simp
  have cP := play_any v l _ (hd.below hX) hok
  have hq := ok_play (l.take 60) ok_q0
  generalize playQ (l.take 60) q0 = q at *
  have HX : Hid3 (Below w.heap.size w (w.alloc (.cells #[.int .i64 kk, .int .i64 place, .int .u8 env, .int .u8 to] 42))) := ⟨hX⟩
  have HBX : Hid3 ((w.alloc (.cells #[.int .i64 kk, .int .i64 place, .int .u8 env, .int .u8 to] 42)).heap[w.heap.size]? = some (.cells #[.int .i64 kk, .int .i64 place, .int .u8 env, .int .u8 to] 42)) := ⟨hbx⟩
  clear hd hok hX hbx
  go_enter Try.func6, Try.ntmps6
  go_wp2_with fail
  generalize (w.alloc (.cells #[.int .i64 kk, .int .i64 place, .int .u8 env, .int .u8 to] 42)) = W0 at *
  refine cP.mono ?_
  rintro r W1 ⟨vb, pb, rb, rfl, hT, hB1⟩
  have cL := live_any W1
  have HT1 : Hid3 (Vec W0.heap.size W1 vb pb q) := ⟨hT.t⟩
  clear cP hT
  go_wp2_with fail
  refine cL.mono ?_
  rintro r W2 ⟨rfl, hB2⟩
  have HT2 : Hid3 (Vec W0.heap.size W2 vb pb q) := ⟨HT1.out.below hB2⟩
  have HB2 : Hid3 (Below W0.heap.size W0 W2) := ⟨hB1.trans (hB2.mono hB1.size)⟩
  clear cL hB2 hB1 HT1
  go_wp2_with fail
  go_loopw [8, 9] (fun s8 s9 wr => ∃ (k : Nat), k ≤ 6 ∧ s8 = .int .i64 (sumN (tkL q.pl 0 8) k) ∧ s9 = .int .u8 k ∧ Hid3 (Vec W0.heap.size wr vb pb q) ∧ Hid3 (Below W0.heap.size W0 wr)) (fun _ s _ => 6 - (intOf s).toNat)
  case atStart => exact ⟨0, Nat.zero_le _, rfl, rfl, HT2, HB2⟩
  case round =>
    obtain ⟨k, hk, rfl, rfl, HV, HB⟩ := hrel
    by_cases hlt : k < 6
    · have hltz : (k : Int) < 6 := by omega
      have cA := places_len vb pb q k wr HV.out.c
      have HN : Hid3 (sumN (tkL q.pl 0 8) (k + 1) = sumN (tkL q.pl 0 8) k + (pcL (k : Nat) (tkL q.pl 0 8)).length) := ⟨rfl⟩
      have hle := sumN_le (tkL q.pl 0 8) k (by omega)
      have hl8 := tkL_len q.pl 0 8
      have hp8 := pcL_len k q.pl 8
      generalize (pcL (k : Nat) (tkL q.pl 0 8)).length = m at *
      generalize hn1 : sumN (tkL q.pl 0 8) (k + 1) = n1 at *
      generalize sumN (tkL q.pl 0 8) k = n0 at *
      have hn8 : (n0 : Int) ≤ 8 := by omega
      have hm8 : (m : Int) ≤ 8 := by omega
      have HN2 : Hid3 (sumN (tkL q.pl 0 8) (k + 1) = n1) := ⟨hn1⟩
      clear hn1 hle hl8
      go_wp2_with fail
      refine cA.mono ?_
      rintro r W3 ⟨a3, cap3, rfl, _, hB3⟩
      have HV3 : Hid3 (Vec W0.heap.size W3 vb pb q) := ⟨HV.out.below hB3⟩
      have HB3 : Hid3 (Below W0.heap.size W0 W3) := ⟨HB.out.trans (hB3.mono HB.out.size)⟩
      clear cA hB3
      go_wp2
      go_roundw
      case rel => exact ⟨k + 1, by omega, by rw [HN2.out, HN.out]; go_num, by go_num, HV3, HB3⟩
      case measure => simp [intOf]; omega
    · obtain rfl : k = 6 := by omega
      have hS : sumN (tkL q.pl 0 8) 6 = heldN q.pl 8 := by rw [sumN_six, heldN_len]
      rw [hS, show (((6 : Nat)) : Int) = 6 from rfl]
      clear hS
      go_wp2_with fail
      go_loopw [10, 11] (fun s10 s11 wr2 => ∃ (k : Nat), k ≤ 8 ∧ s10 = .int .i64 (heldN q.pl k) ∧ s11 = .int .i64 k ∧ Hid3 (Vec W0.heap.size wr2 vb pb q) ∧ Hid3 (Below W0.heap.size W0 wr2)) (fun _ s _ => 8 - (intOf s).toNat)
      case atStart => exact ⟨0, Nat.zero_le _, rfl, rfl, HV, HB⟩
      case round =>
        obtain ⟨k, hk, rfl, rfl, HV2, HB2⟩ := hrel
        by_cases hlt : k < 8
        · have hltz : (k : Int) < 8 := by omega
          have cA := vat_ok vb pb q (fin8 k hlt) _ HV2.out.c
          change Calls _ _ #[_, .int .i64 k] _ _ at cA
          have HN : Hid3 (heldN q.pl (k + 1) = heldN q.pl k + (if (q.pl (fin8 k hlt)).isSome then 1 else 0)) := ⟨by rw [← ord0 k hlt]; rfl⟩
          have hle := heldN_le q.pl k
          generalize envV (q.pl (fin8 k hlt)) = z at *
          generalize (q.pl (fin8 k hlt)).isSome = b at *
          generalize hn1 : heldN q.pl (k + 1) = n1 at *
          generalize heldN q.pl k = n0 at *
          have HN2 : Hid3 (heldN q.pl (k + 1) = n1) := ⟨hn1⟩
          have hn8 : (n0 : Int) ≤ 8 := by omega
          clear hn1
          cases b with
          | true =>
            go_wp2_with fail
            refine cA.mono ?_
            rintro r W3 ⟨rfl, hB3⟩
            have HV3 : Hid3 (Vec W0.heap.size W3 vb pb q) := ⟨HV2.out.below hB3⟩
            have HB3 : Hid3 (Below W0.heap.size W0 W3) := ⟨HB2.out.trans (hB3.mono HB2.out.size)⟩
            clear cA hB3
            go_wp2
            go_roundw
            case rel => exact ⟨k + 1, by omega, by rw [HN2.out, HN.out]; go_num, by go_num, HV3, HB3⟩
            case measure => simp [intOf]; omega
          | false =>
            go_wp2_with fail
            refine cA.mono ?_
            rintro r W3 ⟨rfl, hB3⟩
            have HV3 : Hid3 (Vec W0.heap.size W3 vb pb q) := ⟨HV2.out.below hB3⟩
            have HB3 : Hid3 (Below W0.heap.size W0 W3) := ⟨HB2.out.trans (hB3.mono HB2.out.size)⟩
            clear cA hB3
            go_wp2
            go_roundw
            case rel => exact ⟨k + 1, by omega, by rw [HN2.out, HN.out]; rfl, by go_num, HV3, HB3⟩
            case measure => simp [intOf]; omega
        · obtain rfl : k = 8 := by omega
          have hHH : (((heldN q.pl 8 : Nat) : Int) != ((heldN q.pl 8 : Nat) : Int)) = false := by simp
          generalize heldN q.pl 8 = Hn at *
          have hb2 := (HB2.out.block w.heap.size hsz).trans HBX.out
          obtain ⟨x0, x1, x2, x3⟩ := b4d hb2
          have cG := dgive_any _ vb pb q env place to _ HV2.out hq h0 h1
          go_wp2_with fail
          refine cG.mono ?_
          rintro r W3 ⟨rfl, hS3⟩
          have HB3 : Hid3 (Below W0.heap.size W0 W3) := ⟨HB2.out.trans (hS3.belowB HV2.out HB2.out.size)⟩
          clear x0 x1 x2 x3 hb2 cG
          have hb3 := (HB3.out.block w.heap.size hsz).trans HBX.out
          obtain ⟨x0, x1, x2, x3⟩ := b4d hb3
          by_cases hz : gvE env place to q = 0
          · obtain ⟨k, t, rfl, rfl, hQ⟩ := gv_zero h0 h1 hz
            rw [hQ] at hS3
            have cA := vat_ok vb pb _ k W3 hS3.vec.c
            simp only [upd_same, envV, Option.isSome_some] at cA
            have htt : (((t.1 : Nat) : Int) == ((t.1 : Nat) : Int)) = true := by simp
            rw [hz]
            clear hS3 hQ hz
            go_wp2_with fail
            refine cA.mono ?_
            rintro r W4 ⟨rfl, hB4⟩
            have HB4 : Hid3 (Below W0.heap.size W0 W4) := ⟨HB3.out.trans (hB4.mono HB3.out.size)⟩
            clear x0 x1 x2 x3 hb3 cA
            have hb4 := (HB4.out.block w.heap.size hsz).trans HBX.out
            obtain ⟨x0, x1, x2, x3⟩ := b4d hb4
            clear hB4 hb4
            go_wp2
            go_ret
            exact ⟨rfl, HX.out.trans (HB4.out.mono HX.out.size)⟩
          · have hQ := gv_else hz
            rw [hQ] at hS3
            have HV3 : Hid3 (Vec W0.heap.size W3 vb pb q) := ⟨hS3.vec⟩
            have hzb : (gvE env place to q == 0) = false := by rw [beq_eq_false_iff_ne]; exact hz
            have cD := ddrop_any _ vb pb q env place W3 HV3.out hq h0
            clear hQ hS3
            generalize gvE env place to q = zz at *
            go_wp2_with fail
            refine cD.mono ?_
            rintro r W4 ⟨rfl, hS4⟩
            have HB4 : Hid3 (Below W0.heap.size W0 W4) := ⟨HB3.out.trans (hS4.belowB HV3.out HB3.out.size)⟩
            clear x0 x1 x2 x3 hb3 cD
            have hb4 := (HB4.out.block w.heap.size hsz).trans HBX.out
            obtain ⟨x0, x1, x2, x3⟩ := b4d hb4
            by_cases hy : dpE env place q = 0
            · obtain ⟨k, rfl, hQ⟩ := dp_zero h0 hy
              rw [hQ] at hS4
              have cA := vat_ok vb pb _ k W4 hS4.vec.c
              simp only [upd_same, envV, Option.isSome_none] at cA
              rw [hy]
              have HV4 : Hid3 (Vec W0.heap.size W4 vb pb { q with pl := upd q.pl k none }) := ⟨hS4.vec⟩
              obtain ⟨t6, ht6⟩ : ∃ t6 : Fin 6, to % 6 = (t6.1 : Int) := ⟨⟨(to % 6).toNat, by omega⟩, by show _ = (((to % 6).toNat : Nat) : Int); omega⟩
              clear hS4 hQ hy
              go_wp2_with fail
              refine cA.mono ?_
              rintro r W5 ⟨rfl, hB5⟩
              have HB5 : Hid3 (Below W0.heap.size W0 W5) := ⟨HB4.out.trans (hB5.mono HB4.out.size)⟩
              clear x0 x1 x2 x3 hb4 cA
              have hb5 := (HB5.out.block w.heap.size hsz).trans HBX.out
              obtain ⟨x0, x1, x2, x3⟩ := b4d hb5
              have HV5 : Hid3 (Vec W0.heap.size W5 vb pb { q with pl := upd q.pl k none }) := ⟨HV4.out.below hB5⟩
              have cT := take_ok _ vb pb _ t6 k W5 HV5.out
              have hE : takeE t6 k { q with pl := upd q.pl k none } = 0 := by simp [takeE, upd_same]
              rw [hE] at cT
              clear hE hB5 hb5
              go_wp2_with fail
              refine cT.mono ?_
              rintro r W6 ⟨rfl, hS6⟩
              have HB6 : Hid3 (Below W0.heap.size W0 W6) := ⟨HB5.out.trans (hS6.belowB HV5.out HB5.out.size)⟩
              clear hS6 cT
              go_wp2
              go_ret
              exact ⟨rfl, HX.out.trans (HB6.out.mono HX.out.size)⟩
            · have hyb : (dpE env place q == 0) = false := by rw [beq_eq_false_iff_ne]; exact hy
              clear hS4 hb4
              generalize dpE env place q = yy at *
              go_wp2
              go_ret
              exact ⟨rfl, HX.out.trans (HB4.out.mono HX.out.size)⟩
end Go.Proofs.Ytgfiliodbggahaa
