/- PoolOnce: the walk. -/
import Derived.Test.YtalhlbhhgddddaaDoorPlZb
namespace Go.Proofs.YtalhlbhhgddddaaDoor
open Go.RowKit Go.Maps
set_option linter.unusedVariables false
set_option maxRecDepth 100000
theorem room_mem (O : Nat → Nat) (f : Nat) (hf : f < 8) : f ∈ bitsL (roomN O 8) ↔ O f = 0 := by
  rw [mem_bitsL, roomN_bit]
  simp
  omega
theorem right_root : rightB (⟨#[47]⟩ : ByteArray).data.toList 0 = true := by decide +kernel
theorem nr_cell {w W : World} {u : Value} {L : List Nat} (h : NR w W u L) : ∃ a cap, u = .slice a L.length cap ∧ ∀ (j x : Nat), L[j]? = some x → ∃ g, a = some ⟨g, 0, none⟩ ∧ W.cell? ⟨g, j, none⟩ = some (.int .u8 x) := by
  rcases h.own.2 with ⟨h1, h2⟩ | ⟨g, cap, cur, h1, _, h3, _, _, _, h5⟩
  · refine ⟨none, 0, by rw [h1, h2], fun j x hx => ?_⟩
    rw [List.eq_nil_of_length_eq_zero h2] at hx
    cases hx
  · refine ⟨_, cap, h1, fun j x hx => ⟨g, rfl, ?_⟩⟩
    have hj : j < L.length := (List.getElem?_eq_some_iff.1 hx).1
    rw [Lib.cell_of_heap h3]
    have e : (L.map u8V)[j]? = some (.int .u8 x) := by rw [List.getElem?_map, hx]; rfl
    rw [← h5, List.getElem?_take, if_pos (by omega)] at e
    simpa using e
theorem take_mem (BL : List Nat) (k f : Nat) (hlt : k < BL.length) : decide (f ∈ BL.take (k + 1)) = (decide (f ∈ BL.take k) || (((BL[k] : Nat) : Int) == (f : Int))) := by
  have h3 : (((BL[k] : Nat) : Int) == (f : Int)) = decide (BL[k] = f) := by
    by_cases h : BL[k] = f
    · rw [h]; simp
    · rw [decide_eq_false h]
      have : ¬ ((BL[k] : Nat) : Int) = (f : Int) := by omega
      simpa using this
  rw [h3, List.take_succ_eq_append_getElem hlt, ← Bool.decide_or, decide_eq_decide, List.mem_append, List.mem_singleton]
  constructor
  · rintro (h | h)
    · exact .inl h
    · exact .inr h.symm
  · rintro (h | h)
    · exact .inl h
    · exact .inr h.symm
theorem own_zero : ∀ x : Nat, x < 64 → ((bitsL x).length = 0 ↔ x = 0) := by decide +kernel
theorem own_few : ∀ x : Nat, x < 512 → (bitsL x).length ≤ 9 := by decide +kernel
set_option maxHeartbeats 8000000 in
theorem once_law (v : Value) (l : List Dd) (en : Nat) (he : en ≤ 255) (fr : Nat) (hf : fr ≤ 255) (w : World) (hd : Dds w v l) (hNT : NTabs w) (hT : TzTab w) : Calls Tryd.prog 7 #[v, .int .u8 en, .int .u8 fr] w fun r w' => r = .returned (.bool true) ∧ Below w.heap.size w w' := by
  obtain ⟨e, he0⟩ : ∃ e : Nat, e = en % 6 := ⟨_, rfl⟩
  obtain ⟨f, hf0⟩ : ∃ f : Nat, f = fr % 8 := ⟨_, rfl⟩
  have he1 : (en : Int) % 6 = (e : Int) := by omega
  have hf1 : (fr : Int) % 8 = (f : Int) := by omega
  have he6 : e < 6 := by omega
  have hf8 : f < 8 := by omega
  clear he0 hf0
  have cP := play_any v l w hd hNT
  obtain ⟨ad, cap, rfl, _⟩ := id hd
  have HT := Hid3.mk hT
  clear hd hNT hT
  go_enter Tryd.func7, Tryd.ntmps7
  go_wp2_with fail
  refine cP.mono ?_
  rintro r W1 ⟨b, fb, rb, i, rfl, hBo, hi⟩
  have cL := plive_any W1
  have HB := Hid3.mk hBo
  clear cP hBo
  go_wp2_with fail
  refine cL.mono ?_
  rintro r W2 ⟨rfl, hb⟩
  obtain ⟨pv, rv, q, hTw, hRc⟩ := (HB.out.low hb).ex
  have hlen := hRc.len
  have HP : Hid3 (Lv w W2 b fb 8 pv q) := ⟨⟨hTw.p, (HB.out.low hb).bl⟩⟩
  have ho : ∀ i, i < 8 → q.O i < 64 := hTw.p.o
  have HRC := Hid3.mk hRc
  clear cL hb hTw hRc HB
  have c1 := owners_nr _ b fb pv q f (by omega) W2 HP.out.p (HT.out.low HP.out.bl)
  have hof : oF 8 q f = q.O f := oF_at 8 q f hf8
  have hof64 := ho f hf8
  have hoz := own_zero (q.O f) hof64
  have hof9 := own_few (q.O f) (by omega)
  rw [hof] at c1
  have HGr : Hid3 (∀ W v', Pl w.heap.size W b fb 8 v' q → w.heap.size ≤ W.heap.size → Calls Tryd.prog 16 #[.pointer (some ⟨b, 0, none⟩), .int .u8 e, .int .u8 f, .agg #[.string ⟨#[47]⟩, .int .u8 0]] W fun r w' => r = .returned (.int .i64 (grE 8 q e f (⟨#[47]⟩, 0))) ∧ PStp w.heap.size W w' b fb 8 v' (grQ 8 q e f (⟨#[47]⟩, 0))) := ⟨fun W v' hW hs => grant_any _ b fb 8 v' q e f (⟨#[47]⟩, 0) W hW (by omega) (by decide) (by omega) hs⟩
  have HE1 : Hid3 (q.O f ≠ 0 → grE 8 q e f (⟨#[47]⟩, 0) = 6) := ⟨fun h => by unfold grE; rw [if_neg (by omega), if_neg (by rw [right_root]; decide), if_pos h]⟩
  have HE2 : Hid3 (grE 8 q e f (⟨#[47]⟩, 0) = 0 → (oF 8 (grQ 8 q e f (⟨#[47]⟩, 0)) f).testBit e = true) := ⟨fun h => by
    unfold grQ
    rw [if_pos h, oF_at 8 _ f hf8]
    show (updN q.O f (q.O f ||| 2 ^ e) f).testBit e = true
    unfold updN
    rw [if_pos rfl, or_is, if_pos rfl]⟩
  have HRm := Hid3.mk (room_mem q.O f hf8)
  generalize grE 8 q e f (⟨#[47]⟩, 0) = z at *
  generalize grQ 8 q e f (⟨#[47]⟩, 0) = q2 at *
  go_wp2_with fail
  refine c1.mono ?_
  rintro r W3 ⟨u, rfl, hN⟩
  obtain ⟨ua, uc, rfl, _⟩ := nr_cell hN
  have HP3 := Hid3.mk (HP.out.low hN.bl)
  have c2 := guard_any _ b fb 8 pv q f (by omega) W3 HP3.out.p
  rw [hof] at c2
  clear c1 hN HP
  generalize (gdC 8 q f).1 = g1 at *
  generalize (gdC 8 q f).2 = g2 at *
  generalize (bitsL (q.O f)).length = ol at *
  go_wp2_with fail
  refine c2.mono ?_
  rintro r W4 ⟨rfl, hb⟩
  have HP4 := Hid3.mk (HP3.out.low hb)
  have hX := below_new W4 (.cells #[.string g1, .int .u8 g2] 43)
  have HP5 := Hid3.mk (HP4.out.low hX)
  have c3 := room_nr _ b fb pv q _ HP5.out.p (HT.out.low HP5.out.bl)
  clear c2 hb HP3 hX
  go_wp2_with fail
  refine c3.mono ?_
  rintro r W6 ⟨u6, rfl, hN⟩
  have HP6 := Hid3.mk (HP5.out.low hN.bl)
  obtain ⟨ra, rc, rfl, hcell⟩ := nr_cell hN
  have HC := Hid3.mk hcell
  have hrl := own_few (roomN q.O 8) (by have := roomN_lt q.O 8; omega)
  have HRm2 := Hid3.mk HRm.out
  clear c3 hN HP5 HP4 hcell
  generalize bitsL (roomN q.O 8) = BL at *
  go_wp2_with fail
  go_loopw [13, 15] (fun s13 s15 wr => ∃ k : Nat, k ≤ BL.length ∧ s15 = .int .i64 k ∧ s13 = .bool (decide (f ∈ BL.take k)) ∧ wr = W6) (fun _ s _ => BL.length - (intOf s).toNat)
  case atStart => exact ⟨0, Nat.zero_le _, rfl, by simp, rfl⟩
  case round =>
    obtain ⟨k, hk, rfl, rfl, rfl⟩ := hrel
    by_cases hlt : k < BL.length
    · have hltz : (k : Int) < (BL.length : Int) := by omega
      obtain ⟨g, rfl, cg⟩ := HC.out k BL[k] (List.getElem?_eq_getElem hlt)
      have HS := Hid3.mk (take_mem BL k f hlt)
      have hgl := World.block_lt_of_cell? _ _ cg
      simp only at hgl
      generalize BL[k] = x at *
      generalize decide (f ∈ BL.take k) = d0 at *
      obtain ⟨d1, hd1⟩ : ∃ d1, decide (f ∈ BL.take (k + 1)) = d1 := ⟨_, rfl⟩
      have HD := Hid3.mk hd1
      rw [hd1] at HS
      clear hd1
      cases d0 with
      | true =>
        have HS2 : Hid3 (d1 = true) := ⟨by rw [HS.out]; rfl⟩
        clear HS
        go_wp2
        go_roundw
        case rel => exact ⟨k + 1, by omega, by go_num, by rw [HD.out, HS2.out], by first | rfl | trivial⟩
        case measure => simp [intOf]; omega
      | false =>
        cases hq : ((x : Int) == (f : Int)) with
        | true =>
          have HS2 : Hid3 (d1 = true) := ⟨by rw [HS.out, hq]; rfl⟩
          clear HS
          go_wp2
          go_roundw
          case rel => exact ⟨k + 1, by omega, by go_num, by rw [HD.out, HS2.out], by first | rfl | trivial⟩
          case measure => simp [intOf]; omega
        | false =>
          have HS2 : Hid3 (d1 = false) := ⟨by rw [HS.out, hq]; rfl⟩
          clear HS
          go_wp2
          go_roundw
          case rel => exact ⟨k + 1, by omega, by go_num, by rw [HD.out, HS2.out], by first | rfl | trivial⟩
          case measure => simp [intOf]; omega
    · obtain rfl : k = BL.length := by omega
      have hltz : ¬ (BL.length : Int) < (BL.length : Int) := by omega
      have hin : decide (f ∈ BL.take BL.length) = decide (q.O f = 0) := by
        rw [List.take_length]
        exact decide_eq_decide.2 HRm2.out
      have c4 := HGr.out _ pv HP6.out.p HP6.out.bl.size
      have HS0 : Hid3 (∀ W', PStp w.heap.size _ W' b fb 8 pv q2 → ∃ v', Lv w W' b fb 8 v' q2) := ⟨fun W' hS => HP6.out.step hS⟩
      by_cases hO : q.O f = 0
      · rw [decide_eq_true hO] at hin
        rw [hin]
        clear hin
        have hol : (ol : Int) = 0 := by have := hoz.2 hO; omega
        have his : decide (q.O f ≠ 0) = false := by simp [hO]
        by_cases hz : z = 0
        · subst hz
          go_wp2_with fail
          refine c4.mono ?_
          rintro r W7 ⟨rfl, hS⟩
          obtain ⟨v7, hL7⟩ := HS0.out W7 hS
          have c5 := holds_any _ b fb 8 v7 q2 e f (by omega) W7 hL7.p
          rw [HE2.out (by first | rfl | trivial)] at c5
          have HL7 := Hid3.mk hL7
          clear c4 hS hL7 HS0
          go_wp2_with fail
          refine c5.mono ?_
          rintro r W8 ⟨rfl, hW⟩
          rw [hW]
          clear c5 hW
          go_wp2
          go_ret
          exact ⟨rfl, HL7.out.bl⟩
        · have hzb : (z != 0) = true := by simpa using hz
          have hzc : (z == 0) = false := by simpa using hz
          go_wp2_with fail
          refine c4.mono ?_
          rintro r W7 ⟨rfl, hS⟩
          obtain ⟨v7, hL7⟩ := HS0.out W7 hS
          have HL7 := Hid3.mk hL7
          clear c4 hS hL7 HS0
          go_wp2
          go_ret
          exact ⟨rfl, HL7.out.bl⟩
      · rw [decide_eq_false hO] at hin
        rw [hin]
        clear hin
        have hol : (0 : Int) < (ol : Int) := by
          have : ¬ ol = 0 := fun x => hO (hoz.1 x)
          omega
        have hol2 : ((ol : Int) == 0) = false := by
          have : ¬ (ol : Int) = 0 := by omega
          simpa using this
        have his : decide (q.O f ≠ 0) = true := by simp [hO]
        obtain rfl := HE1.out hO
        go_wp2_with fail
        refine c4.mono ?_
        rintro r W7 ⟨rfl, hS⟩
        obtain ⟨v7, hL7⟩ := HS0.out W7 hS
        have HL7 := Hid3.mk hL7
        clear c4 hS hL7 HS0
        go_wp2
        go_ret
        exact ⟨rfl, HL7.out.bl⟩
end Go.Proofs.YtalhlbhhgddddaaDoor
