/- An instruction as text: the program. -/
import Derived.Test.YteoappoacapdhaaDoorIsaZ
import Derived.Lib.SmallJoins
import Derived.Lib.AppendIntMem
namespace Go.Proofs.YteoappoacapdhaaDoor
open Go.RowKit
set_option linter.unusedVariables false

/-- The powers of ten are as the program's text lays them. -/
def Pow (w : World) : Prop := Lib.TabIs Tryd.prog w "internal/strconv.uint64pow10" .u64 Lib.pow10Tab
theorem pow_at : Tryd.prog.globalNamed "internal/strconv.uint64pow10" = some 4 := by kernel_rfl
theorem Pow.later {w w' : World} (h : Pow w) (hb : Below w.heap.size w w') : Pow w' := Joins.tab_stays pow_at h hb (Nat.le_refl _)
theorem itoa_any (n : Int) (w : World) (h0 : 0 ≤ n) (h1 : n ≤ 65535) (hP : Pow w) :
    Calls Tryd.prog 48 #[.int .i64 n] w fun e w' => e = .returned (.string ⟨(Lib.decDigits n.toNat).toArray⟩) ∧ Below w.heap.size w w' := by
  refine (Tryd.strconv_Itoa n (by omega) (by omega) w hP).mono ?_
  rintro e w' ⟨rfl, k, os, rfl⟩
  refine ⟨?_, Lib.below_grow _ w (Nat.le_refl _) k os⟩
  unfold Lib.itoa
  rw [if_neg (by omega)]
theorem dec_len (n : Nat) (h : n < 100000) : (Lib.decDigits n).length ≤ 5 := by
  rw [Lib.decDigits_length]
  by_cases h1 : n < 10
  · rw [Lib.nDigits_small h1]; omega
  · rw [Lib.nDigits_big h1]
    by_cases h2 : n / 10 < 10
    · rw [Lib.nDigits_small h2]; omega
    · rw [Lib.nDigits_big h2]
      by_cases h3 : n / 10 / 10 < 10
      · rw [Lib.nDigits_small h3]; omega
      · rw [Lib.nDigits_big h3]
        by_cases h4 : n / 10 / 10 / 10 < 10
        · rw [Lib.nDigits_small h4]; omega
        · rw [Lib.nDigits_big h4, Lib.nDigits_small (by omega)]; omega
theorem show_len (p : Nat × Int) (h0 : 0 ≤ p.2) (h1 : p.2 ≤ 65535) : (showP p).length ≤ 6 := by
  have := dec_len p.2.toNat (by omega)
  match p with
  | (0, n) => show (114 :: Lib.decDigits n.toNat).length ≤ 6; simp at this ⊢; omega
  | (1, n) => show (114 :: Lib.decDigits n.toNat).length ≤ 6; simp at this ⊢; omega
  | (k + 2, n) => show (Lib.decDigits n.toNat).length ≤ 6; simp at this ⊢; omega
theorem r_dec (n : Nat) : (⟨#[114]⟩ : ByteArray) ++ ⟨(Lib.decDigits n).toArray⟩ = ⟨(114 :: Lib.decDigits n).toArray⟩ := by
  have h := (push_front 114 ⟨(Lib.decDigits n).toArray⟩).1
  generalize (⟨#[114]⟩ : ByteArray) ++ ⟨(Lib.decDigits n).toArray⟩ = x at *
  obtain ⟨⟨l⟩⟩ := x
  simp only at h
  rw [h]
set_option maxHeartbeats 1000000 in
set_option maxRecDepth 100000 in
theorem show_any (p : Nat × Int) (w : World) (h0 : 0 ≤ p.2) (h1 : p.2 ≤ 65535) (hP : Pow w) :
    Calls Tryd.prog 40 #[partV p] w fun e w' => e = .returned (.string ⟨(showP p).toArray⟩) ∧ Below w.heap.size w w' := by
  have cI := fun w hP => itoa_any p.2 w h0 h1 hP
  have t1 := assAA
  have t2 := assBA
  have t3 := assBB
  have t4 := assMA
  have t5 := assMB
  have t6 := assMM
  match p with
  | (0, n) =>
    have e := r_dec n.toNat
    unfold partV showP
    simp only at cI h0 h1
    have hl := dec_len n.toNat (by omega)
    go_enter Tryd.func40, Tryd.ntmps40
    go_wp2_with (go_at_call 48; refine (cI _ hP).mono ?_; rintro e w' ⟨rfl, hB⟩)
    go_ret
    exact ⟨by rw [← e]; rfl, hB⟩
  | (1, n) =>
    have e := r_dec n.toNat
    unfold partV showP
    simp only at cI h0 h1
    have hl := dec_len n.toNat (by omega)
    go_enter Tryd.func40, Tryd.ntmps40
    go_wp2_with (go_at_call 48; refine (cI _ hP).mono ?_; rintro e w' ⟨rfl, hB⟩)
    go_ret
    exact ⟨by rw [← e]; rfl, hB⟩
  | (k + 2, n) =>
    unfold partV showP
    simp only at cI h0 h1
    have hl := dec_len n.toNat (by omega)
    go_enter Tryd.func40, Tryd.ntmps40
    go_wp2_with (go_at_call 48; refine (cI _ hP).mono ?_; rintro e w' ⟨rfl, hB⟩)
    go_ret
    exact ⟨rfl, hB⟩
/-- A text and an error, as they are handed back. -/
def txtEV (o a b m : Int) : Value := if insR o a b m then .tuple #[.string ⟨(printL o a b m).toArray⟩, .int .i64 0] else .tuple #[.string ⟨#[]⟩, .int .i64 3]
set_option maxHeartbeats 1000000 in
set_option maxRecDepth 100000 in
theorem print_no (o a b m : Int) (w : World)
    (cR : ∀ w, Calls Tryd.prog 14 #[.agg #[.int .u8 o, .int .u8 a, .int .u8 b, .int .u16 m]] w fun e W' => e = .returned (.bool false) ∧ Below w.heap.size w W') :
    Calls Tryd.prog 29 #[.agg #[.int .u8 o, .int .u8 a, .int .u8 b, .int .u16 m]] w fun e w' => e = .returned (.tuple #[.string ⟨#[]⟩, .int .i64 3]) ∧ Below w.heap.size w w' := by
  go_enter Tryd.func29, Tryd.ntmps29
  go_wp2_with fail
  refine (cR _).mono ?_
  rintro e W1 ⟨rfl, hB1⟩
  rw [World.size_alloc] at hB1
  go_wp2
  go_ret2
  exact ⟨rfl, ((Below.refl _ w).alloc (Nat.le_refl _) _).trans (hB1.mono (by omega))⟩
theorem tails_take (L : List (Nat × Int)) (k : Nat) (h : k < L.length) : tailsL (L.take (k + 1)) = tailsL (L.take k) ++ (32 :: showP L[k]) := by
  unfold tailsL
  rw [List.take_succ_eq_append_getElem h, List.flatMap_append]
  simp
theorem tails_len (L : List (Nat × Int)) (h : ∀ p ∈ L, (showP p).length ≤ 6) : (tailsL L).length ≤ 7 * L.length := by
  induction L with
  | nil => simp [tailsL]
  | cons p L ih =>
    have h1 := h p (by simp)
    have h2 := ih (fun q hq => h q (by simp [hq]))
    simp only [tailsL, List.flatMap_cons, List.length_append, List.length_cons] at h2 ⊢
    omega
theorem app_mk (l r : List UInt8) : (⟨l.toArray⟩ : ByteArray) ++ ⟨r.toArray⟩ = ⟨(l ++ r).toArray⟩ := by
  have h : ((⟨l.toArray⟩ : ByteArray) ++ ⟨r.toArray⟩).data.toList = l ++ r := by simp
  generalize (⟨l.toArray⟩ : ByteArray) ++ ⟨r.toArray⟩ = x at *
  obtain ⟨⟨l⟩⟩ := x
  simp only at h
  rw [h]
set_option maxHeartbeats 4000000 in
set_option maxRecDepth 100000 in
theorem print_yes (o a b m : Int) (w : World) (L : List (Nat × Int)) (hL3 : L.length ≤ 3) (wd : List UInt8) (hwd : wd.length ≤ 100) (hsp : ∀ p ∈ L, (showP p).length ≤ 6)
    (cR : ∀ w, Calls Tryd.prog 14 #[.agg #[.int .u8 o, .int .u8 a, .int .u8 b, .int .u16 m]] w fun e W' => e = .returned (.bool true) ∧ Below w.heap.size w W')
    (hW : Wds w) (cW : ∀ w, Wds w → Calls Tryd.prog 27 #[.int .u8 o] w fun e w' => e = .returned (.string ⟨wd.toArray⟩) ∧ w' = w)
    (cP : ∀ w, Calls Tryd.prog 36 #[.agg #[.int .u8 o, .int .u8 a, .int .u8 b, .int .u16 m]] w fun e W' => ∃ v, e = .returned v ∧ Rw w.heap.size W' v (L.map partV) ∧ Below w.heap.size w W')
    (hP : Pow w) (cS : ∀ p ∈ L, ∀ w, Pow w → Calls Tryd.prog 40 #[partV p] w fun e w' => e = .returned (.string ⟨(showP p).toArray⟩) ∧ Below w.heap.size w w') :
    Calls Tryd.prog 29 #[.agg #[.int .u8 o, .int .u8 a, .int .u8 b, .int .u16 m]] w fun e w' => e = .returned (.tuple #[.string ⟨(wd ++ tailsL L).toArray⟩, .int .i64 0]) ∧ Below w.heap.size w w' := by
  have hF0 := Four.new w (.int .u8 o) (.int .u8 a) (.int .u8 b) (.int .u16 m)
  go_enter Tryd.func29, Tryd.ntmps29
  go_wp2_with fail
  refine (cR _).mono ?_
  rintro e W1 ⟨rfl, hB1⟩
  rw [World.size_alloc] at hB1
  have hF1 := hF0.below hB1 (by omega)
  have hb1 : Below w.heap.size w W1 := ((Below.refl _ w).alloc (Nat.le_refl _) _).trans (hB1.mono (by omega))
  have hs1 : w.heap.size < W1.heap.size := (Array.getElem?_eq_some_iff.1 hF1).1
  have f0 := hF1.c0
  have f1 := hF1.c1
  have f2 := hF1.c2
  have f3 := hF1.c3
  clear hB1 cR hF0
  go_wp2_with fail
  refine (cW _ (hW.later hb1)).mono ?_
  rintro e W2 ⟨rfl, hw⟩
  rw [hw]
  clear hw W2 cW
  go_wp2_with fail
  refine (cP _).mono ?_
  rintro e W3 ⟨v, rfl, hR, hB3⟩
  have hb3 : Below w.heap.size w W3 := hb1.trans (hB3.mono (by omega))
  clear f0 f1 f2 f3 hF1 hB3 cP
  obtain ⟨a0, cap0, rfl, hc0⟩ := id hR
  clear hc0
  rw [List.length_map] at hR ⊢
  generalize W1.heap.size = bi at *
  clear hb1 W1
  go_wp2_with fail
  go_loopw [4, 16] (fun t i wr => ∃ k : Nat, k ≤ L.length ∧ i = .int .i64 k ∧ t = .string ⟨(wd ++ tailsL (L.take k)).toArray⟩ ∧ Rw bi wr (.slice a0 L.length cap0) (L.map partV) ∧ Below w.heap.size w wr) (fun _ i _ => L.length - (intOf i).toNat)
  case atStart => exact ⟨0, by omega, rfl, by simp [tailsL], hR, hb3⟩
  case round =>
    obtain ⟨k, hk, rfl, rfl, hRr, hBr⟩ := hrel
    clear hR hb3
    by_cases hlt : k < L.length
    · have hlt' : (k : Int) < (L.length : Int) := by omega
      obtain ⟨ao, cap, hv, hc⟩ := id hRr
      injection hv with hv1 hv2 hv3
      clear hv2 hv3
      subst hv1
      obtain ⟨g, off, rfl, hg, hcell⟩ := hc k (partV L[k]) (by rw [List.getElem?_map, List.getElem?_eq_getElem hlt]; rfl)
      clear hc
      have cQ := cS L[k] (List.getElem_mem _)
      have HX : Hid ((⟨(wd ++ tailsL (L.take k)).toArray⟩ : ByteArray) ++ ((⟨#[32]⟩ : ByteArray) ++ ⟨(showP L[k]).toArray⟩) = ⟨(wd ++ tailsL (L.take (k + 1))).toArray⟩) := by
        show _ = _
        rw [tails_take L k hlt, show (⟨#[32]⟩ : ByteArray) = ⟨[32].toArray⟩ from rfl, app_mk, app_mk]
        simp
      have z1 := hsp L[k] (List.getElem_mem _)
      have z2 : (wd ++ tailsL (L.take k)).length ≤ 200 := by
        have := tails_len (L.take k) (fun p hp => hsp p (List.mem_of_mem_take hp))
        rw [List.length_append]
        have h3 : (L.take k).length ≤ 3 := by rw [List.length_take]; omega
        omega
      clear cS hsp
      generalize partV L[k] = pv at *
      generalize showP L[k] = sp at *
      generalize (wd ++ tailsL (L.take k)) = tk at *
      go_wp2_with fail
      refine (cQ _ (hP.later hBr)).mono ?_
      rintro e W1 ⟨rfl, hB1⟩
      have hR1 := hRr.below hB1 (Nat.le_refl _)
      have hb1 := hBr.trans (hB1.mono hBr.size)
      clear hRr hBr hB1 cQ hcell
      go_wp2
      go_roundw
      case rel => exact ⟨k + 1, by omega, by go_num, by rw [HX.out], hR1, hb1⟩
      case measure => simp [intOf]; omega
    · have hlt' : ¬ (k : Int) < (L.length : Int) := by omega
      have hke : k = L.length := by omega
      subst hke
      rw [List.take_length]
      clear hRr
      go_wp2
      go_ret2
      exact ⟨rfl, hBr⟩
theorem word_len (o : Int) : (wordT o).length ≤ 100 := by
  unfold wordT
  by_cases h : o.toNat < 24
  · have key : ∀ k : Nat, k < 24 → (wordsL.getD k []).length ≤ 100 := by decide +kernel
    exact key _ h
  · have e : wordsL[o.toNat]? = none := List.getElem?_eq_none (by have : wordsL.length = 24 := rfl
                                                                  omega)
    simp [List.getD, e]
theorem print_any (o a b m : Int) (w : World) (hO : InsOk o a b m) (hW : Wds w) (hP : Pow w) :
    Calls Tryd.prog 29 #[.agg #[.int .u8 o, .int .u8 a, .int .u8 b, .int .u16 m]] w fun e w' => e = .returned (txtEV o a b m) ∧ Below w.heap.size w w' := by
  obtain ⟨o1, o2, a1, a2, b1, b2, m1, m2⟩ := hO
  have cR := fun w => iright_any o a b m w o1 o2
  unfold txtEV
  cases hR : insR o a b m with
  | false =>
    rw [hR] at cR
    exact print_no o a b m w cR
  | true =>
    rw [hR] at cR
    refine print_yes o a b m w (partsL o a b m) (parts_len o a b m) (wordT o) (word_len o) ?_ cR hW (fun w h => word_any o w o1 h) (fun w => parts_any o a b m w o1 o2) hP ?_
    · intro p hp
      rcases parts_kinds o a b m p hp with rfl | rfl | rfl
      · exact show_len (0, a) a1 (by show a ≤ 65535; omega)
      · exact show_len (1, b) b1 (by show b ≤ 65535; omega)
      · exact show_len (2, m) m1 m2
    intro p hp w hP
    rcases parts_kinds o a b m p hp with rfl | rfl | rfl
    · exact show_any (0, a) w a1 (by show a ≤ 65535; omega) hP
    · exact show_any (1, b) w b1 (by show b ≤ 65535; omega) hP
    · exact show_any (2, m) w m1 m2 hP
end Go.Proofs.YteoappoacapdhaaDoor
