/- Instructions as texts, the document's: registers, digits, the text of one. -/
import Derived.Test.YteoappoacapdhaaDoorIsaS
import Derived.Test.YteoappoacapdhaaDoorIsaC
import Derived.Test.YteoappoacapdhaaDoorIsaRefW
namespace Go.Proofs.YteoappoacapdhaaDoor
open Go.RowKit
set_option linter.unusedVariables false

/-! ### Digits say one number in one way -/
theorem decL_snoc (c : UInt8) : ∀ (l : List UInt8) (n m : Int), decL (l ++ [c]) n = some m → ∃ q, decL l n = some q ∧ 48 ≤ c.toNat ∧ c.toNat ≤ 57 ∧ m = q * 10 + ((c.toNat : Int) - 48)
  | [], n, m, h => by
    simp only [List.nil_append, decL] at h
    split at h
    · rename_i hc
      injection h with h
      exact ⟨n, rfl, hc.1, hc.2, h.symm⟩
    · cases h
  | b :: l, n, m, h => by
    simp only [List.cons_append, decL] at h
    split at h
    · rename_i hb
      obtain ⟨q, h1, h2⟩ := decL_snoc c l _ m h
      refine ⟨q, ?_, h2⟩
      simp only [decL]
      rw [if_pos hb]
      exact h1
    · cases h
theorem says_dec : ∀ (k : Nat) (l : List UInt8) (u : Nat), l.length ≤ k → Says l (u : Int) → l = Lib.decDigits u
  | 0, l, u, hk, h => absurd (List.eq_nil_of_length_eq_zero (by omega)) h.2.1
  | k + 1, l, u, hk, h => by
    obtain ⟨h1, h2, h3⟩ := h
    have hsnoc : l = l.dropLast ++ [l.getLast h2] := (List.dropLast_concat_getLast h2).symm
    generalize l.getLast h2 = c at hsnoc
    generalize hi : l.dropLast = i at hsnoc
    have hlen : l.length = i.length + 1 := by rw [hsnoc]; simp
    rw [hsnoc] at h1
    obtain ⟨q, e1, e2, e3, e4⟩ := decL_snoc c i 0 u h1
    have hq : 0 ≤ q := decL_ge i 0 q (by omega) e1
    have hcc : UInt8.ofNat (48 + (c.toNat - 48)) = c := by rw [show 48 + (c.toNat - 48) = c.toNat by omega]; simp
    cases i with
    | nil =>
      simp only [decL, Option.some.injEq] at e1
      subst e1
      have hu : u = c.toNat - 48 := by omega
      rw [hsnoc, Lib.decDigits, dif_pos (by omega), hu, hcc]
      rfl
    | cons b t =>
      have hb : b ≠ 48 := by
        rintro rfl
        rcases h3 with h3 | h3
        · rw [h3] at hlen
          simp at hlen
        · rw [hsnoc] at h3
          simp at h3
      have hb2 : 48 ≤ b.toNat ∧ b.toNat ≤ 57 := by
        simp only [decL] at e1
        split at e1
        · assumption
        · cases e1
      have hb3 : 48 < b.toNat := by
        rcases Nat.lt_or_ge 48 b.toNat with g | g
        · exact g
        · exfalso
          apply hb
          apply UInt8.toNat_inj.1
          have e48 : (48 : UInt8).toNat = 48 := rfl
          omega
      have hq1 : 1 ≤ q := by
        simp only [decL] at e1
        rw [if_pos hb2] at e1
        have := decL_ge t _ q (by omega) e1
        omega
      obtain ⟨q', rfl⟩ : ∃ q' : Nat, q = (q' : Int) := ⟨q.toNat, by omega⟩
      have ih := says_dec k (b :: t) q' (by omega) ⟨e1, by simp, .inr (by simpa using hb)⟩
      have hu : u / 10 = q' := by omega
      have hm : u % 10 = c.toNat - 48 := by omega
      rw [hsnoc, Lib.decDigits, dif_neg (by omega), hu, hm, hcc, ← ih]
theorem rdigits_any (a : Int) (w : World) (ha : 0 ≤ a) (ha2 : a ≤ 65535) :
    Calls Tryd.prog 42 #[.int .u16 a] w fun e w' => e = .returned (.string ⟨(Lib.decDigits a.toNat).toArray⟩) ∧ w' = w := by
  refine (digits_says a w ha ha2).mono ?_
  rintro e w' ⟨⟨s, rfl, hs, _⟩, rfl⟩
  refine ⟨?_, rfl⟩
  have hs' : Says s.data.toList ((a.toNat : Nat) : Int) := by rw [show ((a.toNat : Nat) : Int) = a by omega]; exact hs
  have := says_dec _ s.data.toList a.toNat (Nat.le_refl _) hs'
  rw [← this]
/-! ### Registers -/
set_option maxRecDepth 100000 in
theorem register_any (n : Int) (w : World) (h0 : 0 ≤ n) (h1 : n < 8) :
    Calls Tryd.prog 41 #[.int .u8 n] w fun e w' => e = .returned (.string ⟨(114 :: Lib.decDigits n.toNat).toArray⟩) ∧ Below w.heap.size w w' := by
  have hw : IntKind.u8.wrap (48 + n) = 48 + n := by rw [u8w]; omega
  have e48 := ofNat_toNat8 (48 + n.toNat) (by omega)
  have hn : 48 + n = ((UInt8.ofNat (48 + n.toNat)).toNat : Int) := by omega
  have hB : Bts (w.alloc (.cells #[.int .u8 (48 + n)] 5)) (.slice (some ⟨w.heap.size, 0, none⟩) 1 1) [UInt8.ofNat (48 + n.toNat)] := by
    refine ⟨_, 1, rfl, Nat.le_refl _, by unfold maxLen; omega, fun j u hu => ⟨w.heap.size, 0, rfl, ?_⟩⟩
    rw [Lib.cell_of_heap (World.alloc_heap_new w _)]
    match j, hu with
    | 0, hu => simp at hu; subst hu; simp; omega
    | j + 1, hu => simp at hu
  have ht := hB.text
  rw [Lib.decDigits_one (by omega)]
  have hr := app_mk [114] [UInt8.ofNat (48 + n.toNat)]
  have HR : Hid ((⟨#[114]⟩ : ByteArray) ++ ⟨[UInt8.ofNat (48 + n.toNat)].toArray⟩ = ⟨[114, UInt8.ofNat (48 + n.toNat)].toArray⟩) := hr
  clear hr hn e48 hB
  generalize UInt8.ofNat (48 + n.toNat) = x at *
  go_enter Tryd.func41, Tryd.ntmps41
  go_wp2
  go_ret
  refine ⟨?_, (Below.refl _ w).alloc (Nat.le_refl _) _⟩
  rw [← HR.out]
  rfl
theorem reg_text (s : List UInt8) (n : Int) (h : regO s = some n) : 0 ≤ n ∧ n < 8 ∧ s = 114 :: Lib.decDigits n.toNat := by
  match s, h with
  | [r, d], h =>
    simp only [regO] at h
    split at h
    · rename_i hc
      injection h with h
      subst h
      refine ⟨by omega, by omega, ?_⟩
      rw [Lib.decDigits_one (by omega), hc.1]
      congr 2
      have : 48 + ((d.toNat : Int) - 48).toNat = d.toNat := by omega
      rw [this]
      simp
    · cases h
set_option maxHeartbeats 2000000 in
set_option maxRecDepth 100000 in
theorem rregister_any (s : List UInt8) (w : World) :
    Calls Tryd.prog 46 #[.string ⟨s.toArray⟩] w fun e w' => e = .returned (.tuple #[.int .u8 ((regO s).getD 0), .bool (regO s).isSome]) ∧ Below w.heap.size w w' := by
  go_enter Tryd.func46, Tryd.ntmps46
  go_wp2
  go_loopw [4] (fun i wr => ∃ k : Nat, k ≤ 8 ∧ i = .int .u8 (k : Int) ∧ Hid (∀ n : Int, regO s = some n → (k : Int) ≤ n) ∧ Below w.heap.size w wr) (fun i _ => 8 - (intOf i).toNat)
  case atStart => exact ⟨0, by omega, rfl, fun n hn => (reg_text s n hn).1, Below.refl _ _⟩
  case round =>
    obtain ⟨k, hk, rfl, HO, hB⟩ := hrel
    by_cases hlt : k < 8
    · have hlt' : (k : Int) < 8 := by omega
      have cW := fun w => register_any (k : Int) w (by omega) (by omega)
      have hreg := reg_dec (k : Int) (by omega) (by omega)
      have HG : Hid (regO (114 :: Lib.decDigits (k : Int).toNat) = some (k : Int)) := hreg
      clear hreg
      generalize ht : (114 :: Lib.decDigits (k : Int).toNat) = t at *
      by_cases he : t = s
      · subst he
        clear HO ht
        go_wp2_with fail
        refine (cW _).mono ?_
        rintro e W1 ⟨rfl, hB1⟩
        go_wp2
        go_ret2
        refine ⟨?_, hB.trans (hB1.mono hB.size)⟩
        rw [HG.out]
        rfl
      · have hne : (t == s) = false := by rw [beq_eq_false_iff_ne]; exact he
        have HR : Hid (∀ n : Int, regO s = some n → ((k + 1 : Nat) : Int) ≤ n) := by
          intro n hn
          have h1 := HO.out n hn
          have h2 := reg_text s n hn
          rcases Int.lt_or_le (k : Int) n with g | g
          · omega
          · exfalso
            have : n = (k : Int) := by omega
            subst this
            exact he (ht.symm.trans h2.2.2.symm)
        have hw8 : IntKind.u8.wrap ((k : Int) + 1) = (k : Int) + 1 := by rw [u8w]; omega
        clear HO HG he ht
        go_wp2_with fail
        refine (cW _).mono ?_
        rintro e W1 ⟨rfl, hB1⟩
        go_wp2
        go_roundw
        case rel => exact ⟨k + 1, by omega, by simp, HR, hB.trans (hB1.mono hB.size)⟩
        case measure => simp [intOf]; omega
    · have hlt' : ¬ (k : Int) < 8 := by omega
      have HN : Hid (regO s = none) := by
        show _ = _
        cases hr : regO s with
        | none => rfl
        | some n =>
          exfalso
          have h1 := HO.out n hr
          have h2 := reg_text s n hr
          omega
      clear HO
      go_wp2
      go_ret2
      refine ⟨?_, hB⟩
      rw [HN.out]
      rfl
/-! ### The text of an instruction -/
set_option maxHeartbeats 2000000 in
set_option maxRecDepth 100000 in
theorem rprint_no (o a b m : Int) (w : World)
    (cR : ∀ w, Calls Tryd.prog 15 #[.agg #[.int .u8 o, .int .u8 a, .int .u8 b, .int .u16 m]] w fun e W' => e = .returned (.bool false) ∧ Below w.heap.size w W') :
    Calls Tryd.prog 30 #[.agg #[.int .u8 o, .int .u8 a, .int .u8 b, .int .u16 m]] w fun e w' => e = .returned (.tuple #[.string ⟨#[]⟩, .int .i64 3]) ∧ Below w.heap.size w w' := by
  go_enter Tryd.func30, Tryd.ntmps30
  go_wp2_with fail
  refine (cR _).mono ?_
  rintro e W1 ⟨rfl, hB1⟩
  rw [World.size_alloc] at hB1
  go_wp2
  go_ret2
  exact ⟨rfl, ((Below.refl _ w).alloc (Nat.le_refl _) _).trans (hB1.mono (by omega))⟩
def txt3 (wd ta tb tm : List UInt8) (ua ub um : Bool) : List UInt8 := wd ++ ((if ua then 32 :: ta else []) ++ ((if ub then 32 :: tb else []) ++ (if um then 32 :: tm else [])))
theorem blank_mk (l : List UInt8) : (⟨#[32]⟩ : ByteArray) ++ ⟨l.toArray⟩ = ⟨(32 :: l).toArray⟩ := by
  have := app_mk [32] l
  simpa using this
set_option maxHeartbeats 8000000 in
set_option maxRecDepth 100000 in
theorem rprint_yes (o a b m : Int) (w : World) (wd ta tb tm : List UInt8) (ua ub um : Bool) (hwd : wd.length ≤ 100) (hta : ta.length ≤ 100) (htb : tb.length ≤ 100) (htm : tm.length ≤ 100)
    (cR : ∀ w, Calls Tryd.prog 15 #[.agg #[.int .u8 o, .int .u8 a, .int .u8 b, .int .u16 m]] w fun e W' => e = .returned (.bool true) ∧ Below w.heap.size w W')
    (cU : ∀ w, Calls Tryd.prog 24 #[.int .u8 o] w fun e w' => e = .returned (.tuple #[.bool ua, .bool ub, .bool um]) ∧ w' = w)
    (cW : ∀ w, Calls Tryd.prog 28 #[.int .u8 o] w fun e w' => e = .returned (.string ⟨wd.toArray⟩) ∧ Below w.heap.size w w')
    (cA : ∀ w, Calls Tryd.prog 41 #[.int .u8 a] w fun e w' => e = .returned (.string ⟨ta.toArray⟩) ∧ Below w.heap.size w w')
    (cB : ∀ w, Calls Tryd.prog 41 #[.int .u8 b] w fun e w' => e = .returned (.string ⟨tb.toArray⟩) ∧ Below w.heap.size w w')
    (cM : ∀ w, Calls Tryd.prog 42 #[.int .u16 m] w fun e w' => e = .returned (.string ⟨tm.toArray⟩) ∧ w' = w) :
    Calls Tryd.prog 30 #[.agg #[.int .u8 o, .int .u8 a, .int .u8 b, .int .u16 m]] w fun e w' => e = .returned (.tuple #[.string ⟨(txt3 wd ta tb tm ua ub um).toArray⟩, .int .i64 0]) ∧ Below w.heap.size w w' := by
  have hF := Four.new w (.int .u8 o) (.int .u8 a) (.int .u8 b) (.int .u16 m)
  cases ua <;> cases ub <;> cases um
  · go_enter Tryd.func30, Tryd.ntmps30
    go_wp2_with fail
    refine (cR _).mono ?_
    rintro e W1 ⟨rfl, hB1⟩
    rw [World.size_alloc] at hB1
    replace hF := hF.below hB1 (by omega)
    have b1 : Below w.heap.size w W1 := ((Below.refl _ w).alloc (Nat.le_refl _) _).trans (hB1.mono (by omega))
    have hs1 : w.heap.size < W1.heap.size := (Array.getElem?_eq_some_iff.1 hF).1
    have f0 := hF.c0
    have f1 := hF.c1
    have f2 := hF.c2
    have f3 := hF.c3
    clear hB1 cR
    go_wp2_with fail
    refine (cU _).mono ?_
    rintro e W0 ⟨rfl, hw⟩
    rw [hw]
    clear hw W0 cU
    go_wp2_with fail
    refine (cW _).mono ?_
    rintro e W2 ⟨rfl, hB2⟩
    replace hF := hF.below hB2 (by omega)
    have b2 := b1.trans (hB2.mono b1.size)
    have hs2 := hB2.size
    clear f0 f1 f2 f3 cW hB2 b1
    go_wp2
    go_ret2
    exact ⟨by simp [txt3], b2⟩
  · go_enter Tryd.func30, Tryd.ntmps30
    go_wp2_with fail
    refine (cR _).mono ?_
    rintro e W1 ⟨rfl, hB1⟩
    rw [World.size_alloc] at hB1
    replace hF := hF.below hB1 (by omega)
    have b1 : Below w.heap.size w W1 := ((Below.refl _ w).alloc (Nat.le_refl _) _).trans (hB1.mono (by omega))
    have hs1 : w.heap.size < W1.heap.size := (Array.getElem?_eq_some_iff.1 hF).1
    have f0 := hF.c0
    have f1 := hF.c1
    have f2 := hF.c2
    have f3 := hF.c3
    clear hB1 cR
    go_wp2_with fail
    refine (cU _).mono ?_
    rintro e W0 ⟨rfl, hw⟩
    rw [hw]
    clear hw W0 cU
    go_wp2_with fail
    refine (cW _).mono ?_
    rintro e W2 ⟨rfl, hB2⟩
    replace hF := hF.below hB2 (by omega)
    have b2 := b1.trans (hB2.mono b1.size)
    have hs2 := hB2.size
    clear f0 f1 f2 f3 cW hB2 b1
    have f0 := hF.c0
    have f1 := hF.c1
    have f2 := hF.c2
    have f3 := hF.c3
    have e2 := app_mk (wd) (32 :: tm)
    have z2 := blank_mk tm
    go_wp2_with fail
    refine (cM _).mono ?_
    rintro e W0 ⟨rfl, hw⟩
    rw [hw]
    clear hw W0 f0 f1 f2 f3
    go_wp2
    go_ret2
    exact ⟨by simp [txt3], b2⟩
  · go_enter Tryd.func30, Tryd.ntmps30
    go_wp2_with fail
    refine (cR _).mono ?_
    rintro e W1 ⟨rfl, hB1⟩
    rw [World.size_alloc] at hB1
    replace hF := hF.below hB1 (by omega)
    have b1 : Below w.heap.size w W1 := ((Below.refl _ w).alloc (Nat.le_refl _) _).trans (hB1.mono (by omega))
    have hs1 : w.heap.size < W1.heap.size := (Array.getElem?_eq_some_iff.1 hF).1
    have f0 := hF.c0
    have f1 := hF.c1
    have f2 := hF.c2
    have f3 := hF.c3
    clear hB1 cR
    go_wp2_with fail
    refine (cU _).mono ?_
    rintro e W0 ⟨rfl, hw⟩
    rw [hw]
    clear hw W0 cU
    go_wp2_with fail
    refine (cW _).mono ?_
    rintro e W2 ⟨rfl, hB2⟩
    replace hF := hF.below hB2 (by omega)
    have b2 := b1.trans (hB2.mono b1.size)
    have hs2 := hB2.size
    clear f0 f1 f2 f3 cW hB2 b1
    have f0 := hF.c0
    have f1 := hF.c1
    have f2 := hF.c2
    have f3 := hF.c3
    have e2 := app_mk (wd) (32 :: tb)
    have z2 := blank_mk tb
    go_wp2_with fail
    refine (cB _).mono ?_
    rintro e W3 ⟨rfl, hB3⟩
    replace hF := hF.below hB3 (by omega)
    have b3 := b2.trans (hB3.mono b2.size)
    have hs3 := hB3.size
    clear f0 f1 f2 f3 hB3 b2
    go_wp2
    go_ret2
    exact ⟨by simp [txt3], b3⟩
  · go_enter Tryd.func30, Tryd.ntmps30
    go_wp2_with fail
    refine (cR _).mono ?_
    rintro e W1 ⟨rfl, hB1⟩
    rw [World.size_alloc] at hB1
    replace hF := hF.below hB1 (by omega)
    have b1 : Below w.heap.size w W1 := ((Below.refl _ w).alloc (Nat.le_refl _) _).trans (hB1.mono (by omega))
    have hs1 : w.heap.size < W1.heap.size := (Array.getElem?_eq_some_iff.1 hF).1
    have f0 := hF.c0
    have f1 := hF.c1
    have f2 := hF.c2
    have f3 := hF.c3
    clear hB1 cR
    go_wp2_with fail
    refine (cU _).mono ?_
    rintro e W0 ⟨rfl, hw⟩
    rw [hw]
    clear hw W0 cU
    go_wp2_with fail
    refine (cW _).mono ?_
    rintro e W2 ⟨rfl, hB2⟩
    replace hF := hF.below hB2 (by omega)
    have b2 := b1.trans (hB2.mono b1.size)
    have hs2 := hB2.size
    clear f0 f1 f2 f3 cW hB2 b1
    have f0 := hF.c0
    have f1 := hF.c1
    have f2 := hF.c2
    have f3 := hF.c3
    have e2 := app_mk (wd) (32 :: tb)
    have z2 := blank_mk tb
    go_wp2_with fail
    refine (cB _).mono ?_
    rintro e W3 ⟨rfl, hB3⟩
    replace hF := hF.below hB3 (by omega)
    have b3 := b2.trans (hB3.mono b2.size)
    have hs3 := hB3.size
    clear f0 f1 f2 f3 hB3 b2
    have f0 := hF.c0
    have f1 := hF.c1
    have f2 := hF.c2
    have f3 := hF.c3
    have e3 := app_mk (wd ++ (32 :: tb)) (32 :: tm)
    have z3 := blank_mk tm
    go_wp2_with fail
    refine (cM _).mono ?_
    rintro e W0 ⟨rfl, hw⟩
    rw [hw]
    clear hw W0 f0 f1 f2 f3
    go_wp2
    go_ret2
    exact ⟨by simp [txt3], b3⟩
  · go_enter Tryd.func30, Tryd.ntmps30
    go_wp2_with fail
    refine (cR _).mono ?_
    rintro e W1 ⟨rfl, hB1⟩
    rw [World.size_alloc] at hB1
    replace hF := hF.below hB1 (by omega)
    have b1 : Below w.heap.size w W1 := ((Below.refl _ w).alloc (Nat.le_refl _) _).trans (hB1.mono (by omega))
    have hs1 : w.heap.size < W1.heap.size := (Array.getElem?_eq_some_iff.1 hF).1
    have f0 := hF.c0
    have f1 := hF.c1
    have f2 := hF.c2
    have f3 := hF.c3
    clear hB1 cR
    go_wp2_with fail
    refine (cU _).mono ?_
    rintro e W0 ⟨rfl, hw⟩
    rw [hw]
    clear hw W0 cU
    go_wp2_with fail
    refine (cW _).mono ?_
    rintro e W2 ⟨rfl, hB2⟩
    replace hF := hF.below hB2 (by omega)
    have b2 := b1.trans (hB2.mono b1.size)
    have hs2 := hB2.size
    clear f0 f1 f2 f3 cW hB2 b1
    have f0 := hF.c0
    have f1 := hF.c1
    have f2 := hF.c2
    have f3 := hF.c3
    have e2 := app_mk (wd) (32 :: ta)
    have z2 := blank_mk ta
    go_wp2_with fail
    refine (cA _).mono ?_
    rintro e W3 ⟨rfl, hB3⟩
    replace hF := hF.below hB3 (by omega)
    have b3 := b2.trans (hB3.mono b2.size)
    have hs3 := hB3.size
    clear f0 f1 f2 f3 hB3 b2
    go_wp2
    go_ret2
    exact ⟨by simp [txt3], b3⟩
  · go_enter Tryd.func30, Tryd.ntmps30
    go_wp2_with fail
    refine (cR _).mono ?_
    rintro e W1 ⟨rfl, hB1⟩
    rw [World.size_alloc] at hB1
    replace hF := hF.below hB1 (by omega)
    have b1 : Below w.heap.size w W1 := ((Below.refl _ w).alloc (Nat.le_refl _) _).trans (hB1.mono (by omega))
    have hs1 : w.heap.size < W1.heap.size := (Array.getElem?_eq_some_iff.1 hF).1
    have f0 := hF.c0
    have f1 := hF.c1
    have f2 := hF.c2
    have f3 := hF.c3
    clear hB1 cR
    go_wp2_with fail
    refine (cU _).mono ?_
    rintro e W0 ⟨rfl, hw⟩
    rw [hw]
    clear hw W0 cU
    go_wp2_with fail
    refine (cW _).mono ?_
    rintro e W2 ⟨rfl, hB2⟩
    replace hF := hF.below hB2 (by omega)
    have b2 := b1.trans (hB2.mono b1.size)
    have hs2 := hB2.size
    clear f0 f1 f2 f3 cW hB2 b1
    have f0 := hF.c0
    have f1 := hF.c1
    have f2 := hF.c2
    have f3 := hF.c3
    have e2 := app_mk (wd) (32 :: ta)
    have z2 := blank_mk ta
    go_wp2_with fail
    refine (cA _).mono ?_
    rintro e W3 ⟨rfl, hB3⟩
    replace hF := hF.below hB3 (by omega)
    have b3 := b2.trans (hB3.mono b2.size)
    have hs3 := hB3.size
    clear f0 f1 f2 f3 hB3 b2
    have f0 := hF.c0
    have f1 := hF.c1
    have f2 := hF.c2
    have f3 := hF.c3
    have e3 := app_mk (wd ++ (32 :: ta)) (32 :: tm)
    have z3 := blank_mk tm
    go_wp2_with fail
    refine (cM _).mono ?_
    rintro e W0 ⟨rfl, hw⟩
    rw [hw]
    clear hw W0 f0 f1 f2 f3
    go_wp2
    go_ret2
    exact ⟨by simp [txt3], b3⟩
  · go_enter Tryd.func30, Tryd.ntmps30
    go_wp2_with fail
    refine (cR _).mono ?_
    rintro e W1 ⟨rfl, hB1⟩
    rw [World.size_alloc] at hB1
    replace hF := hF.below hB1 (by omega)
    have b1 : Below w.heap.size w W1 := ((Below.refl _ w).alloc (Nat.le_refl _) _).trans (hB1.mono (by omega))
    have hs1 : w.heap.size < W1.heap.size := (Array.getElem?_eq_some_iff.1 hF).1
    have f0 := hF.c0
    have f1 := hF.c1
    have f2 := hF.c2
    have f3 := hF.c3
    clear hB1 cR
    go_wp2_with fail
    refine (cU _).mono ?_
    rintro e W0 ⟨rfl, hw⟩
    rw [hw]
    clear hw W0 cU
    go_wp2_with fail
    refine (cW _).mono ?_
    rintro e W2 ⟨rfl, hB2⟩
    replace hF := hF.below hB2 (by omega)
    have b2 := b1.trans (hB2.mono b1.size)
    have hs2 := hB2.size
    clear f0 f1 f2 f3 cW hB2 b1
    have f0 := hF.c0
    have f1 := hF.c1
    have f2 := hF.c2
    have f3 := hF.c3
    have e2 := app_mk (wd) (32 :: ta)
    have z2 := blank_mk ta
    go_wp2_with fail
    refine (cA _).mono ?_
    rintro e W3 ⟨rfl, hB3⟩
    replace hF := hF.below hB3 (by omega)
    have b3 := b2.trans (hB3.mono b2.size)
    have hs3 := hB3.size
    clear f0 f1 f2 f3 hB3 b2
    have f0 := hF.c0
    have f1 := hF.c1
    have f2 := hF.c2
    have f3 := hF.c3
    have e3 := app_mk (wd ++ (32 :: ta)) (32 :: tb)
    have z3 := blank_mk tb
    go_wp2_with fail
    refine (cB _).mono ?_
    rintro e W4 ⟨rfl, hB4⟩
    replace hF := hF.below hB4 (by omega)
    have b4 := b3.trans (hB4.mono b3.size)
    have hs4 := hB4.size
    clear f0 f1 f2 f3 hB4 b3
    go_wp2
    go_ret2
    exact ⟨by simp [txt3], b4⟩
  · go_enter Tryd.func30, Tryd.ntmps30
    go_wp2_with fail
    refine (cR _).mono ?_
    rintro e W1 ⟨rfl, hB1⟩
    rw [World.size_alloc] at hB1
    replace hF := hF.below hB1 (by omega)
    have b1 : Below w.heap.size w W1 := ((Below.refl _ w).alloc (Nat.le_refl _) _).trans (hB1.mono (by omega))
    have hs1 : w.heap.size < W1.heap.size := (Array.getElem?_eq_some_iff.1 hF).1
    have f0 := hF.c0
    have f1 := hF.c1
    have f2 := hF.c2
    have f3 := hF.c3
    clear hB1 cR
    go_wp2_with fail
    refine (cU _).mono ?_
    rintro e W0 ⟨rfl, hw⟩
    rw [hw]
    clear hw W0 cU
    go_wp2_with fail
    refine (cW _).mono ?_
    rintro e W2 ⟨rfl, hB2⟩
    replace hF := hF.below hB2 (by omega)
    have b2 := b1.trans (hB2.mono b1.size)
    have hs2 := hB2.size
    clear f0 f1 f2 f3 cW hB2 b1
    have f0 := hF.c0
    have f1 := hF.c1
    have f2 := hF.c2
    have f3 := hF.c3
    have e2 := app_mk (wd) (32 :: ta)
    have z2 := blank_mk ta
    go_wp2_with fail
    refine (cA _).mono ?_
    rintro e W3 ⟨rfl, hB3⟩
    replace hF := hF.below hB3 (by omega)
    have b3 := b2.trans (hB3.mono b2.size)
    have hs3 := hB3.size
    clear f0 f1 f2 f3 hB3 b2
    have f0 := hF.c0
    have f1 := hF.c1
    have f2 := hF.c2
    have f3 := hF.c3
    have e3 := app_mk (wd ++ (32 :: ta)) (32 :: tb)
    have z3 := blank_mk tb
    go_wp2_with fail
    refine (cB _).mono ?_
    rintro e W4 ⟨rfl, hB4⟩
    replace hF := hF.below hB4 (by omega)
    have b4 := b3.trans (hB4.mono b3.size)
    have hs4 := hB4.size
    clear f0 f1 f2 f3 hB4 b3
    have f0 := hF.c0
    have f1 := hF.c1
    have f2 := hF.c2
    have f3 := hF.c3
    have e4 := app_mk (wd ++ (32 :: ta) ++ (32 :: tb)) (32 :: tm)
    have z4 := blank_mk tm
    go_wp2_with fail
    refine (cM _).mono ?_
    rintro e W0 ⟨rfl, hw⟩
    rw [hw]
    clear hw W0 f0 f1 f2 f3
    go_wp2
    go_ret2
    exact ⟨by simp [txt3, app_mk], b4⟩
theorem rprint_any (o a b m : Int) (w : World) (hO : InsOk o a b m) :
    Calls Tryd.prog 30 #[.agg #[.int .u8 o, .int .u8 a, .int .u8 b, .int .u16 m]] w fun e w' => e = .returned (txtEV o a b m) ∧ Below w.heap.size w w' := by
  have cR := fun w => rright_any o a b m w hO.1 hO.2.1
  unfold txtEV
  cases hR : insR o a b m with
  | false =>
    rw [hR] at cR
    exact rprint_no o a b m w cR
  | true =>
    rw [hR] at cR
    obtain ⟨⟨r1, r2, r3⟩, _⟩ := (insR_iff o a b m).1 hR
    obtain ⟨o1, o2, a1, a2, b1, b2, m1, m2⟩ := hO
    have e : printL o a b m = txt3 (wordT o) (114 :: Lib.decDigits a.toNat) (114 :: Lib.decDigits b.toNat) (Lib.decDigits m.toNat) (useA o) (useB o) (useM o) := by
      unfold printL txt3 partsL tailsL
      cases useA o <;> cases useB o <;> cases useM o <;> simp [showP]
    rw [if_pos rfl, e]
    exact rprint_yes o a b m w _ _ _ _ _ _ _ (word_len o) (by have := dec_len a.toNat (by omega); simp; omega) (by have := dec_len b.toNat (by omega); simp; omega) (by have := dec_len m.toNat (by omega); omega) cR (fun w => ruses_any o w o1 o2) (fun w => rword_any o w o1 o2) (fun w => register_any a w a1 r2) (fun w => register_any b w b1 r3) (fun w => rdigits_any m w m1 m2)
end Go.Proofs.YteoappoacapdhaaDoor
