/- Each call of both tables, at any slot: one answer, one table behind it. -/
import Derived.Test.YtioinppclejbhaaDoorCaK
import Derived.Test.YtioinppclejbhaaDoorCaS
import Derived.Test.YtioinppclejbhaaDoorCaU
import Derived.Test.YtioinppclejbhaaDoorCaV
import Derived.Test.YtioinppclejbhaaDoorCaY
import Derived.Test.YtioinppclejbhaaDoorCaLv
import Derived.Test.YtioinppclejbhaaDoorRefU
namespace Go.Proofs.YtioinppclejbhaaDoor
open Go.RowKit Go.Maps
set_option linter.unusedVariables false
set_option maxRecDepth 100000
/-- The tables of utf8 lie below B. -/
structure Nt (B : Nat) (w : World) : Prop where
  out : ∃ w0 : World, w0.heap.size = B ∧ NTabs w0 ∧ Below B w0 w
theorem Nt.tabs {B : Nat} {w : World} (h : Nt B w) : NTabs w := by
  obtain ⟨w0, rfl, h1, h2⟩ := h.out
  exact h1.later h2
theorem Nt.size {B : Nat} {w : World} (h : Nt B w) : B ≤ w.heap.size := by
  obtain ⟨w0, rfl, h1, h2⟩ := h.out
  exact h2.size
theorem Nt.to {B : Nat} {w w' : World} (h : Nt B w) (k : Below B w w') : Nt B w' := by
  obtain ⟨w0, e, h1, h2⟩ := h.out
  exact ⟨w0, e, h1, h2.trans k⟩
theorem Nt.low {B : Nat} {w w' : World} (h : Nt B w) (k : Below w.heap.size w w') : Nt B w' := h.to (k.mono h.size)
theorem Nt.apart {B b : Nat} {w w' : World} (h : Nt B w) (k : Apart (fun i => i = b) w w') (hb : B ≤ b) : Nt B w' := h.to (k.below B (fun i e => e ▸ hb) h.size)
theorem Nt.new {w : World} (h : NTabs w) : Nt w.heap.size w := ⟨w, rfl, h, Below.refl _ _⟩
theorem idx_cases (i : Int) : (∃ k : Fin 12, i = (k.1 : Int)) ∨ (i < 0 ∨ 12 ≤ i) := by
  by_cases h : 0 ≤ i ∧ i < 12
  · exact .inl ⟨⟨i.toNat, by omega⟩, by show i = ((i.toNat : Nat) : Int); omega⟩
  · right; omega
/-- What a call that lays one into a slot may come to. -/
def Laid (s : Sl) (e : Int) (s' : Sl) (R : Rc → Prop) : Prop := ((e == 0) = false ∧ s' = s) ∨ ∃ (k : Fin 12) (d : Rc), R d ∧ s k = none ∧ e = 0 ∧ s' = upd s k (some d)
theorem put_both (s : Sl) (i : Int) (c : Cp) (hc : c.1.size ≤ 300) : ∃ e s', Laid s e s' (fun d => d.1 = c) ∧
    (∀ B b w, Tb 71 B w b s → Calls Tryd.prog 28 #[.pointer (some ⟨b, 0, none⟩), .int .i64 i, .agg #[.string c.1, .int .u8 c.2.toNat]] w fun r w' => r = .returned (.int .i64 e) ∧ TStp 71 B w w' b s') ∧
    (∀ B b w, Tb 61 B w b s → Nt B w → Calls Tryd.prog 51 #[.pointer (some ⟨b, 0, none⟩), .int .i64 i, .agg #[.string c.1, .int .u8 c.2.toNat]] w fun r w' => r = .returned (.int .i64 e) ∧ TStp 61 B w w' b s') := by
  rcases idx_cases i with ⟨k, rfl⟩ | hb
  · by_cases hr : rightB c.1.data.toList c.2.toNat = true
    · refine ⟨putE s k, putS s k ⟨c, hr, hc⟩, ?_, fun B b w h => put_right B b s k ⟨c, hr, hc⟩ w h, fun B b w h hn => rput_right B b s k ⟨c, hr, hc⟩ w h (fun W hW => by
        have := rright_any c.1 c.2.toNat W (by omega) (hn.low hW).tabs
        rw [hr] at this
        exact this)⟩
      unfold putE putS
      cases hs : s k with
      | none => exact .inr ⟨k, ⟨c, hr, hc⟩, rfl, hs, rfl, rfl⟩
      | some d => exact .inl ⟨rfl, rfl⟩
    · have hf : rightB c.1.data.toList c.2.toNat = false := by simpa using hr
      refine ⟨3, s, .inl ⟨rfl, rfl⟩, fun B b w h => (put_wrong b k c w hf (by omega)).mono fun r w' ⟨h1, h2⟩ => ⟨h1, TStp.same h h2⟩, fun B b w h hn => (rput_wrong b k c w (fun W hW => by
        have := rright_any c.1 c.2.toNat W (by omega) (hn.low hW).tabs
        rw [hf] at this
        exact this)).mono fun r w' ⟨h1, h2⟩ => ⟨h1, TStp.same h h2⟩⟩
  · exact ⟨2, s, .inl ⟨rfl, rfl⟩, fun B b w h => (put_off _ i 2 c rfl w (fun w => there_bad b i w hb)).mono fun r w' ⟨h1, h2⟩ => ⟨h1, TStp.same h h2⟩, fun B b w h hn => (rput_off _ i 2 c rfl w (fun w => rslot_bad b i w hb)).mono fun r w' ⟨h1, h2⟩ => ⟨h1, TStp.same h h2⟩⟩
theorem get_both (s : Sl) (i : Int) : ∃ (c : Cp) (e : Int), (((e == 0) = false ∧ c = zC) ∨ ∃ (k : Fin 12) (d : Rc), i = (k.1 : Int) ∧ s k = some d ∧ c = d.1 ∧ e = 0) ∧ ((i < 0 ∨ 12 ≤ i) → e = 2) ∧ (∀ k : Fin 12, i = (k.1 : Int) → c = slotC (s k) ∧ e = getE (s k)) ∧
    (∀ B b w, Tb 71 B w b s → Calls Tryd.prog 21 #[.pointer (some ⟨b, 0, none⟩), .int .i64 i] w fun r w' => r = .returned (.tuple #[.agg #[.string c.1, .int .u8 c.2.toNat], .int .i64 e]) ∧ Below w.heap.size w w') ∧
    (∀ B b w, Tb 61 B w b s → Calls Tryd.prog 29 #[.pointer (some ⟨b, 0, none⟩), .int .i64 i] w fun r w' => r = .returned (.tuple #[.agg #[.string c.1, .int .u8 c.2.toNat], .int .i64 e]) ∧ Below w.heap.size w w') := by
  rcases idx_cases i with ⟨k, rfl⟩ | hb
  · refine ⟨slotC (s k), getE (s k), ?_, fun h => by have := k.2; omega, fun k' e => ?_, fun B b w h => get_ok B b s k w h, fun B b w h => rget_ok B b s k w h⟩
    · cases hs : s k with
      | none => exact .inl ⟨rfl, rfl⟩
      | some d => exact .inr ⟨k, d, rfl, hs, rfl, rfl⟩
    · have : k = k' := Fin.ext (by omega)
      subst this
      exact ⟨rfl, rfl⟩
  · refine ⟨zC, 2, .inl ⟨rfl, rfl⟩, fun _ => rfl, fun k e => by have := k.2; omega, fun B b w h => get_off _ i 2 rfl w (fun w => there_bad b i w hb), fun B b w h => rget_off _ i 2 rfl w (fun w => rslot_bad b i w hb)⟩
theorem right_of_derive {n l m : List UInt8} {r q : BitVec 8} (h : deriveO n r l = (m, q, 0)) : rightB m q.toNat = true ∧ m.length ≤ 150 := by
  have hl := deriveO_len n l r
  rw [h] at hl
  refine ⟨?_, hl⟩
  unfold deriveO at h
  split at h
  · rename_i hr
    rw [Bool.and_eq_true] at hr
    split at h
    · cases h
    · split at h
      · rename_i h0
        have hc : childO n l = (m, 0) := by
          have e1 : (childO n l).1 = m := congrArg Prod.fst h
          rw [← e1, ← h0]
        have e2 : r = q := congrArg (fun x => x.2.1) h
        subst e2
        obtain ⟨ls, h1, h2⟩ := childO_back hc
        have h3 := hr.1
        unfold rightB at h3 ⊢
        rw [Bool.and_eq_true] at h3
        rw [h2, h3.2]
        rfl
      · rename_i h0
        exact absurd (congrArg (fun x => x.2.2) h) h0
  · cases h
theorem right_of_restrict {n m : List UInt8} {r x q : BitVec 8} (h : restrictO n r x = (m, q, 0)) : rightB m q.toNat = true ∧ m = n := by
  unfold restrictO at h
  split at h
  · rename_i hr
    rw [Bool.and_eq_true] at hr
    have e1 : n = m := congrArg Prod.fst h
    have e2 : r &&& x = q := congrArg (fun x => x.2.1) h
    subst e1 e2
    refine ⟨?_, rfl⟩
    have h3 := hr.1
    have h4 := of_decide_eq_true hr.2
    unfold rightB at h3 ⊢
    rw [Bool.and_eq_true] at h3 ⊢
    refine ⟨h3.1, decide_eq_true ?_⟩
    have : (r &&& x).toNat ≤ x.toNat := by rw [BitVec.toNat_and]; exact Nat.and_le_right
    omega
  · cases h
/-- What is made opens no more than something that lies in a slot. -/
def Less (s : Sl) (d : Rc) : Prop := ∃ (k : Fin 12) (c : Rc), s k = some c ∧ ∀ g q, opensB d.1.1.data.toList d.1.2 g q = true → opensB c.1.1.data.toList c.1.2 g q = true
theorem derive_both (s : Sl) (i j : Int) (l : ByteArray) (hl : l.size ≤ 1000) : ∃ e s', Laid s e s' (Less s) ∧
    (∀ B b w, Tb 71 B w b s → Calls Tryd.prog 18 #[.pointer (some ⟨b, 0, none⟩), .int .i64 i, .int .i64 j, .string l] w fun r w' => r = .returned (.int .i64 e) ∧ TStp 71 B w w' b s') ∧
    (∀ B b w, Tb 61 B w b s → Nt B w → Calls Tryd.prog 54 #[.pointer (some ⟨b, 0, none⟩), .int .i64 i, .int .i64 j, .string l] w fun r w' => r = .returned (.int .i64 e) ∧ TStp 61 B w w' b s') := by
  obtain ⟨c, e0, hcase, _, _, hG, hR⟩ := get_both s i
  rcases hcase with ⟨he, hz⟩ | ⟨k, d, rfl, hk, rfl, rfl⟩
  · refine ⟨e0, s, .inl ⟨he, rfl⟩, fun B b w h => ?_, fun B b w h hn => ?_⟩
    · have hX := below_new w (.cells #[.string l] 9)
      refine (tderive_of _ i j l w (fun e' w' => e' = e0 ∧ TStp 71 B w w' b s) ((add_off _ _ i j e0 _ _ he _ (hG B b _ (h.below hX))).mono fun o w' ⟨h1, h2⟩ => ⟨e0, h1, rfl, TStp.same h (hX.trans (h2.mono hX.size))⟩)).mono ?_
      rintro r w' ⟨e', rfl, rfl, h3⟩
      exact ⟨rfl, h3⟩
    · exact (rderive_off _ i j e0 l _ _ he w (hR B b w h)).mono fun o w' ⟨h1, h2⟩ => ⟨h1, TStp.same h h2⟩
  · obtain ⟨m, q, e1, hm⟩ : ∃ m q e1, deriveO d.1.1.data.toList d.1.2 l.data.toList = (m, q, e1) := ⟨_, _, _, rfl⟩
    by_cases h1 : e1 = 0
    · subst h1
      obtain ⟨hr, hml⟩ := right_of_derive hm
      have hms : (⟨m.toArray⟩ : ByteArray).size ≤ 300 := by
        show m.toArray.size ≤ 300
        rw [List.size_toArray]
        omega
      obtain ⟨e2, s2, hL, hp, hq⟩ := put_both s j (⟨m.toArray⟩, q) hms
      refine ⟨e2, s2, ?_, fun B b w h => ?_, fun B b w h hn => ?_⟩
      · rcases hL with hL | ⟨k2, d2, hd2, h3, h4, h5⟩
        · exact .inl hL
        · refine .inr ⟨k2, d2, ⟨k, d, hk, fun g x hx => ?_⟩, h3, h4, h5⟩
          rw [hd2] at hx
          exact derive_less hm hx
      · have hX := below_new w (.cells #[.string l] 9)
        refine (tderive_of _ _ j l w (fun e' w' => e' = e2 ∧ TStp 71 B w w' b s2) (add_go _ _ hFderive _ _ j 0 d.1.1 ⟨m.toArray⟩ d.1.2.toNat q.toNat _ (hG B b _ (h.below hX)) (fun W hW => ?_) _ (fun W hW => (hp B b W ((h.below hX).below hW)).mono fun o w' ⟨h3, h4⟩ => ⟨e2, h3, rfl, TStp.pre (hX.trans (hW.mono hX.size)) h4⟩))).mono ?_
        · have := drv1_any w.heap.size d.1 l W (Nat.le_trans d.2.2 (by omega)) hl ((hW.cell (p := ⟨w.heap.size, 0, none⟩) (by simp)).trans (Boxed.new w 9 (.string l)).cell) (by have := hW.size; simp at this; omega)
          rw [hm] at this
          exact this
        · rintro r w' ⟨e', rfl, rfl, h3⟩
          exact ⟨rfl, h3⟩
      · refine (rderive_go _ _ j l d.1.1 ⟨m.toArray⟩ d.1.2.toNat q.toNat w (hR B b w h) (fun W hW => ?_) (fun e' w' => e' = e2 ∧ TStp 61 B w w' b s2) (fun W hW => (hq B b W (h.below hW) (hn.low hW)).mono fun o w' ⟨h3, h4⟩ => ⟨e2, h3, rfl, TStp.pre hW h4⟩)).mono ?_
        · have := rderive_any d.1.1 l d.1.2 W (Nat.le_trans d.2.2 (by omega)) hl (hn.low hW).tabs
          rw [hm] at this
          exact this
        · rintro r w' ⟨e', rfl, rfl, h3⟩
          exact ⟨rfl, h3⟩
    · have he : (e1 == 0) = false := by simpa using h1
      refine ⟨e1, s, .inl ⟨he, rfl⟩, fun B b w h => ?_, fun B b w h hn => ?_⟩
      · have hX := below_new w (.cells #[.string l] 9)
        refine (tderive_of _ _ j l w (fun e' w' => e' = e1 ∧ TStp 71 B w w' b s) ((add_stop _ _ hFderive _ _ j e1 d.1.1 ⟨m.toArray⟩ d.1.2.toNat q.toNat he _ (hG B b _ (h.below hX)) (fun W hW => ?_)).mono fun o w' ⟨h3, h4⟩ => ⟨e1, h3, rfl, TStp.same h (hX.trans (h4.mono hX.size))⟩)).mono ?_
        · have := drv1_any w.heap.size d.1 l W (Nat.le_trans d.2.2 (by omega)) hl ((hW.cell (p := ⟨w.heap.size, 0, none⟩) (by simp)).trans (Boxed.new w 9 (.string l)).cell) (by have := hW.size; simp at this; omega)
          rw [hm] at this
          exact this
        · rintro r w' ⟨e', rfl, rfl, h3⟩
          exact ⟨rfl, h3⟩
      · refine (rderive_stop _ _ j e1 l d.1.1 ⟨m.toArray⟩ d.1.2.toNat q.toNat he w (hR B b w h) (fun W hW => ?_)).mono fun o w' ⟨h3, h4⟩ => ⟨h3, TStp.same h h4⟩
        have := rderive_any d.1.1 l d.1.2 W (Nat.le_trans d.2.2 (by omega)) hl (hn.low hW).tabs
        rw [hm] at this
        exact this
theorem restrict_both (s : Sl) (i j : Int) (x : BitVec 8) : ∃ e s', Laid s e s' (Less s) ∧
    (∀ B b w, Tb 71 B w b s → Calls Tryd.prog 17 #[.pointer (some ⟨b, 0, none⟩), .int .i64 i, .int .i64 j, .int .u8 x.toNat] w fun r w' => r = .returned (.int .i64 e) ∧ TStp 71 B w w' b s') ∧
    (∀ B b w, Tb 61 B w b s → Nt B w → Calls Tryd.prog 55 #[.pointer (some ⟨b, 0, none⟩), .int .i64 i, .int .i64 j, .int .u8 x.toNat] w fun r w' => r = .returned (.int .i64 e) ∧ TStp 61 B w w' b s') := by
  obtain ⟨c, e0, hcase, _, _, hG, hR⟩ := get_both s i
  rcases hcase with ⟨he, hz⟩ | ⟨k, d, rfl, hk, rfl, rfl⟩
  · refine ⟨e0, s, .inl ⟨he, rfl⟩, fun B b w h => ?_, fun B b w h hn => ?_⟩
    · have hX := below_new w (.cells #[.int .u8 x.toNat] 5)
      refine (trestrict_of _ i j (x.toNat : Int) w (fun e' w' => e' = e0 ∧ TStp 71 B w w' b s) ((add_off _ _ i j e0 _ _ he _ (hG B b _ (h.below hX))).mono fun o w' ⟨h1, h2⟩ => ⟨e0, h1, rfl, TStp.same h (hX.trans (h2.mono hX.size))⟩)).mono ?_
      rintro r w' ⟨e', rfl, rfl, h3⟩
      exact ⟨rfl, h3⟩
    · exact (rrestrict_off _ i j e0 (x.toNat : Int) _ _ he w (hR B b w h)).mono fun o w' ⟨h1, h2⟩ => ⟨h1, TStp.same h h2⟩
  · obtain ⟨m, q, e1, hm⟩ : ∃ m q e1, restrictO d.1.1.data.toList d.1.2 x = (m, q, e1) := ⟨_, _, _, rfl⟩
    by_cases h1 : e1 = 0
    · subst h1
      obtain ⟨hr, hml⟩ := right_of_restrict hm
      have hms : (⟨m.toArray⟩ : ByteArray).size ≤ 300 := by
        show m.toArray.size ≤ 300
        rw [List.size_toArray]
        rw [hml]
        have := d.2.2
        exact this
      obtain ⟨e2, s2, hL, hp, hq⟩ := put_both s j (⟨m.toArray⟩, q) hms
      refine ⟨e2, s2, ?_, fun B b w h => ?_, fun B b w h hn => ?_⟩
      · rcases hL with hL | ⟨k2, d2, hd2, h3, h4, h5⟩
        · exact .inl hL
        · refine .inr ⟨k2, d2, ⟨k, d, hk, fun g x hx => ?_⟩, h3, h4, h5⟩
          rw [hd2] at hx
          exact restrict_less hm hx
      · have hX := below_new w (.cells #[.int .u8 x.toNat] 5)
        refine (trestrict_of _ _ j (x.toNat : Int) w (fun e' w' => e' = e2 ∧ TStp 71 B w w' b s2) (add_go _ _ hFrestrict _ _ j 0 d.1.1 ⟨m.toArray⟩ d.1.2.toNat q.toNat _ (hG B b _ (h.below hX)) (fun W hW => ?_) _ (fun W hW => (hp B b W ((h.below hX).below hW)).mono fun o w' ⟨h3, h4⟩ => ⟨e2, h3, rfl, TStp.pre (hX.trans (hW.mono hX.size)) h4⟩))).mono ?_
        · have := rst1_any w.heap.size d.1 x W (Nat.le_trans d.2.2 (by omega)) ((hW.cell (p := ⟨w.heap.size, 0, none⟩) (by simp)).trans (Boxed.new w 5 (.int .u8 x.toNat)).cell) (by have := hW.size; simp at this; omega)
          rw [hm] at this
          exact this
        · rintro r w' ⟨e', rfl, rfl, h3⟩
          exact ⟨rfl, h3⟩
      · refine (rrestrict_go _ _ j (x.toNat : Int) d.1.1 ⟨m.toArray⟩ d.1.2.toNat q.toNat w (hR B b w h) (fun W hW => ?_) (fun e' w' => e' = e2 ∧ TStp 61 B w w' b s2) (fun W hW => (hq B b W (h.below hW) (hn.low hW)).mono fun o w' ⟨h3, h4⟩ => ⟨e2, h3, rfl, TStp.pre hW h4⟩)).mono ?_
        · have := rrestrict_any d.1.1 d.1.2 x W (Nat.le_trans d.2.2 (by omega)) (hn.low hW).tabs
          rw [hm] at this
          exact this
        · rintro r w' ⟨e', rfl, rfl, h3⟩
          exact ⟨rfl, h3⟩
    · have he : (e1 == 0) = false := by simpa using h1
      refine ⟨e1, s, .inl ⟨he, rfl⟩, fun B b w h => ?_, fun B b w h hn => ?_⟩
      · have hX := below_new w (.cells #[.int .u8 x.toNat] 5)
        refine (trestrict_of _ _ j (x.toNat : Int) w (fun e' w' => e' = e1 ∧ TStp 71 B w w' b s) ((add_stop _ _ hFrestrict _ _ j e1 d.1.1 ⟨m.toArray⟩ d.1.2.toNat q.toNat he _ (hG B b _ (h.below hX)) (fun W hW => ?_)).mono fun o w' ⟨h3, h4⟩ => ⟨e1, h3, rfl, TStp.same h (hX.trans (h4.mono hX.size))⟩)).mono ?_
        · have := rst1_any w.heap.size d.1 x W (Nat.le_trans d.2.2 (by omega)) ((hW.cell (p := ⟨w.heap.size, 0, none⟩) (by simp)).trans (Boxed.new w 5 (.int .u8 x.toNat)).cell) (by have := hW.size; simp at this; omega)
          rw [hm] at this
          exact this
        · rintro r w' ⟨e', rfl, rfl, h3⟩
          exact ⟨rfl, h3⟩
      · refine (rrestrict_stop _ _ j e1 (x.toNat : Int) d.1.1 ⟨m.toArray⟩ d.1.2.toNat q.toNat he w (hR B b w h) (fun W hW => ?_)).mono fun o w' ⟨h3, h4⟩ => ⟨h3, TStp.same h h4⟩
        have := rrestrict_any d.1.1 d.1.2 x W (Nat.le_trans d.2.2 (by omega)) (hn.low hW).tabs
        rw [hm] at this
        exact this
theorem drop_both (s : Sl) (i : Int) : ∃ e s',
    (∀ B b w, Tb 71 B w b s → Calls Tryd.prog 52 #[.pointer (some ⟨b, 0, none⟩), .int .i64 i] w fun r w' => r = .returned (.int .i64 e) ∧ TStp 71 B w w' b s') ∧
    (∀ B b w, Tb 61 B w b s → Calls Tryd.prog 53 #[.pointer (some ⟨b, 0, none⟩), .int .i64 i] w fun r w' => r = .returned (.int .i64 e) ∧ TStp 61 B w w' b s') := by
  rcases idx_cases i with ⟨k, rfl⟩ | hb
  · exact ⟨getE (s k), dropS s k, fun B b w h => drop_ok B b s k w h, fun B b w h => rdrop_ok B b s k w h⟩
  · exact ⟨2, s, fun B b w h => (drop_off _ i 2 _ _ rfl w (get_off _ i 2 rfl w (fun w => there_bad b i w hb))).mono fun r w' ⟨h1, h2⟩ => ⟨h1, TStp.same h h2⟩, fun B b w h => (rdrop_off _ i 2 _ _ rfl w (rget_off _ i 2 rfl w (fun w => rslot_bad b i w hb))).mono fun r w' ⟨h1, h2⟩ => ⟨h1, TStp.same h h2⟩⟩
theorem rrevoke_both (B b : Nat) (s : Sl) (top : ByteArray) (w : World) (h : Tb 61 B w b s) (hn : Nt B w) (htop : top.size ≤ 1000) : Calls Tryd.prog 56 #[.pointer (some ⟨b, 0, none⟩), .string top] w fun r w' => ∃ v, r = .returned v ∧ w'.ownsRow w.heap.size 3 1 v (thL (revQ top s) 12).length ((thL (revQ top s) 12).map slI) ∧ TStp 61 B w w' b (goneS s (revQ top s) 12) := by
  have := rrevoke_any B b s top (fun k => aboveB top.data.toList (slotC (s k)).1.data.toList) w h (fun k W hW => rabove_any top (slotC (s k)).1 W htop (slotC_len (s k)) (hn.apart hW h.g).tabs)
  rw [show (fun k => (s k).isSome && aboveB top.data.toList (slotC (s k)).1.data.toList) = revQ top s from funext fun k => (revQ_some top s k).symm] at this
  exact this
end Go.Proofs.YtioinppclejbhaaDoor
