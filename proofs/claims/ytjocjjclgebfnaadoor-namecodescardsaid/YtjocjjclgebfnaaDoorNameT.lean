/- A capability's bytes, and the capability that bytes say. -/
import Derived.Test.YtjocjjclgebfnaaDoorNameM
import Derived.Lib.AppendStr
import Derived.Laws.BytesArg
import Derived.Deep.RegionHeld3
namespace Go.Proofs.YtjocjjclgebfnaaDoor
open Go.RowKit Go.Shelf
set_option linter.unusedVariables false

/-- A slice holds these bytes. -/
def Byt (w : World) (v : Value) (bs : List UInt8) : Prop := ∃ a cap, v = .slice a bs.length cap ∧ bs.length ≤ cap ∧ cap ≤ maxLen ∧ ∀ j x, bs[j]? = some x → ∃ g off, a = some ⟨g, off, none⟩ ∧ w.cell? ⟨g, off + j, none⟩ = some (.int .u8 (x.toNat : Int))
theorem Byt.below {w w' : World} {v : Value} {bs : List UInt8} {B : Nat} (h : Byt w v bs) (hb : Below B w w') (hB : w.heap.size ≤ B) : Byt w' v bs := by
  obtain ⟨a, cap, rfl, hcap, hm, hc⟩ := h
  refine ⟨a, cap, rfl, hcap, hm, fun j x hx => ?_⟩
  obtain ⟨g, off, e, hcell⟩ := hc j x hx
  exact ⟨g, off, e, (hb.cell (p := ⟨g, off + j, none⟩) (Nat.lt_of_lt_of_le (World.block_lt_of_cell? _ _ hcell) hB)).trans hcell⟩
def byteV (x : UInt8) : Value := .int .u8 (x.toNat : Int)
theorem Byt.nil (w : World) : Byt w (.slice none 0 0) [] := ⟨none, 0, rfl, Nat.le_refl _, Nat.zero_le _, fun j x h => by cases h⟩
theorem Byt.of_own {w : World} {base : Nat} {v : Value} {n : Nat} {bs : List UInt8} (h : w.ownsRow base 5 1 v n (bs.map byteV)) : Byt w v bs := by
  have hn : n = bs.length := by have := h.1; simpa using this.symm
  subst hn
  rcases h.2 with ⟨rfl, h0⟩ | ⟨g, cap, cur, rfl, _, hb, hk, hm, _, htk⟩
  · obtain rfl : bs = [] := List.eq_nil_of_length_eq_zero h0
    exact Byt.nil w
  · refine ⟨_, cap, rfl, hk, hm, fun j x hx => ⟨g, 0, rfl, ?_⟩⟩
    have h1 : (List.take (bs.length * 1) cur.toList)[j]? = some (byteV x) := by rw [htk, List.getElem?_map, hx]; rfl
    have hj : j < bs.length := (List.getElem?_eq_some_iff.1 hx).1
    rw [List.getElem?_take, if_pos (by omega)] at h1
    simp only [Nat.zero_add, World.cell?, hb]
    simpa [byteV] using h1
def encL (n : List UInt8) (r : BitVec 8) : List UInt8 := UInt8.ofNat r.toNat :: UInt8.ofNat n.length :: n
def decodeO : List UInt8 → List UInt8 × BitVec 8 × Int
  | a :: b :: t => if b.toNat = t.length ∧ rightB t (a.toNat : Int) = true then (t, BitVec.ofNat 8 a.toNat, 0) else ([], 0#8, 3)
  | _ => ([], 0#8, 3)
theorem byte_bits (a : UInt8) : (BitVec.ofNat 8 a.toNat).toNat = a.toNat := by
  have := a.toNat_lt
  rw [BitVec.toNat_ofNat]
  omega
theorem bits_byte (r : BitVec 8) : (UInt8.ofNat r.toNat).toNat = r.toNat := by
  have := r.isLt
  simp
/-- What was written is read again. -/
theorem decode_encode {n : List UInt8} {r : BitVec 8} (h : rightB n r.toNat = true) : decodeO (encL n r) = (n, r, 0) := by
  have hl := right_len h
  have e1 : (UInt8.ofNat n.length).toNat = n.length := by simp; omega
  show (if (UInt8.ofNat n.length).toNat = n.length ∧ rightB n ((UInt8.ofNat r.toNat).toNat : Int) = true then (n, BitVec.ofNat 8 (UInt8.ofNat r.toNat).toNat, 0) else ([], 0#8, 3)) = _
  rw [bits_byte, if_pos ⟨e1, h⟩]
  simp
theorem encode_decode {bs n : List UInt8} {r : BitVec 8} (h : decodeO bs = (n, r, 0)) : bs = encL n r ∧ rightB n r.toNat = true := by
  match bs, h with
  | [], h => cases h
  | [_], h => cases h
  | a :: b :: t, h =>
    replace h : (if b.toNat = t.length ∧ rightB t (a.toNat : Int) = true then (t, BitVec.ofNat 8 a.toNat, (0 : Int)) else ([], 0#8, 3)) = (n, r, 0) := h
    split at h
    · rename_i hc
      have e1 : t = n := congrArg Prod.fst h
      have e2 : BitVec.ofNat 8 a.toNat = r := congrArg (fun x => x.2.1) h
      subst e1 e2
      rw [byte_bits]
      refine ⟨?_, hc.2⟩
      unfold encL
      rw [byte_bits, ← hc.1]
      simp
    · cases h

theorem Byt.alloc {w : World} {v : Value} {bs : List UInt8} (h : Byt w v bs) (o : Obj) : Byt (w.alloc o) v bs := h.below ((Below.refl w.heap.size w).alloc (Nat.le_refl _) o) (Nat.le_refl _)
theorem strOf_bytes (t : List UInt8) : strOfNums (t.map fun x => (x.toNat : Int)) = ⟨t.toArray⟩ := by
  unfold strOfNums
  congr 2
  rw [List.map_map]
  conv => rhs; rw [← List.map_id t]
  apply List.map_congr_left
  intro x _
  simp
theorem byt_text (w : World) (src : TypeId) (g off cap : Nat) (t : List UInt8) (hs : Tryd.prog.underlying src = some (.slice 5)) (hc : ∀ j x, t[j]? = some x → w.cell? ⟨g, off + j, none⟩ = some (.int .u8 (x.toNat : Int))) :
    (convert src 9 (.slice (some ⟨g, off, none⟩) t.length cap)).run Tryd.prog w = .ok (.string ⟨t.toArray⟩) w := by
  have := run_convert_bytes_arg (P := Tryd.prog) w src 5 hs Tryd.underlying5 g off t.length cap (t.map fun x => (x.toNat : Int)) (by simp) (fun i hi => by
    rw [hc i _ (List.getElem?_eq_getElem hi)]
    simp [List.getD, List.getElem?_eq_getElem hi])
  rw [strOf_bytes] at this
  exact this 9 Tryd.underlying9

theorem Byt.text {w : World} {v : Value} {bs : List UInt8} (h : Byt w v bs) (hne : bs ≠ []) : (convert 35 9 v).run Tryd.prog w = .ok (.string ⟨bs.toArray⟩) w := by
  obtain ⟨a, cap, rfl, hcap, hm, hc⟩ := h
  cases bs with
  | nil => exact absurd rfl hne
  | cons x t =>
    obtain ⟨g, off, rfl, h0⟩ := hc 0 x rfl
    exact byt_text w 35 g off cap (x :: t) Tryd.underlying35 (fun j b hb => by
      obtain ⟨g', off', e, h⟩ := hc j b hb
      cases e
      exact h)
set_option maxHeartbeats 1000000 in
theorem encode_ok (n : ByteArray) (r : BitVec 8) (w : World) (hR : rightB n.data.toList r.toNat = true) :
    Calls Tryd.prog 12 #[capV n r.toNat] w fun e W' => ∃ v, e = .returned (.tuple #[v, .int .i64 0]) ∧ Byt W' v (encL n.data.toList r) ∧ Below w.heap.size w W' := by
  have hl : n.size ≤ 150 := by rw [Lib.size_eq]; exact right_len hR
  have cR := fun w => right_any n r.toNat w (by omega)
  rw [hR] at cR
  unfold capV at cR ⊢
  have hwr : IntKind.u8.wrap (n.size : Int) = (n.size : Int) := by
    rw [IntKind.wrap_u8]
    omega
  go_enter Tryd.func12, Tryd.ntmps12
  go_wp2_with fail
  refine (cR _).mono ?_
  rintro e W1 ⟨rfl, hB1⟩
  rw [World.size_alloc] at hB1
  have hs1 := hB1.size
  rw [World.size_alloc] at hs1
  have hC := (Two.new w 34 (.string n) (.int .u8 r.toNat)).below hB1 (by omega)
  have a0 := hC.c0
  have a1 := hC.c1
  have hC2 := hC.alloc (.cells #[.int .u8 r.toNat, .int .u8 n.size] 5)
  have a2 := hC2.c0
  have hB1' : Below w.heap.size w W1 := ((Below.refl _ w).alloc (Nat.le_refl _) _).trans (hB1.mono (by omega))
  have hB2' := hB1'.alloc (by omega) (.cells #[.int .u8 r.toNat, .int .u8 n.size] 5)
  have hown : (W1.alloc (.cells #[.int .u8 r.toNat, .int .u8 n.size] 5)).ownsRow w.heap.size 5 1 (.slice (some ⟨W1.heap.size, 0, none⟩) 2 2) 2 [.int .u8 r.toNat, .int .u8 n.size] :=
    ⟨rfl, .inr ⟨W1.heap.size, 2, _, rfl, by omega, World.alloc_heap_new W1 _, Nat.le_refl _, by unfold maxLen; omega, rfl, rfl⟩⟩
  obtain ⟨i0, hi, hz0, hz1, hz2⟩ := info_parts info8
  clear hR hB1 hC hC2
  go_wp2_with (at_builtin; refine Lib.wpList_append_own_string _ rfl _ _ 35 9 rfl w.heap.size 5 i0 Tryd.underlying35 Tryd.underlying9 hi hz0 hz1 hz2 _ 2 _ rfl hown n rfl (by unfold maxLen; omega) (by omega) (by simp; omega) ?_; intro v' w' hown' hgrow _)
  go_ret2
  refine ⟨v', rfl, Byt.of_own (n := 2 + n.size) (base := w.heap.size) ?_, hB2'.grown hgrow (by simp; omega) (fun j hj => (hown.lt j hj).1)⟩
  have e : (encL n.data.toList r).map byteV = [.int .u8 r.toNat, .int .u8 n.size] ++ Lib.strCells n := by
    have e1 : (UInt8.ofNat n.data.toList.length).toNat = n.size := by
      rw [Lib.size_eq] at hl ⊢
      simp at hl ⊢
      omega
    unfold encL Lib.strCells
    simp only [List.map_cons, byteV, bits_byte, e1]
    rfl
  rw [e]
  exact hown'
theorem encode_no (n : ByteArray) (r : BitVec 8) (w : World) (hn : n.size ≤ 1000) (hR : rightB n.data.toList r.toNat = false) :
    Calls Tryd.prog 12 #[capV n r.toNat] w fun e W' => e = .returned (.tuple #[.slice none 0 0, .int .i64 3]) ∧ Below w.heap.size w W' := by
  have cR := fun w => right_any n r.toNat w (by omega)
  rw [hR] at cR
  unfold capV at cR ⊢
  go_enter Tryd.func12, Tryd.ntmps12
  go_wp2_with fail
  refine (cR _).mono ?_
  rintro e W1 ⟨rfl, hB1⟩
  rw [World.size_alloc] at hB1
  have hB1' : Below w.heap.size w W1 := ((Below.refl _ w).alloc (Nat.le_refl _) _).trans (hB1.mono (by omega))
  go_wp2
  go_ret2
  exact ⟨rfl, hB1'⟩

set_option maxHeartbeats 2000000 in
theorem decode_two (cap : Nat) (x y : UInt8) (t : List UInt8) (w : World) (g off q c2 : Nat) (hq : (¬ cap = 2 ∧ q = off + 2 ∧ c2 = cap - 2) ∨ (cap = 2 ∧ q = off ∧ c2 = 0)) (hcap : t.length + 2 ≤ cap) (hmax : cap ≤ maxLen)
    (h0 : w.cell? ⟨g, off, none⟩ = some (.int .u8 (x.toNat : Int))) (h1 : w.cell? ⟨g, off + 1, none⟩ = some (.int .u8 (y.toNat : Int)))
    (ht : Hid (∀ j b, t[j]? = some b → w.cell? ⟨g, q + j, none⟩ = some (.int .u8 (b.toNat : Int)))) :
    Calls Tryd.prog 14 #[.slice (some ⟨g, off, none⟩) (t.length + 2) cap] w fun e W' => e = .returned (capsV (if y.toNat = t.length ∧ rightB t (x.toNat : Int) = true then (t, BitVec.ofNat 8 x.toNat, (0 : Int)) else ([], 0#8, 3))) ∧ Below w.heap.size w W' := by
  have hx : x.toNat < 256 := x.toNat_lt
  have hy : y.toNat < 256 := y.toNat_lt
  have hg : g < w.heap.size := World.block_lt_of_cell? _ _ h0
  have hB0 : Below w.heap.size w (w.alloc (.cells #[.string ⟨#[]⟩, .int .u8 0] 34)) := (Below.refl _ w).alloc (Nat.le_refl _) _
  have k0 := (hB0.cell (p := ⟨g, off, none⟩) hg).trans h0
  have k1 := (hB0.cell (p := ⟨g, off + 1, none⟩) hg).trans h1
  have hz : (0 : Int) < (t.length : Int) + 2 := by omega
  by_cases hlen : y.toNat = t.length
  · have hn : t.length ≤ 255 := by omega
    have cR := fun w => right_any ⟨t.toArray⟩ x.toNat w (by show t.length ≤ 1000; omega)
    have e6 : (⟨t.toArray⟩ : ByteArray).data.toList = t := rfl
    rw [e6] at cR
    clear e6
    unfold capV at cR
    have hne : ((y.toNat : Int) != (t.length : Int) + 2 - 2) = false := by
      rw [bne_eq_false_iff_eq]
      omega
    have hS : Hid (∀ W', Below w.heap.size w W' → (W'.cell? ⟨g, off, none⟩ = some (.int .u8 (x.toNat : Int)) ∧ (convert 35 9 (.slice (some ⟨g, q, none⟩) t.length c2)).run Tryd.prog W' = .ok (.string ⟨t.toArray⟩) W') ∧ Hid (Below w.heap.size w W')) := fun W' hb =>
      ⟨⟨(hb.cell (p := ⟨g, off, none⟩) hg).trans h0, byt_text W' 35 g q c2 t Tryd.underlying35 (fun j b hj => (hb.cell (p := ⟨g, q + j, none⟩) hg).trans (ht.out j b hj))⟩, hb⟩
    cases hR : rightB t (x.toNat : Int) with
    | true =>
      rw [hR] at cR
      rw [if_pos ⟨hlen, rfl⟩]
      rcases hq with ⟨hc2, rfl, rfl⟩ | ⟨rfl, rfl, rfl⟩
      · clear hR
        go_enter Tryd.func14, Tryd.ntmps14
        go_wp2_with fail
        go_region_held3 (fun w' => (w'.cell? ⟨g, off, none⟩ = some (.int .u8 (x.toNat : Int)) ∧ (convert 35 9 (.slice (some ⟨g, off + 2, none⟩) t.length (cap - 2))).run Tryd.prog w' = .ok (.string ⟨t.toArray⟩) w') ∧ Hid (Below w.heap.size w w')) (first | exact hS.out _ hB0.drew | exact hS.out _ (hB0.alloc (by simp) _).drew) (fail)
        clear hS ht
        have hBB := (hB0.alloc (by simp) (.cells #[.string ⟨t.toArray⟩, .int .u8 (x.toNat : Int)] 34)).drew
        have hT := ((Two.new w 34 (.string ⟨#[]⟩) (.int .u8 0)).alloc (.cells #[.string ⟨t.toArray⟩, .int .u8 (x.toNat : Int)] 34)).drew
        have hC := (Two.new (w.alloc (.cells #[.string ⟨#[]⟩, .int .u8 0] 34)) 34 (.string ⟨t.toArray⟩) (.int .u8 (x.toNat : Int))).drew
        rw [World.size_alloc] at hC
        go_wp2_with fail
        refine (cR _).mono ?_
        rintro e W3 ⟨rfl, hB3⟩
        have hsz : ((w.alloc (.cells #[.string ⟨#[]⟩, .int .u8 0] 34)).alloc (.cells #[.string ⟨t.toArray⟩, .int .u8 (x.toNat : Int)] 34)).drew.heap.size = w.heap.size + 2 := by simp [World.drew]
        have hs3 := hB3.size
        rw [hsz] at hB3 hs3
        replace hT := hT.below hB3 (by omega)
        replace hC := hC.below hB3 (by omega)
        have hB3' : Below w.heap.size w W3 := hBB.trans (hB3.mono (by omega))
        clear hB3 hBB
        have a0 := hC.c0
        have a1 := hC.c1
        clear hC
        have g0 := hT.c0
        have g1 := hT.f 0
        have g2 := (hT.set0 (.string ⟨t.toArray⟩)).c1
        have g3 := (hT.set0 (.string ⟨t.toArray⟩)).f 1
        go_wp2
        have hT4 := (hT.set0 (.string ⟨t.toArray⟩)).set1 (.int .u8 (x.toNat : Int))
        exact bodyPost_ret (v := capsV (t, BitVec.ofNat 8 x.toNat, 0)) (by simp [results, Tryd.results14, go_sem, hT4.c0, hT4.c1, capsV, capV]) rfl ⟨rfl, Below.set2 hB3' (by omega) _ _⟩
      · obtain rfl : t = [] := List.eq_nil_of_length_eq_zero (by omega)
        cases hR
    | false =>
      rw [hR] at cR
      rw [if_neg (by simp)]
      clear hR
      rcases hq with ⟨hc2, rfl, rfl⟩ | ⟨rfl, rfl, rfl⟩
      · go_enter Tryd.func14, Tryd.ntmps14
        go_wp2_with fail
        go_region_held3 (fun w' => (w'.cell? ⟨g, off, none⟩ = some (.int .u8 (x.toNat : Int)) ∧ (convert 35 9 (.slice (some ⟨g, off + 2, none⟩) t.length (cap - 2))).run Tryd.prog w' = .ok (.string ⟨t.toArray⟩) w') ∧ Hid (Below w.heap.size w w')) (first | exact hS.out _ hB0.drew | exact hS.out _ (hB0.alloc (by simp) _).drew) (fail)
        clear hS ht
        have hBB := (hB0.alloc (by simp) (.cells #[.string ⟨t.toArray⟩, .int .u8 (x.toNat : Int)] 34)).drew
        have hT := ((Two.new w 34 (.string ⟨#[]⟩) (.int .u8 0)).alloc (.cells #[.string ⟨t.toArray⟩, .int .u8 (x.toNat : Int)] 34)).drew
        have hC := (Two.new (w.alloc (.cells #[.string ⟨#[]⟩, .int .u8 0] 34)) 34 (.string ⟨t.toArray⟩) (.int .u8 (x.toNat : Int))).drew
        rw [World.size_alloc] at hC
        go_wp2_with fail
        refine (cR _).mono ?_
        rintro e W3 ⟨rfl, hB3⟩
        have hsz : ((w.alloc (.cells #[.string ⟨#[]⟩, .int .u8 0] 34)).alloc (.cells #[.string ⟨t.toArray⟩, .int .u8 (x.toNat : Int)] 34)).drew.heap.size = w.heap.size + 2 := by simp [World.drew]
        have hs3 := hB3.size
        rw [hsz] at hB3 hs3
        replace hT := hT.below hB3 (by omega)
        replace hC := hC.below hB3 (by omega)
        have hB3' : Below w.heap.size w W3 := hBB.trans (hB3.mono (by omega))
        clear hB3 hBB
        clear hC
        have g0 := hT.c0
        have g1 := hT.f 0
        have g2 := (hT.set0 (.string ⟨#[]⟩)).c1
        have g3 := (hT.set0 (.string ⟨#[]⟩)).f 1
        go_wp2
        have hT4 := (hT.set0 (.string ⟨#[]⟩)).set1 (.int .u8 0)
        exact bodyPost_ret (v := capsV ([], 0#8, 3)) (by simp [results, Tryd.results14, go_sem, hT4.c0, hT4.c1, capsV, capV]) rfl ⟨rfl, Below.set2 hB3' (by omega) _ _⟩
      · obtain rfl : t = [] := List.eq_nil_of_length_eq_zero (by omega)
        replace hS := hS.out
        have hS : Hid (∀ W', Below w.heap.size w W' → (W'.cell? ⟨g, q, none⟩ = some (.int .u8 (x.toNat : Int)) ∧ (convert 35 9 (.slice (some ⟨g, q, none⟩) 0 0)).run Tryd.prog W' = .ok (.string ⟨#[]⟩) W') ∧ Hid (Below w.heap.size w W')) := hS
        go_enter Tryd.func14, Tryd.ntmps14
        go_wp2_with fail
        go_region_held3 (fun w' => (w'.cell? ⟨g, q, none⟩ = some (.int .u8 (x.toNat : Int)) ∧ (convert 35 9 (.slice (some ⟨g, q, none⟩) 0 0)).run Tryd.prog w' = .ok (.string ⟨#[]⟩) w') ∧ Hid (Below w.heap.size w w')) (first | exact hS.out _ hB0.drew | exact hS.out _ (hB0.alloc (by simp) _).drew) (fail)
        clear hS ht
        have hBB := (hB0.alloc (by simp) (.cells #[.string ⟨#[]⟩, .int .u8 (x.toNat : Int)] 34)).drew
        have hT := ((Two.new w 34 (.string ⟨#[]⟩) (.int .u8 0)).alloc (.cells #[.string ⟨#[]⟩, .int .u8 (x.toNat : Int)] 34)).drew
        have hC := (Two.new (w.alloc (.cells #[.string ⟨#[]⟩, .int .u8 0] 34)) 34 (.string ⟨#[]⟩) (.int .u8 (x.toNat : Int))).drew
        rw [World.size_alloc] at hC
        go_wp2_with fail
        refine (cR _).mono ?_
        rintro e W3 ⟨rfl, hB3⟩
        have hsz : ((w.alloc (.cells #[.string ⟨#[]⟩, .int .u8 0] 34)).alloc (.cells #[.string ⟨#[]⟩, .int .u8 (x.toNat : Int)] 34)).drew.heap.size = w.heap.size + 2 := by simp [World.drew]
        have hs3 := hB3.size
        rw [hsz] at hB3 hs3
        replace hT := hT.below hB3 (by omega)
        replace hC := hC.below hB3 (by omega)
        have hB3' : Below w.heap.size w W3 := hBB.trans (hB3.mono (by omega))
        clear hB3 hBB
        clear hC
        have g0 := hT.c0
        have g1 := hT.f 0
        have g2 := (hT.set0 (.string ⟨#[]⟩)).c1
        have g3 := (hT.set0 (.string ⟨#[]⟩)).f 1
        go_wp2
        have hT4 := (hT.set0 (.string ⟨#[]⟩)).set1 (.int .u8 0)
        exact bodyPost_ret (v := capsV ([], 0#8, 3)) (by simp [results, Tryd.results14, go_sem, hT4.c0, hT4.c1, capsV, capV]) rfl ⟨rfl, Below.set2 hB3' (by omega) _ _⟩
  · have hne : ((y.toNat : Int) != (t.length : Int)) = true := by
      rw [bne_iff_ne]
      omega
    have hbig : (t.length : Int) ≤ 9223372036854775807 := by unfold maxLen at hmax; omega
    rw [if_neg (fun h => hlen h.1)]
    clear hlen ht hq
    have hT := Two.new w 34 (.string ⟨#[]⟩) (.int .u8 0)
    have g0 := hT.c0
    have g1 := hT.f 0
    have g2 := (hT.set0 (.string ⟨#[]⟩)).c1
    have g3 := (hT.set0 (.string ⟨#[]⟩)).f 1
    go_enter Tryd.func14, Tryd.ntmps14
    go_wp2
    exact bodyPost_ret (v := capsV ([], 0#8, 3)) (by simp [results, Tryd.results14, go_sem, capsV, capV]) rfl ⟨rfl, (Below.refl _ w).alloc (Nat.le_refl _) _⟩
theorem decode_short (ao : Option Addr) (n cap : Nat) (hn : n < 2) (w : World) :
    Calls Tryd.prog 14 #[.slice ao n cap] w fun e W' => e = .returned (capsV ([], 0#8, 3)) ∧ Below w.heap.size w W' := by
  have hn' : (n : Int) < 2 := by omega
  have hT := Two.new w 34 (.string ⟨#[]⟩) (.int .u8 0)
  have g0 := hT.c0
  have g1 := hT.f 0
  have g2 := (hT.set0 (.string ⟨#[]⟩)).c1
  have g3 := (hT.set0 (.string ⟨#[]⟩)).f 1
  go_enter Tryd.func14, Tryd.ntmps14
  go_wp2
  exact bodyPost_ret (v := capsV ([], 0#8, 3)) (by simp [results, Tryd.results14, go_sem, capsV, capV]) rfl ⟨rfl, (Below.refl _ w).alloc (Nat.le_refl _) _⟩
theorem decode_any (v : Value) (bs : List UInt8) (w : World) (h : Byt w v bs) :
    Calls Tryd.prog 14 #[v] w fun e W' => e = .returned (capsV (decodeO bs)) ∧ Below w.heap.size w W' := by
  obtain ⟨a, cap, rfl, hcap, hm, hc⟩ := h
  match bs, hcap, hc with
  | [], _, _ => exact decode_short a 0 cap (by omega) w
  | [_], _, _ => exact decode_short a 1 cap (by omega) w
  | x :: y :: t, hcap, hc =>
    obtain ⟨g, off, rfl, h0⟩ := hc 0 x rfl
    have hc' : ∀ j z, (x :: y :: t)[j]? = some z → w.cell? ⟨g, off + j, none⟩ = some (.int .u8 (z.toNat : Int)) := fun j z hz => by
      obtain ⟨g', off', e, h⟩ := hc j z hz
      cases e
      exact h
    simp only [List.length_cons] at hcap
    by_cases h2 : cap = 2
    · exact decode_two cap x y t w g off off 0 (.inr ⟨h2, rfl, rfl⟩) (by omega) hm h0 (hc' 1 y rfl) (fun j b hb => by
        have : j < t.length := (List.getElem?_eq_some_iff.1 hb).1
        omega)
    · exact decode_two cap x y t w g off (off + 2) (cap - 2) (.inl ⟨h2, rfl, rfl⟩) (by omega) hm h0 (hc' 1 y rfl) (fun j b hb => by
        have := hc' (j + 2) b (by simpa using hb)
        rwa [show off + (j + 2) = off + 2 + j by omega] at this)
end Go.Proofs.YtjocjjclgebfnaaDoor
