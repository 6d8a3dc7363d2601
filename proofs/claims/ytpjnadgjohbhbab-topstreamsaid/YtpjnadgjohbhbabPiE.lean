/- The program's ring: its first bytes. -/
import Derived.Test.YtpjnadgjohbhbabPiD
namespace Go.Proofs.Ytpjnadgjohbhbab
open Go.RowKit Go.Maps
set_option linter.unusedVariables false
set_option maxRecDepth 100000
theorem made_any (K : Nat) (hK : K ≤ 2048) (W : World) : (Instr.makeSlice 45 (.int .i64 K) (.int .i64 K)).run Try.prog W = .ok (.slice (some ⟨W.heap.size, 0, none⟩) K K) (W.alloc (.cells (bCs (List.replicate K 0)).toArray 5)) := by
  obtain ⟨i, hi, hz, hs, hb⟩ := info_parts infoU8z
  rw [run_make W 45 5 i (.int .u8 0) Try.underlying45 hi hz .i64 .i64 K K (by omega) (Int.le_refl _) (by rw [hb]; omega) (by omega), hs]
  simp only [Int.toNat_natCast, Nat.mul_one]
  have e : madeCells (Value.int .u8 0).cells K = (bCs (List.replicate K 0)).toArray := by
    apply Array.ext'
    rw [show (Value.int .u8 0).cells = #[Value.int .u8 0] from rfl, toList_madeCells_one]
    show _ = bCs (List.replicate K 0)
    unfold bCs
    rw [List.map_replicate]
    rfl
  rw [e]
theorem Addr.plus (b o j : Nat) : (⟨b, o, none⟩ : Addr).add j = ⟨b, o + j, none⟩ := by unfold Addr.add; split <;> simp_all
theorem run_get (W : World) (g b : Nat) (X : List UInt8) (hg : Cl W g 5 (bCs X)) (C : List UInt8) (f m rd wr : Nat) (h : Cl W b 37 (piCs C f m rd wr)) (hc : C.length = 24) (o dLen dCap a sLen sCap n : Nat) (hn : n = min sLen dLen) (ha : a + n ≤ 24) (ho : o + n ≤ X.length) (ty : TypeId) :
    (Builtin.copy_ #[45, 45] ty #[.slice (some ⟨g, o, none⟩) dLen dCap, .slice (some ⟨b, a, none⟩) sLen sCap]).run Try.prog W = .ok (.int .i64 (n : Int)) (W.setRow g (bCs (X.take o ++ (C.drop a).take n ++ X.drop (o + n))).toArray) := by
  have hl : (bCs ((C.drop a).take n)).length = n := by rw [bCs_length, List.length_take, List.length_drop]; omega
  have e := run_copy_row (P := Try.prog) W 45 45 ty 5 g o dLen dCap ⟨b, a, none⟩ sLen sCap (bCs X).toArray 5 (bCs ((C.drop a).take n)) Try.underlying45 infoU8 hg (by rw [hl]; exact hn) (fun j v hv => by
    rw [Addr.plus, h.cell]
    have hj : j < n := by
      have := (List.getElem?_eq_some_iff.1 hv).1
      rw [hl] at this
      exact this
    rw [piCs_byte C f m rd wr hc _ (by omega)]
    rw [bCs_get, List.getElem?_take, if_pos hj, List.getElem?_drop] at hv
    exact hv) (by rw [hl]; simpa [bCs_length] using ho) (bCs_one _)
  rw [e, hl]
  have e2 : (bCs X).toArray.toList.take o ++ bCs ((C.drop a).take n) ++ (bCs X).toArray.toList.drop (o + n) = bCs (X.take o ++ (C.drop a).take n ++ X.drop (o + n)) := by
    unfold bCs
    simp only [List.map_append, List.map_take, List.map_drop]
  rw [e2]
  rfl
theorem run_get_none (W : World) (d a : Option Addr) (dCap sLen sCap : Nat) (ty : TypeId) :
    (Builtin.copy_ #[45, 45] ty #[.slice d 0 dCap, .slice a sLen sCap]).run Try.prog W = .ok (.int .i64 0) W :=
  run_copy_none (P := Try.prog) W 45 45 ty 5 d a 0 dCap sLen sCap Try.underlying45 infoU8 (Nat.min_zero _)
theorem run_text (W : World) (g : Nat) (X : List UInt8) (hg : Cl W g 5 (bCs X)) (cap : Nat) : (convert 45 9 (.slice (some ⟨g, 0, none⟩) X.length cap)).run Try.prog W = .ok (.string ⟨X.toArray⟩) W :=
  run_convert_bytes_back W 45 9 5 ⟨g, 0, none⟩ cap X Try.underlying45 Try.underlying5 Try.underlying9 (fun j hj => by
    rw [Addr.plus, hg.cell, Nat.zero_add, bCs_get, List.getElem?_eq_getElem hj]
    rfl)
theorem below_row {w W : World} (g : Nat) (d : Array Value) (h : Below w.heap.size w W) (hg : w.heap.size ≤ g) : Below w.heap.size w (W.setRow g d) := ⟨h.os, h.tape, h.output, by simpa [World.setRow] using h.size, fun k hk => (setRow_other W g k d (by omega)).trans (h.block k hk)⟩
theorem below_drew {B : Nat} {w W : World} (h : Below B w W) : Below B w W.drew := ⟨h.os, h.tape, h.output, h.size, h.block⟩
theorem first_lists (C : List UInt8) (f k n : Nat) (hc : C.length = 24) (hf : f < 24) (hk : k ≤ 24) (hn : n = min (24 - f) k) (X : List UInt8) (hX : X.length = k) :
    (X.take 0 ++ (C.drop f).take n ++ X.drop (0 + n)).take n ++ (C.drop 0).take (k - n) ++ (X.take 0 ++ (C.drop f).take n ++ X.drop (0 + n)).drop (n + (k - n)) = firstK C f k := by
  have hl : ((C.drop f).take n).length = n := by rw [List.length_take, List.length_drop]; omega
  have e1 : X.take 0 ++ (C.drop f).take n ++ X.drop (0 + n) = (C.drop f).take n ++ X.drop n := by simp
  have hl2 : ((C.drop f).take n ++ X.drop n).length = k := by rw [List.length_append, hl, List.length_drop]; omega
  have e2 : ((C.drop f).take n ++ X.drop n).drop (n + (k - n)) = [] := List.drop_of_length_le (by omega)
  have e3 : ((C.drop f).take n ++ X.drop n).take n = (C.drop f).take n := by
    rw [List.take_append_of_le_length (by omega), List.take_take, Nat.min_self]
  rw [e1, e2, e3, List.append_nil, List.drop_zero]
  unfold firstK
  by_cases h : k ≤ 24 - f
  · rw [List.take_append_of_le_length (by rw [List.length_drop]; omega), show n = k by omega, Nat.sub_self, List.take_zero, List.append_nil]
  · rw [List.take_append, List.length_drop, hc, List.take_of_length_le (i := k) (by rw [List.length_drop]; omega), List.take_of_length_le (i := n) (by rw [List.length_drop]; omega), show n = 24 - f by omega]
set_option maxHeartbeats 4000000 in
theorem first_cells (b : Nat) (C : List UInt8) (f m rd wr k : Nat) (hc : C.length = 24) (hf : f < 24) (hk : k ≤ 24) (w : World) (h : Cl w b 37 (piCs C f m rd wr)) : Calls Try.prog 11 #[.pointer (some ⟨b, 0, none⟩), .int .i64 k] w fun r w' => r = .returned (.string ⟨(firstK C f k).toArray⟩) ∧ Below w.heap.size w w' := by
  have hmk := made_any k (by omega) w
  obtain ⟨n, hn⟩ : ∃ n : Nat, n = min (24 - f) k := ⟨_, rfl⟩
  have hX : (List.replicate k (0 : UInt8)).length = k := List.length_replicate
  have hF := first_lists C f k n hc hf hk hn (List.replicate k 0) hX
  have hg0 : Cl (w.alloc (.cells (bCs (List.replicate k 0)).toArray 5)) w.heap.size 5 (bCs (List.replicate k 0)) := heap_alloc_new _ _
  have hp0 := h.alloc (.cells (bCs (List.replicate k 0)).toArray 5)
  have hb0 := below_new w (.cells (bCs (List.replicate k 0)).toArray 5)
  have hne : b ≠ w.heap.size := by have := h.lt; omega
  have HLT := Hid3.mk h.lt
  generalize w.alloc (.cells (bCs (List.replicate k 0)).toArray 5) = W0 at *
  generalize List.replicate k (0 : UInt8) = X at *
  have r1 := run_get W0.drew w.heap.size b X hg0.drew C f m rd wr hp0.drew hc 0 k k f (24 - f) (24 - f) n hn (by omega) (by omega)
  have c24 : W0.cell? ⟨b, 24, none⟩ = some (.int .i64 f) := (hp0.cell 24).trans (piCs_at C f m rd wr hc).1
  have hg1 := hg0.drew.row (bCs (X.take 0 ++ (C.drop f).take n ++ X.drop (0 + n)))
  have hp1 := hp0.drew.stay (Apart.row W0.drew w.heap.size (bCs (X.take 0 ++ (C.drop f).take n ++ X.drop (0 + n))).toArray) hne
  have hb1 := below_row w.heap.size (bCs (X.take 0 ++ (C.drop f).take n ++ X.drop (0 + n))).toArray (below_drew hb0) (Nat.le_refl _)
  have hX1 : (X.take 0 ++ (C.drop f).take n ++ X.drop (0 + n)).length = k := by
    simp only [List.length_append, List.length_take, List.length_drop]
    omega
  generalize W0.drew.setRow w.heap.size (bCs (X.take 0 ++ (C.drop f).take n ++ X.drop (0 + n))).toArray = W1 at *
  generalize X.take 0 ++ (C.drop f).take n ++ X.drop (0 + n) = X1 at *
  have hf0 : (f : Int) ≤ 24 := by omega
  have hnk : n ≤ k := by omega
  by_cases hcs : n = k
  · subst hcs
    have r2 := fun ty => run_get_none W1.drew (some ⟨w.heap.size, 0, none⟩) (some ⟨b, 0, none⟩) 0 24 24 ty
    have e : X1 = firstK C f n := by
      rw [← hF, Nat.sub_self, List.take_zero, List.append_nil, List.take_of_length_le (by omega), List.drop_of_length_le (by omega), List.append_nil]
    have r3 := run_text W1.drew w.heap.size X1 hg1.drew n
    rw [hX1, e] at r3
    have HB := Hid3.mk (below_drew hb1)
    have HN := Hid3.mk hn
    clear hF hg0 hp0 hb0 hg1 hp1 hb1 hX1 hX e h hn
    go_enter Try.func11, Try.ntmps11
    go_wp2
    go_region
    go_wp2
    go_region
    go_wp2
    go_ret
    exact ⟨rfl, HB.out⟩
  · have r2 := run_get W1.drew w.heap.size b X1 hg1.drew C f m rd wr hp1.drew hc n (k - n) (k - n) 0 24 24 (k - n) (by omega) (by omega) (by omega)
    rw [hF] at r2
    have hl : (firstK C f k).length = k := by unfold firstK; simp only [List.length_take, List.length_append, List.length_drop]; omega
    have hg2 := hg1.drew.row (bCs (firstK C f k))
    have hb2 := below_row w.heap.size (bCs (firstK C f k)).toArray (below_drew hb1) (Nat.le_refl _)
    have r3 := run_text _ w.heap.size (firstK C f k) hg2 k
    rw [hl] at r3
    generalize W1.drew.setRow w.heap.size (bCs (firstK C f k)).toArray = W2 at *
    have HB := Hid3.mk hb2
    have HN := Hid3.mk hn
    have hz : k - n ≠ 0 := by omega
    clear hF hg0 hp0 hb0 hg1 hp1 hb1 hX1 hX h hn hg2 hb2 hl
    go_enter Try.func11, Try.ntmps11
    go_wp2
    go_region
    go_wp2
    go_region
    go_wp2
    go_ret
    exact ⟨rfl, HB.out⟩
theorem first_any (B b : Nat) (T : List UInt8) (rd wr k : Nat) (hk : k ≤ T.length) (w : World) (h : Pp B w b T rd wr) : Calls Try.prog 11 #[.pointer (some ⟨b, 0, none⟩), .int .i64 k] w fun r w' => r = .returned (.string ⟨(T.take k).toArray⟩) ∧ Below w.heap.size w w' := by
  obtain ⟨C, f, h1, h2⟩ := h.ex
  have ht := h2.ht
  rw [← h2.first k hk]
  exact first_cells b C f T.length rd wr k h2.hc h2.hf (by omega) w h1
end Go.Proofs.Ytpjnadgjohbhbab
