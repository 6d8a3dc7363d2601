/- A memory: what is out of range, a word, a frame that is zeroed or copied, a frame's bytes. -/
import Derived.Test.YtdmahmolhdbegaaMemD
import Derived.Test.YtdmahmolhdbegaaWords
namespace Go.Proofs.Ytdmahmolhdbegaa
open Go.RowKit Go.Maps
set_option linter.unusedVariables false
set_option maxRecDepth 100000
set_option maxHeartbeats 1000000 in
theorem cut_out (b : Nat) (n f o m : Int) (L : List Int) (w : World) (h : Mem w b n L) (hm : 0 ≤ m ∧ m ≤ 32) (hr : f < 0 ∨ n ≤ f ∨ o < 0 ∨ 32 - m < o) : Calls Try.prog 31 #[.pointer (some ⟨b, 0, none⟩), .int .i64 f, .int .i64 o, .int .i64 m] w fun e w' => e = .returned (.tuple #[.slice none 0 0, .int .i64 2]) ∧ w' = w := by
  by_cases hf : f < 0 ∨ n ≤ f
  · have c1 := there_out b n L f w h hf
    go_enter Try.func31, Try.ntmps31
    go_wp2_with fail
    refine c1.mono ?_
    rintro e W1 ⟨rfl, rfl⟩
    go_wp2
    go_ret2
    exact ⟨rfl, rfl⟩
  · have c1 := there_ok b n L f w h (by omega) (by omega)
    have ho : o < 0 ∨ 32 - m < o := by omega
    clear hf hr
    go_enter Try.func31, Try.ntmps31
    go_wp2_with fail
    refine c1.mono ?_
    rintro e W1 ⟨rfl, rfl⟩
    by_cases h0 : o < 0
    · go_wp2
      go_ret2
      exact ⟨rfl, rfl⟩
    · have h1 : 32 - m < o := by omega
      go_wp2
      go_ret2
      exact ⟨rfl, rfl⟩
set_option maxHeartbeats 1000000 in
theorem byte_out (b : Nat) (n f o : Int) (L : List Int) (w : World) (h : Mem w b n L) (hr : f < 0 ∨ n ≤ f ∨ o < 0 ∨ 32 - 1 < o) : Calls Try.prog 14 #[.pointer (some ⟨b, 0, none⟩), .int .i64 f, .int .i64 o] w fun e w' => e = .returned (.tuple #[.int .u8 0, .int .i64 2]) ∧ w' = w := by
  have c1 := cut_out b n f o 1 L w h (by decide) hr
  clear hr
  go_enter Try.func14, Try.ntmps14
  go_wp2_with fail
  refine c1.mono ?_
  rintro e W1 ⟨rfl, rfl⟩
  go_wp2
  go_ret2
  exact ⟨rfl, rfl⟩
set_option maxHeartbeats 1000000 in
theorem setbyte_out (b : Nat) (n f o x : Int) (L : List Int) (w : World) (h : Mem w b n L) (hr : f < 0 ∨ n ≤ f ∨ o < 0 ∨ 32 - 1 < o) : Calls Try.prog 36 #[.pointer (some ⟨b, 0, none⟩), .int .i64 f, .int .i64 o, .int .u8 x] w fun e w' => e = .returned (.int .i64 2) ∧ w' = w := by
  have c1 := cut_out b n f o 1 L w h (by decide) hr
  clear hr
  go_enter Try.func36, Try.ntmps36
  go_wp2_with fail
  refine c1.mono ?_
  rintro e W1 ⟨rfl, rfl⟩
  go_wp2
  go_ret
  exact ⟨rfl, rfl⟩
structure Hid3 (p : Prop) : Prop where
  out : p
theorem Mem.there {w : World} {b : Nat} {n : Int} {L : List Int} (h : Mem w b n L) (k m : Nat) (hk : k + m ≤ 2048) : w.there b (1 + k) m := fun j hj => by
  have := h.byte (k + j) (by omega)
  rw [Nat.add_assoc, this]
  exact ⟨rfl, h.free _⟩
theorem Only.cells (b : Nat) : ∀ (w : World) (o : Nat) (vs : List Value), Only b w (w.setCells b o vs)
  | w, o, [] => Only.refl b w
  | w, o, v :: vs => (Only.set1 w ⟨b, o, none⟩ v).trans (Only.cells b (w.setCell ⟨b, o, none⟩ v) (o + 1) vs)
theorem Mem.setRow {w : World} {b : Nat} {n : Int} : ∀ {L : List Int} (h : Mem w b n L) (k : Nat) (vs : List Int) (hk : k + vs.length ≤ 2048), Mem (w.setCells b (1 + k) (vs.map (Value.int .u8)).toArray.toList) b n (putL L k vs) := by
  intro L h k vs hk
  induction vs generalizing w L k with
  | nil => rw [putL_nil]; exact h
  | cons x r ih =>
    have hk1 : k + (r.length + 1) ≤ 2048 := hk
    have h1 := h.set1 k (by omega) x
    have h2 := ih h1 (k + 1) (by omega)
    have e := putL_putL (L := L) (u := [x]) (v := r) (k := k) (by rw [h.len]; simp; omega)
    simp only [List.length_singleton, List.singleton_append] at e
    rw [e] at h2
    exact h2
theorem mids (Z : List Int) : (Z.map (Value.int .u8)).toArray.all (·.oneCell') = true := all_oneCell_toArray (fun v hv => by obtain ⟨x, _, rfl⟩ := List.mem_map.1 hv; rfl)
theorem Mem.range {w : World} {b : Nat} {n : Int} {L : List Int} (h : Mem w b n L) (k m : Nat) (hk : k + m ≤ 2048) : w.rangeAt b (1 + k) (((L.drop k).take m).map (Value.int .u8)) := by
  intro j v hv
  rw [List.getElem?_map, List.getElem?_take] at hv
  split at hv
  · rename_i hj
    rw [List.getElem?_drop] at hv
    have h2 : k + j < L.length := by rw [h.len]; omega
    have h3 := h.byte (k + j) (by omega)
    rw [List.getElem?_eq_getElem h2] at hv
    simp only [Option.map_some, Option.some.injEq] at hv
    rw [Nat.add_assoc, h3, ← hv, List.getD_eq_getElem?_getD, List.getElem?_eq_getElem h2]
    rfl
  · cases hv
set_option maxHeartbeats 1000000 in
theorem frame_ok (b f : Nat) (n : Int) (L : List Int) (w : World) (h : Mem w b n L) (h1 : (f : Int) < n) : Calls Try.prog 41 #[.pointer (some ⟨b, 0, none⟩), .int .i64 f] w fun e w' => e = .returned (.tuple #[.slice (some ⟨w.heap.size, 0, none⟩) 32 32, .int .i64 0]) ∧ w'.heap[w.heap.size]? = some (.cells (((L.drop (f * 32)).take 32).map (Value.int .u8)).toArray 75) ∧ Below w.heap.size w w' := by
  have c1 := there_ok b n L f w h (by omega) h1
  have hhi := h.hi
  have hf : (f : Int) < 64 := by omega
  have hz := (zero_of_info con_zero).1
  have hr := h.range (f * 32) 32 (by omega)
  have HL : Hid3 (((L.drop (f * 32)).take 32).length = 32) := ⟨by rw [List.length_take, List.length_drop, h.len]; omega⟩
  generalize (L.drop (f * 32)).take 32 = F at *
  have HF : Hid3 ((F.map (Value.int .u8)).length = 32) := ⟨by rw [List.length_map]; exact HL.out⟩
  have HF2 : Hid3 ((F.map (Value.int .u8)).toArray.size = 32) := ⟨by rw [List.size_toArray]; exact HF.out⟩
  obtain ⟨Z, hZ⟩ : ∃ Z : List Value, Z = List.replicate 32 (Value.int .u8 0) := ⟨_, rfl⟩
  rw [← hZ] at hz
  have HZ : Hid3 (Z.toArray.size = 32) := ⟨by rw [hZ]; simp⟩
  clear hZ
  have hnew := heap_alloc_last w (.cells Z.toArray 75)
  have hB : Below w.heap.size w (w.alloc (.cells Z.toArray 75)) := (Below.refl _ w).alloc (Nat.le_refl _) _
  have hsl := fun W => slice_con w.heap.size 0 0 32 32 (by decide) (by decide) (by decide) (by decide) W
  rw [show ((32 : Nat) : Int) = 32 from rfl, show ((0 : Nat) : Int) = 0 from rfl] at hsl
  go_enter Try.func41, Try.ntmps41
  go_wp2_with fail
  refine c1.mono ?_
  rintro e W1 ⟨rfl, rfl⟩
  clear c1
  go_wp2_with (first | (refine wpList_load_mid rfl _ _ rfl b (1 + f * 32) rfl (F.map (Value.int .u8)) _ hr Try.underlying75 rfl (by rw [HF.out]; exact con_size) ?_) | (refine wpList_store_row rfl _ _ _ rfl W1.heap.size (F.map (Value.int .u8)).toArray rfl rfl _ Z.toArray hnew (by rw [HF2.out]; exact con_size) (by rw [HF2.out]; exact HZ.out) (mids F) ?_))
  go_ret2
  exact ⟨rfl, setRow_heap _ _ _ _ _ _ hnew, below_setRow hB (Nat.le_refl _) _⟩
end Go.Proofs.Ytdmahmolhdbegaa
