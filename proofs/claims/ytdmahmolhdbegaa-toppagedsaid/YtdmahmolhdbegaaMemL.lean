/- Memories: a frame's bytes as a text, both; is it clean; a fork of the document's. -/
import Derived.Test.YtdmahmolhdbegaaMemK
namespace Go.Proofs.Ytdmahmolhdbegaa
open Go.RowKit Go.Maps
set_option linter.unusedVariables false
set_option maxRecDepth 100000
/-- A slice's text, in every world from here on. -/
def Txt (w : World) (v : Value) (S : ByteArray) : Prop := ∀ W, Below w.heap.size w W → (convert 32 9 v).run Try.prog W = .ok (.string S) W
theorem Txt.below {w w' : World} {v : Value} {S : ByteArray} (h : Txt w v S) (k : Below w.heap.size w w') : Txt w' v S := fun W hW => h W (k.trans (hW.mono k.size))
theorem Txt.nil (w : World) : Txt w (.slice none 0 0) ByteArray.empty := fun W _ => run_convert_bytes_nil W 32 5 Try.underlying32 Try.underlying5 0 0 9 Try.underlying9
theorem Txt.of_cells (w : World) (g off n cap : Nat) (xs : List Int) (hn : xs.length = n) (hc : ∀ i, i < n → w.cell? ⟨g, off + i, none⟩ = some (.int .u8 (xs.getD i 0))) : Txt w (.slice (some ⟨g, off, none⟩) n cap) (strOfNums xs) := fun W hW =>
  run_convert_bytes_arg W 32 5 Try.underlying32 Try.underlying5 g off n cap xs hn (fun i hi => by
    rw [World.cell?_of_block (w := w) (hW.block g (World.block_lt_of_cell? w _ (hc i hi)))]
    exact hc i hi) 9 Try.underlying9
theorem Txt.of_own {w : World} {B n : Nat} {v : Value} {xs : List Int} (h : w.ownsRow B 5 1 v n (xs.map (Value.int .u8))) : Txt w v (strOfNums xs) := by
  have hn : n = xs.length := by have := h.1; simpa using this.symm
  subst hn
  rcases h.2 with ⟨rfl, h0⟩ | ⟨g, cap, cur, rfl, _, hb, hk, _, _, htk⟩
  · obtain rfl : xs = [] := List.eq_nil_of_length_eq_zero h0
    exact Txt.nil w
  · exact Txt.of_cells w g 0 xs.length cap xs rfl (fun i hi => by
      have h1 : (List.take (xs.length * 1) cur.toList)[i]? = some (.int .u8 (xs.getD i 0)) := by
        rw [htk, List.getElem?_map, List.getD_eq_getElem?_getD, List.getElem?_eq_getElem hi]
        rfl
      rw [List.getElem?_take, if_pos (by omega)] at h1
      simp only [Nat.zero_add, World.cell?, hb]
      simpa using h1)
theorem str_inj {xs ys : List Int} (hx : ∀ x ∈ xs, 0 ≤ x ∧ x ≤ 255) (hy : ∀ x ∈ ys, 0 ≤ x ∧ x ≤ 255) (h : (strOfNums xs).data.toList = (strOfNums ys).data.toList) : xs = ys := by
  have h2 : xs.map (fun n => UInt8.ofNat n.toNat) = ys.map (fun n => UInt8.ofNat n.toNat) := by rw [← strOfNums_data, ← strOfNums_data, h]
  have hl : xs.length = ys.length := by have := congrArg List.length h2; simpa using this
  refine List.ext_getElem hl fun i h3 h4 => ?_
  have h5 : (xs.map (fun n => UInt8.ofNat n.toNat))[i]? = (ys.map (fun n => UInt8.ofNat n.toNat))[i]? := by rw [h2]
  rw [List.getElem?_map, List.getElem?_map, List.getElem?_eq_getElem h3, List.getElem?_eq_getElem h4] at h5
  simp only [Option.map_some, Option.some.injEq] at h5
  have b1 := hx _ (List.getElem_mem h3)
  have b2 := hy _ (List.getElem_mem h4)
  have h6 := congrArg UInt8.toNat h5
  simp only [UInt8.toNat_ofNat'] at h6
  omega
def fT (L : List Int) (n i : Int) : ByteArray := if inB n i 0 1 = true then strOfNums (frL L i.toNat) else ByteArray.empty
theorem frL_get {L : List Int} {f i : Nat} (hi : i < 32) : (frL L f).getD i 0 = L.getD (f * 32 + i) 0 := by
  rw [frL, List.getD_eq_getElem?_getD, List.getD_eq_getElem?_getD, List.getElem?_take, if_pos hi, List.getElem?_drop]
theorem frL_bytes {L : List Int} {f : Nat} (h : ∀ x ∈ L, 0 ≤ x ∧ x ≤ 255) : ∀ x ∈ frL L f, 0 ≤ x ∧ x ≤ 255 := fun x hx => h x (List.mem_of_mem_drop (List.mem_of_mem_take hx))
theorem zeros_bytes : ∀ x ∈ zeros, 0 ≤ x ∧ x ≤ 255 := fun x hx => by
  unfold zeros at hx
  rw [List.eq_of_mem_replicate hx]
  decide
theorem own_below {w w' : World} {B n : Nat} {t : TypeId} {v : Value} {xs : List Value} (h : w.ownsRow B t 1 v n xs) (k : Below w.heap.size w w') : w'.ownsRow B t 1 v n xs := by
  refine ⟨h.1, ?_⟩
  rcases h.2 with h0 | ⟨g, cap, cur, h1, h2, h3, h4⟩
  · exact .inl h0
  · exact .inr ⟨g, cap, cur, h1, h2, (k.block g (Array.getElem?_eq_some_iff.1 h3).1).trans h3, h4⟩
set_option maxHeartbeats 1000000 in
theorem frame_any (b : Nat) (n f : Int) (L : List Int) (w : World) (h : Mem w b n L) : Calls Try.prog 41 #[.pointer (some ⟨b, 0, none⟩), .int .i64 f] w fun e w' => (∃ v, e = .returned (.tuple #[v, .int .i64 (inE n f 0 1)]) ∧ Txt w' v (fT L n f)) ∧ Below w.heap.size w w' := by
  unfold inE fT
  have hhi := h.hi
  by_cases q : inB n f 0 1 = true
  · rw [if_pos q, if_pos q]
    have hi := inB_t q
    obtain ⟨f, rfl⟩ := Int.eq_ofNat_of_zero_le hi.1
    refine (frame_ok b f n L w h hi.2.1).mono ?_
    rintro e w' ⟨rfl, hblk, hB⟩
    refine ⟨⟨_, rfl, ?_⟩, hB⟩
    rw [Int.toNat_natCast]
    refine Txt.of_cells w' w.heap.size 0 32 32 (frL L f) (frL_len h.len (by omega)) (fun i hi2 => ?_)
    rw [Nat.zero_add, cell_of_row w' _ i _ _ _ hblk, List.getElem?_toArray, List.getElem?_map]
    have h3 : i < (frL L f).length := by rw [frL_len h.len (by omega)]; exact hi2
    show ((frL L f)[i]?).map _ = _
    rw [List.getD_eq_getElem?_getD, List.getElem?_eq_getElem h3]
    rfl
  · rw [if_neg q, if_neg q]
    have c1 := there_out b n L f w h (by have := inB_f q; omega)
    clear q h
    go_enter Try.func41, Try.ntmps41
    go_wp2_with fail
    refine c1.mono ?_
    rintro e W1 ⟨rfl, rfl⟩
    go_wp2
    go_ret2
    exact ⟨⟨_, rfl, Txt.nil _⟩, Below.refl _ _⟩
def clB (L : List Int) (n f : Int) : Bool := inB n f 0 1 && decide (frL L f.toNat = zeros)
def smO (L : List Int) (N : Nat) (f : Int) : List Int := if inB N f 0 1 = true then smL L f.toNat N else []
theorem smO_len (L : List Int) (N : Nat) (f : Int) : (smO L N f).length ≤ N := by
  unfold smO
  split
  · exact smL_len L _ N
  · exact Nat.zero_le _
theorem own_nil8 (w : World) (B : Nat) (hB : B ≤ w.heap.size) : (w.alloc (.cells #[] 5)).ownsRow B 5 1 (.slice (some ⟨w.heap.size, 0, none⟩) 0 0) 0 [] :=
  ⟨rfl, .inr ⟨w.heap.size, 0, #[], rfl, hB, heap_alloc_last w _, Nat.le_refl _, Nat.zero_le _, rfl, rfl⟩⟩
theorem map_one (xs : List Int) : ∀ v ∈ xs.map (Value.int .u8), v.oneCell' = true := mids' xs
set_option maxHeartbeats 2000000 in
theorem rframe_any (rb g K N : Nat) (f : Int) (L : List Int) (w : World) (h : RMem w rb g K L) (hK : K = 32 * N) : Calls Try.prog 42 #[.pointer (some ⟨rb, 0, none⟩), .int .i64 f] w fun e w' => (∃ v, e = .returned (.tuple #[v, .int .i64 (inE N f 0 1)]) ∧ Txt w' v (fT L N f)) ∧ Below w.heap.size w w' := by
  have c1 := may_any rb g K N f 0 1 L w h hK (by decide)
  unfold inE at *
  unfold fT
  by_cases q : inB N f 0 1 = true
  · rw [if_pos q] at c1 ⊢
    rw [if_pos q]
    obtain ⟨h1, h2, h3, h4⟩ := inB_t q
    obtain ⟨F, rfl⟩ := Int.eq_ofNat_of_zero_le h1
    rw [Int.toNat_natCast]
    have hh := h.hi
    have hF64 : (F : Int) < 64 := by omega
    obtain ⟨p, hp⟩ : ∃ p : Nat, p = F * 32 := ⟨_, rfl⟩
    obtain ⟨p2, hp2⟩ : ∃ p2 : Nat, p2 = p + 32 := ⟨_, rfl⟩
    have e1 : (F : Int) * 32 = (p : Int) := by omega
    have e2 : ((F : Int) + 1) * 32 = (p2 : Int) := by omega
    have hpK : p + 32 ≤ K := by omega
    have b1 : (p : Int) ≤ (p2 : Int) := by omega
    obtain ⟨C, hC, hc⟩ := h.c
    have b2 : (p2 : Int) ≤ (C : Int) := by omega
    have hsl : C ≠ p := by omega
    have hsl2 : ¬ C - p = 0 := by omega
    have hlen := frL_len h.len (f := F) (by omega)
    have hcell : Hid3 (∀ W, Below w.heap.size w W → ∀ j v, ((frL L F).map (Value.int .u8))[j]? = some v → W.cell? ((⟨g, p, none⟩ : Addr).add j) = some v) := ⟨fun W hW j v hj => by
      rw [List.getElem?_map] at hj
      cases hx : (frL L F)[j]? with
      | none => rw [hx] at hj; cases hj
      | some x =>
        rw [hx] at hj
        cases hj
        have hj2 : j < 32 := by have := (List.getElem?_eq_some_iff.1 hx).1; omega
        have hb := h.byte (p + j) (by omega)
        rw [Addr.add_mid, World.cell?_of_block (w := w) (hW.block g (World.block_lt_of_cell? w _ hb)), hb, hp, ← frL_get hj2, List.getD_eq_getElem?_getD, hx]
        rfl⟩
    have HL : Hid3 ((frL L F).length = 32) := ⟨hlen⟩
    have H32 : Hid3 (p2 - p = 32) := ⟨by omega⟩
    have hpp : p2 - p = 32 := by omega
    obtain ⟨i0, hi0, hz0, hz1, hz2⟩ := info_parts infoU8
    have hrl := h.lt
    clear q h4 hK hp hp2 hlen h
    generalize frL L F = FL at *
    go_enter Try.func42, Try.ntmps42
    go_wp2_with fail
    refine c1.mono ?_
    rintro e W1 ⟨rfl, rfl⟩
    clear c1
    have hwa : Below W1.heap.size W1 (W1.alloc (.cells #[] 5)) := (Below.refl _ W1).alloc (Nat.le_refl _) _
    have hcA := hcell.out _ hwa
    have HB : Hid3 (Below W1.heap.size W1 (W1.alloc (.cells #[] 5))) := ⟨hwa⟩
    have hown := own_nil8 W1 W1.heap.size (Nat.le_refl _)
    go_wp2_with (at_builtin; refine wpList_append_own _ rfl _ _ 32 rfl W1.heap.size 5 i0 (.int .u8 0) 1 1 Try.underlying32 hi0 hz0 hz1 hz2 rfl (by decide) _ _ _ rfl hown ⟨g, p, none⟩ 32 (C - p) (FL.map (Value.int .u8)) rfl (by rw [List.length_map]; exact HL.out) hcA (by exact map_one FL) (by unfold maxLen; omega) (by omega) (by simp) ?_; intro v' w1 hown' hgrow _)
    have hb3 : Below W1.heap.size W1 w1 := HB.out.grown hgrow (by simp) (fun j hj => (hown.lt j hj).1)
    go_ret2
    exact ⟨⟨_, rfl, Txt.of_own hown'⟩, hb3⟩
  · rw [if_neg q] at c1 ⊢
    rw [if_neg q]
    clear q
    go_enter Try.func42, Try.ntmps42
    go_wp2_with fail
    refine c1.mono ?_
    rintro e W1 ⟨rfl, rfl⟩
    go_wp2
    go_ret2
    exact ⟨⟨_, rfl, Txt.nil _⟩, Below.refl _ _⟩
end Go.Proofs.Ytdmahmolhdbegaa
