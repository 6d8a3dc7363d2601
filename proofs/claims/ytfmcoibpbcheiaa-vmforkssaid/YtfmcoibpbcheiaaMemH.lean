/- A memory: a frame that is copied; each call by one contract, in range or out of it. -/
import Derived.Test.YtfmcoibpbcheiaaMemE
import Derived.Test.YtfmcoibpbcheiaaMemG
namespace Go.Proofs.Ytfmcoibpbcheiaa
open Go.RowKit Go.Maps
set_option linter.unusedVariables false
set_option maxRecDepth 100000
theorem putL_out {L vs : List Int} {k p : Nat} (h : k + vs.length ≤ L.length) (hp : p < k ∨ k + vs.length ≤ p) : (putL L k vs).getD p 0 = L.getD p 0 := by
  have e1 : (L.take k).length = k := by rw [List.length_take]; omega
  unfold putL
  rw [List.getD_eq_getElem?_getD, List.getD_eq_getElem?_getD]
  congr 1
  rcases hp with hp | hp
  · rw [List.getElem?_append_left (by omega), List.getElem?_take, if_pos hp]
  · rw [List.getElem?_append_right (by omega), e1, List.getElem?_append_right (by omega), List.getElem?_drop]
    congr 1
    omega
theorem putL_in {L vs : List Int} {k p : Nat} (h : k + vs.length ≤ L.length) (hp : p < vs.length) : (putL L k vs).getD (k + p) 0 = vs.getD p 0 := by
  have e1 : (L.take k).length = k := by rw [List.length_take]; omega
  unfold putL
  rw [List.getD_eq_getElem?_getD, List.getD_eq_getElem?_getD, List.getElem?_append_right (by omega), e1, Nat.add_sub_cancel_left, List.getElem?_append_left hp]
theorem putL_bytes {L vs : List Int} {k : Nat} (h : ∀ x ∈ L, 0 ≤ x ∧ x ≤ 255) (h2 : ∀ x ∈ vs, 0 ≤ x ∧ x ≤ 255) (x : Int) (hx : x ∈ putL L k vs) : 0 ≤ x ∧ x ≤ 255 := by
  rcases List.mem_append.1 hx with hx | hx
  · exact h x (List.mem_of_mem_take hx)
  rcases List.mem_append.1 hx with hx | hx
  · exact h2 x hx
  · exact h x (List.mem_of_mem_drop hx)
def frL (L : List Int) (f : Nat) : List Int := (L.drop (f * 32)).take 32
theorem frL_len {L : List Int} {f : Nat} (h : L.length = 2048) (hf : f < 64) : (frL L f).length = 32 := by
  unfold frL
  rw [List.length_take, List.length_drop, h]
  omega
theorem mids' (Z : List Int) : ∀ v ∈ Z.map (Value.int .u8), v.oneCell' = true := fun v hv => by
  obtain ⟨x, _, rfl⟩ := List.mem_map.1 hv
  rfl
set_option maxHeartbeats 2000000 in
theorem copy_ok (b t f : Nat) (n : Int) (L : List Int) (w : World) (h : Mem w b n L) (h1 : (t : Int) < n) (h2 : (f : Int) < n) : Calls Try.prog 71 #[.pointer (some ⟨b, 0, none⟩), .int .i64 t, .int .i64 f] w fun e w' => e = .returned (.int .i64 0) ∧ Mem w' b n (putL L (t * 32) (frL L f)) ∧ Only b w w' := by
  have c1 := there_ok b n L t w h (by omega) h1
  have c2 := there_ok b n L f w h (by omega) h2
  have hhi := h.hi
  have hf : (f : Int) < 64 := by omega
  have ht : (t : Int) < 64 := by omega
  have hr := h.range (f * 32) 32 (by omega)
  have hT := h.there (t * 32) 32 (by omega)
  have HL : Hid3 ((frL L f).length = 32) := ⟨frL_len h.len (by omega)⟩
  have hu := Try.underlying99
  obtain ⟨F, hF⟩ : ∃ F, F = (frL L f).map (Value.int .u8) := ⟨_, rfl⟩
  have hlen : F.length = 32 := by rw [hF, List.length_map]; exact HL.out
  have hi : (Try.prog.info? 99).map (·.size) = some F.length := by rw [hlen]; exact con_size
  have hone : ∀ v ∈ F, v.oneCell' = true := by rw [hF]; exact mids' _
  have HR : Hid3 (w.rangeAt b (1 + f * 32) F) := ⟨by rw [hF]; exact hr⟩
  have HT : Hid3 (w.there b (1 + t * 32) 32) := ⟨hT⟩
  have HF : Hid3 (F = (frL L f).map (Value.int .u8)) := ⟨hF⟩
  clear hF hr hT
  have hx : t = f ∨ (1 + f * 32 + F.length ≤ 1 + t * 32 ∨ 1 + t * 32 + F.length ≤ 1 + f * 32) := by omega
  go_enter Try.func71, Try.ntmps71
  go_wp2_with fail
  refine c1.mono ?_
  rintro e W1 ⟨rfl, rfl⟩
  clear c1
  go_wp2_with fail
  refine c2.mono ?_
  rintro e W1 ⟨rfl, rfl⟩
  clear c2
  go_wp2_with fail
  have hr := HR.out
  have hT := HT.out
  rcases hx with rfl | hx
  · go_region_held3 (fun w' => w'.rangeAt b (1 + t * 32) F ∧ w'.there b (1 + t * 32) 32) ((first | exact ⟨hr, hT⟩ | exact ⟨World.rangeAt_setCells_same W1.drew _ _ _ (by rw [hlen]; exact hT), World.there_setCells (w := W1.drew) hT _ _ _⟩)) (fail)
    go_wp2
    go_ret
    refine ⟨rfl, ?_, (Only.of_below (Below.refl _ W1).drew).trans (Only.cells b W1.drew _ _)⟩
    have := (h.below (Below.refl _ W1).drew).setRow (t * 32) (frL L t) (by rw [HL.out]; omega)
    rw [HF.out]
    exact this
  · go_region_held3 (fun w' => w'.rangeAt b (1 + f * 32) F ∧ w'.there b (1 + t * 32) 32) (go_keep_ranges) (fail)
    go_wp2
    go_ret
    refine ⟨rfl, ?_, (Only.of_below (Below.refl _ W1).drew).trans (Only.cells b W1.drew _ _)⟩
    have := (h.below (Below.refl _ W1).drew).setRow (t * 32) (frL L f) (by rw [HL.out]; omega)
    rw [HF.out]
    exact this
end Go.Proofs.Ytfmcoibpbcheiaa
