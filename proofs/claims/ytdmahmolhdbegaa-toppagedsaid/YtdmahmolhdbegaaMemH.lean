/- A memory: a frame that is copied; each call by one contract, in range or out of it. -/
import Derived.Test.YtdmahmolhdbegaaMemE
import Derived.Test.YtdmahmolhdbegaaMemG
namespace Go.Proofs.Ytdmahmolhdbegaa
open Go.RowKit Go.Maps
set_option linter.unusedVariables false
set_option maxRecDepth 100000
theorem putL_out {L vs : List Int} {k p : Nat} (h : k + vs.length ≤ L.length) (hp : p < k ∨ k + vs.length ≤ p) : (putL L k vs).getD p 0 = L.getD p 0 := by
  have e1 : (L.take k).length = k := by rw [List.length_take]; omega
  unfold putL
  rw [List.getD_eq_getElem?_getD, List.getD_eq_getElem?_getD]
  congr 1
  rcases hp with hp | hp
  · rw [List.getElem?_append_left (by omega), List.getElem?_take, if_pos hp]
  · rw [List.getElem?_append_right (by omega), e1, List.getElem?_append_right (by omega), List.getElem?_drop]
    congr 1
    omega
theorem putL_in {L vs : List Int} {k p : Nat} (h : k + vs.length ≤ L.length) (hp : p < vs.length) : (putL L k vs).getD (k + p) 0 = vs.getD p 0 := by
  have e1 : (L.take k).length = k := by rw [List.length_take]; omega
  unfold putL
  rw [List.getD_eq_getElem?_getD, List.getD_eq_getElem?_getD, List.getElem?_append_right (by omega), e1, Nat.add_sub_cancel_left, List.getElem?_append_left hp]
theorem putL_bytes {L vs : List Int} {k : Nat} (h : ∀ x ∈ L, 0 ≤ x ∧ x ≤ 255) (h2 : ∀ x ∈ vs, 0 ≤ x ∧ x ≤ 255) (x : Int) (hx : x ∈ putL L k vs) : 0 ≤ x ∧ x ≤ 255 := by
  rcases List.mem_append.1 hx with hx | hx
  · exact h x (List.mem_of_mem_take hx)
  rcases List.mem_append.1 hx with hx | hx
  · exact h2 x hx
  · exact h x (List.mem_of_mem_drop hx)
def frL (L : List Int) (f : Nat) : List Int := (L.drop (f * 32)).take 32
theorem frL_len {L : List Int} {f : Nat} (h : L.length = 2048) (hf : f < 64) : (frL L f).length = 32 := by
  unfold frL
  rw [List.length_take, List.length_drop, h]
  omega
theorem mids' (Z : List Int) : ∀ v ∈ Z.map (Value.int .u8), v.oneCell' = true := fun v hv => by
  obtain ⟨x, _, rfl⟩ := List.mem_map.1 hv
  rfl
end Go.Proofs.Ytdmahmolhdbegaa
