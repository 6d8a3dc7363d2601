/- TopStored: plain facts, and the walk. -/
import Derived.Test.YtnknhkkhabnnkaaMemG
import Derived.Test.YtnknhkkhabnnkaaCpuR
namespace Go.Proofs.Ytnknhkkhabnnkaa
open Go.RowKit Go.Maps
set_option linter.unusedVariables false
set_option maxRecDepth 100000
theorem Mem.other {w : World} {b : Nat} {n : Int} {L : List Int} (h : Mem w b n L) {c : Nat} (hne : b ≠ c) (k : Nat) (v : Value) : Mem (w.setCell ⟨c, k, none⟩ v) b n L := ⟨(Below.heap_setCell w ⟨c, k, none⟩ v b hne).trans h.blk, h.len, h.lo, h.hi⟩
theorem stored_two (k : Nat) (x : Int) (hk : k + 2 ≤ 2048) : (putL zeroL k [x / 256, x % 256]).getD k 0 = x / 256 ∧ (putL zeroL k [x / 256, x % 256]).getD (k + 1) 0 = x % 256 := by
  have e : (zeroL.take k).length = k := by rw [List.length_take, zeroL_length]; omega
  have e1 : (putL zeroL k [x / 256, x % 256])[k]? = some (x / 256) := by
    unfold putL
    rw [List.getElem?_append_right (by omega), e, Nat.sub_self]
    rfl
  have e2 : (putL zeroL k [x / 256, x % 256])[k + 1]? = some (x % 256) := by
    unfold putL
    rw [List.getElem?_append_right (by omega), e, Nat.add_sub_cancel_left]
    rfl
  rw [List.getD_eq_getElem?_getD, List.getD_eq_getElem?_getD, e1, e2]
  exact ⟨rfl, rfl⟩
theorem stored_ok (k : Nat) (x : Int) (hx : 0 ≤ x ∧ x ≤ 65535) (y : Int) (hy : y ∈ putL zeroL k [x / 256, x % 256]) : 0 ≤ y ∧ y ≤ 255 := by
  unfold putL zeroL at hy
  rcases List.mem_append.1 hy with h | h
  · have := List.eq_of_mem_replicate (List.mem_of_mem_take h)
    omega
  · rcases List.mem_append.1 h with h | h
    · rcases List.mem_cons.1 h with rfl | h
      · omega
      · rcases List.mem_cons.1 h with rfl | h
        · omega
        · cases h
    · have := List.eq_of_mem_replicate (List.mem_of_mem_drop h)
      omega
theorem st_exec (a : Nat) (x q : Int) (ha : a < 7) (hq : 0 ≤ q ∧ q ≤ 510) : execP 0 (upd (fun _ => 0) a x) 14 a 7 q = ((4, upd (fun _ => 0) a x), (2, q, x, 0, 0)) := by
  have hR : insR 14 a 7 q = true := by rw [insR_iff]; exact ⟨⟨by decide, by omega, by decide⟩, .inl rfl, .inl rfl, .inl rfl⟩
  have h7 : upd (fun _ => 0) a x ((7 : Int).toNat) = 0 := by show (if 7 = a then x else 0) = 0; rw [if_neg (by omega)]
  have ha2 : upd (fun _ => 0) a x ((a : Int).toNat) = x := by show (if ((a : Int).toNat) = a then x else 0) = x; rw [if_pos (by omega)]
  unfold execP
  rw [hR, if_neg (by decide), if_neg (by decide), if_neg (by omega)]
  unfold doesP
  rw [if_neg (by decide), if_neg (by decide), if_neg (by decide), if_neg (by decide), if_pos rfl, h7, ha2]
  simp only [addV, Prod.mk.injEq, and_true, true_and]
  omega
theorem ld_exec (a : Nat) (x q : Int) (ha : a < 6) (hq : 0 ≤ q ∧ q ≤ 510) : execP 4 (upd (fun _ => 0) a x) 13 7 6 q = ((8, upd (fun _ => 0) a x), (1, q, 0, 7, 0)) := by
  have hR : insR 13 7 6 q = true := by rw [insR_iff]; exact ⟨⟨by decide, by decide, by decide⟩, .inl rfl, .inl rfl, .inl rfl⟩
  have h6 : upd (fun _ => 0) a x ((6 : Int).toNat) = 0 := by show (if 6 = a then x else 0) = 0; rw [if_neg (by omega)]
  unfold execP
  rw [hR, if_neg (by decide), if_neg (by decide), if_neg (by omega)]
  unfold doesP
  rw [if_neg (by decide), if_neg (by decide), if_neg (by decide), if_pos rfl, h6]
  simp only [addV, Prod.mk.injEq, and_true, true_and]
  omega
theorem ld_exec6 (x q : Int) : execP 4 (upd (fun _ => 0) 6 x) 13 7 6 q = ((8, upd (fun _ => 0) 6 x), (1, addV x q, 0, 7, 0)) := by
  have hR : insR 13 7 6 q = true := by rw [insR_iff]; exact ⟨⟨by decide, by decide, by decide⟩, .inl rfl, .inl rfl, .inl rfl⟩
  have h6 : upd (fun _ => 0) 6 x ((6 : Int).toNat) = x := rfl
  unfold execP
  rw [hR, if_neg (by decide), if_neg (by decide), if_neg (by omega)]
  unfold doesP
  rw [if_neg (by decide), if_neg (by decide), if_neg (by decide), if_pos rfl, h6]
  rfl
theorem upd0_wd (a : Nat) (x : Int) (hx : Wd x) (k : Nat) : Wd (upd (fun _ => 0) a x k) := by
  unfold upd
  split
  · exact hx
  · exact ⟨Int.le_refl 0, (by decide : (0 : Int) ≤ 65535)⟩
end Go.Proofs.Ytnknhkkhabnnkaa
