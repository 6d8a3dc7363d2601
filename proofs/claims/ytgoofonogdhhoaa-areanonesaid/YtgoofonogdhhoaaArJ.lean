/- The kinds that come anywhere; when rows of kinds are the same. -/
import Derived.Test.YtgoofonogdhhoaaArI
import Derived.RangeFuncBox
namespace Go.Proofs.Ytgoofonogdhhoaa
open Go.RowKit Go.Maps
set_option linter.unusedVariables false
set_option maxRecDepth 100000
theorem info_parts {t : TypeId} {z : Value} {s b : Nat} (h : (Try.prog.info? t).map (fun i => (i.zero, i.size, i.bytes)) = some (some z, s, b)) : ∃ i, Try.prog.info? t = some i ∧ i.zero = some z ∧ i.size = s ∧ i.bytes = b := by
  rw [Option.map_eq_some_iff] at h
  obtain ⟨i, hi, e⟩ := h
  injection e with e1 e2
  injection e2 with e2 e3
  exact ⟨i, hi, e1, e2, e3⟩
theorem infoK : (Try.prog.info? 35).map (fun i => (i.zero, i.size, i.bytes)) = some (some (.int .u8 0), 1, 1) := by kernel_rfl
def natK (n : Nat) : Value := .int .u8 n
def enL (e : Fin 5 → Option Int) : Nat → List Nat
  | 0 => []
  | k + 1 => enL e k ++ (if h : k < 5 then (if (e ⟨k, h⟩).isSome then [k] else []) else [])
theorem enL_snoc (e : Fin 5 → Option Int) (k : Nat) (h : k < 5) : enL e (k + 1) = enL e k ++ (if (e ⟨k, h⟩).isSome then [k] else []) := by
  rw [enL, dif_pos h]
theorem enL_len (e : Fin 5 → Option Int) : ∀ k, (enL e k).length ≤ k
  | 0 => Nat.le_refl _
  | k + 1 => by
    have := enL_len e k
    rw [enL, List.length_append]
    split
    · split <;> simp <;> omega
    · simp; omega
theorem own_below {w w' : World} {B e z n : Nat} {v : Value} {xs : List Value} (h : w.ownsRow B e z v n xs) (k : Below w.heap.size w w') : w'.ownsRow B e z v n xs := by
  refine ⟨h.1, ?_⟩
  rcases h.2 with h0 | ⟨g, cap, cur, h1, h2, h3, h4⟩
  · exact .inl h0
  · refine .inr ⟨g, cap, cur, h1, h2, ?_, h4⟩
    rw [k.block g (Array.getElem?_eq_some_iff.1 h3).1]
    exact h3
set_option maxHeartbeats 1000000 in
theorem entries_any (B b : Nat) (q : Ar) (w : World) (h : Ac B w b q) : Calls Try.prog 24 #[.pointer (some ⟨b, 0, none⟩)] w fun r w' => ∃ v, r = .returned v ∧ w'.ownsRow w.heap.size 35 1 v (enL q.en 5).length ((enL q.en 5).map natK) ∧ Below w.heap.size w w' := by
  have HV : Hid (Ac B w b q) := h
  have hb := h.lt
  obtain ⟨i0, hi, hz0, hz1, hz2⟩ := info_parts infoK
  clear h
  go_enter Try.func24, Try.ntmps24
  go_wp2_with fail
  go_loopw [3, 7] (fun s5 s6 wr => ∃ k : Nat, k ≤ 5 ∧ s6 = .int .u8 k ∧ wr.ownsRow w.heap.size 35 1 s5 (enL q.en k).length ((enL q.en k).map natK) ∧ Hid (Below w.heap.size w wr)) (fun _ s _ => 6 - (intOf s).toNat)
  case atStart => exact ⟨0, Nat.zero_le _, rfl, World.ownsRow_nil _ _ _ _, Below.refl _ _⟩
  case round =>
    obtain ⟨k, hk, rfl, hown, HB⟩ := hrel
    by_cases hlt : k < 5
    · have hltz : (k : Int) < 5 := by omega
      have HN : Hid (enL q.en (k + 1) = enL q.en k ++ (if (q.en ⟨k, hlt⟩).isSome then [k] else [])) := enL_snoc q.en k hlt
      have hlen := enL_len q.en k
      have hsz := HB.out.size
      have cT' := where_ok B b q ⟨k, hlt⟩ wr (HV.out.below HB.out)
      generalize (q.en ⟨k, hlt⟩).getD 0 = at0 at *
      simp only at cT'
      generalize hx : enL q.en (k + 1) = N1 at *
      generalize enL q.en k = N0 at *
      generalize (q.en ⟨k, hlt⟩).isSome = z at *
      obtain ⟨a0, cap0, hvf⟩ : ∃ a cap, u3 = .slice a N0.length cap := by
        rcases hown.2 with ⟨hv0, hk0⟩ | ⟨g, cap, cur, hv0, _⟩
        · exact ⟨none, 0, by rw [hk0]; exact hv0⟩
        · exact ⟨_, _, hv0⟩
      subst hvf
      have HX : Hid (enL q.en (k + 1) = N1) := hx
      clear hx
      cases z with
      | true =>
        have HN2 : Hid (N1 = N0 ++ [k]) := by show N1 = _; rw [HN.out]; rfl
        clear HN
        go_wp2_with fail
        refine cT'.mono ?_
        rintro r W ⟨rfl, hW⟩
        have hownW := own_below hown hW
        have HBW : Hid (Below w.heap.size w W) := HB.out.trans (hW.mono HB.out.size)
        have hszW := HBW.out.size
        clear cT' hW
        go_wp2_with (at_builtin; refine wpList_append_own _ rfl _ _ 52 rfl w.heap.size 35 i0 (.int .u8 0) 1 1 Try.underlying52 hi hz0 hz1 hz2 rfl (by decide) _ _ _ rfl (hownW.alloc _) ⟨W.heap.size, 0, none⟩ 1 1 [natK k] rfl rfl (cell_one_new _ _ _) (by simp [natK, Value.oneCell']) (by unfold maxLen; omega) (by omega) (by simp; omega) ?_; intro v' w1 hown' hgrow _; obtain ⟨g', cap', rfl⟩ := ownsRow_succ hown')
        go_roundw
        case rel => exact ⟨k + 1, by omega, by go_num, by rw [HX.out, HN2.out, List.length_append, List.map_append]; exact hown', (HBW.out.alloc HBW.out.size _).grown hgrow (by have := HBW.out.size; simp; omega) (fun j ej => (hownW.lt j ej).1)⟩
        case measure => simp [intOf]; omega
      | false =>
        have HN2 : Hid (N1 = N0) := by show N1 = _; rw [HN.out]; simp
        clear HN
        go_wp2_with fail
        refine cT'.mono ?_
        rintro r W ⟨rfl, hW⟩
        have hownW := own_below hown hW
        have HBW : Hid (Below w.heap.size w W) := HB.out.trans (hW.mono HB.out.size)
        have hszW := HBW.out.size
        clear cT' hW
        go_wp2
        go_roundw
        case rel => exact ⟨k + 1, by omega, by go_num, by rw [HX.out, HN2.out]; exact hownW, HBW.out⟩
        case measure => simp [intOf]; omega
    · obtain rfl : k = 5 := by omega
      go_wp2
      go_ret
      exact ⟨_, rfl, hown, HB.out⟩
end Go.Proofs.Ytgoofonogdhhoaa
