/- The document's disk: Fork. -/
import Derived.Test.YtlnjpgcaciemnaaDevX
namespace Go.Proofs.Ytlnjpgcaciemnaa
open Go.RowKit Go.Maps
set_option linter.unusedVariables false
set_option maxRecDepth 100000
set_option maxHeartbeats 4000000 in
theorem rdfork_any (B lo : Nat) (rb og n : Nat) (S : List Int) (u : Value) (last : Int) (Q : List Rq) (w : World) (h : Rk B (fun g => lo ≤ g) w rb og n S u last Q) (hlo : lo ≤ w.heap.size) : Calls Try.prog 21 #[.pointer (some ⟨rb, 0, none⟩)] w fun e w' => ∃ rb2 og2 u2, e = .returned (.pointer (some ⟨rb2, 0, none⟩)) ∧ Rk w.heap.size (fun g => lo ≤ g ∧ (g < w.heap.size ∨ w'.heap.size ≤ g)) w' rb2 og2 n S u2 last Q ∧ Below w.heap.size w w' := by
  obtain ⟨C, hC, c0, c1, c2, fz⟩ := h.c
  have hlt := h.lt
  have hltg := h.ltg
  have hn64 := h.n64
  have hn1 := h.n1
  have hfew := h.few
  obtain ⟨cs, eo, hr⟩ := h.row
  obtain ⟨xs, hxs⟩ : ∃ xs, xs = cs.take n := ⟨_, rfl⟩
  have hcl : n ≤ cs.length := by
    obtain ⟨x, hx, _⟩ := hr (n - 1) (by omega)
    have := (List.getElem?_eq_some_iff.1 hx).1
    omega
  have lxs : xs.length = n := by rw [hxs, List.length_take]; omega
  have axs : ∀ j, j < n → ∃ x, xs[j]? = some x ∧ Inn (RZ (fun g => lo ≤ g) rb og) w (frL S j) x := fun j hj => by
    obtain ⟨x, hx, hi⟩ := hr j hj
    exact ⟨x, by rw [hxs, List.getElem?_take, if_pos hj]; exact hx, hi⟩
  have oxs : ∀ v ∈ xs, v.oneCell' = true := fun v hv => by
    obtain ⟨j, hj, rfl⟩ := List.mem_iff_getElem.1 hv
    obtain ⟨x, hx, g, cap, rfl, _⟩ := axs j (by omega)
    rw [List.getElem?_eq_getElem hj] at hx
    injection hx with hx
    rw [hx]
    rfl
  have cxs : ∀ j v, xs[j]? = some v → w.cell? ⟨og, j, none⟩ = some v := fun j v hj => by
    rw [cell_of_row w og j _ _ _ eo, List.getElem?_toArray]
    rw [hxs, List.getElem?_take] at hj
    split at hj
    · exact hj
    · cases hj
  obtain ⟨W0, hW0⟩ : ∃ W0 : World, W0 = w.drew := ⟨_, rfl⟩
  have hb0 : Below w.heap.size w W0 := by rw [hW0]; exact (Below.refl _ w).drew
  have hs0 : W0.heap.size = w.heap.size := by rw [hW0]; rfl
  have hX1 : Below w.heap.size w (w.alloc (.cells #[] 36)).drew := ((Below.refl _ w).alloc (Nat.le_refl _) _).drew
  have HS0 : Hid3 (W0.cell? ⟨rb, 0, none⟩ = some (.slice (some ⟨og, 0, none⟩) n C) ∧ W0.cell? ⟨rb, 2, none⟩ = some (.int .u32 last)) := ⟨by rw [hW0]; exact ⟨c0, c2⟩⟩
  have HSb : Hid3 (∀ W, Below w.heap.size w W → W.cell? ⟨rb, 0, none⟩ = some (.slice (some ⟨og, 0, none⟩) n C) ∧ W.cell? ⟨rb, 2, none⟩ = some (.int .u32 last)) := ⟨fun W hB => ⟨(hB.cell (p := ⟨rb, 0, none⟩) hlt).trans c0, (hB.cell (p := ⟨rb, 2, none⟩) hlt).trans c2⟩⟩
  have HX1 := Hid3.mk hX1
  have HO : Hid3 ((w.alloc (.cells #[] 36)).drew.ownsRow w.heap.size 36 1 (.slice (some ⟨w.heap.size, 0, none⟩) 0 0) 0 []) := ⟨World.ownsRow_made (size := 1) (base := w.heap.size) (e := 36) w #[] 0 (Nat.le_refl _) (by unfold maxLen; omega) rfl⟩
  have HC : Hid3 (∀ j v, xs[j]? = some v → (w.alloc (.cells #[] 36)).drew.cell? ((⟨og, 0, none⟩ : Addr).add j) = some v) := ⟨fun j v hj => by
    rw [Addr.add_mid, Nat.zero_add]
    exact (hX1.cell (p := ⟨og, j, none⟩) hltg).trans (cxs j v hj)⟩
  have HL := Hid3.mk lxs
  have H1 := Hid3.mk oxs
  have HK := Hid3.mk h
  have cW := fun W (hB : Below w.heap.size w W) => rwaiting_any B (fun g => lo ≤ g) rb og n S u last Q W (h.below hB)
  have HE : Hid3 (∀ Wa Wb g1 k1 v2, Below w.heap.size w Wa → Wa.ownsRow w.heap.size 36 1 (.slice (some ⟨g1, 0, none⟩) n k1) (0 + n) ([] ++ xs) → Below Wa.heap.size Wa Wb → Wb.ownsRow Wa.heap.size 45 5 v2 Q.length (rqsCs Q) → Rk w.heap.size (fun g => lo ≤ g ∧ (g < w.heap.size ∨ (Wb.alloc (.cells #[.slice (some ⟨g1, 0, none⟩) n k1, v2, .int .u32 last] 91)).heap.size ≤ g)) (Wb.alloc (.cells #[.slice (some ⟨g1, 0, none⟩) n k1, v2, .int .u32 last] 91)) Wb.heap.size g1 n S v2 last Q ∧ Below w.heap.size w (Wb.alloc (.cells #[.slice (some ⟨g1, 0, none⟩) n k1, v2, .int .u32 last] 91))) := ⟨fun Wa Wb g1 k1 v2 hBa ho hBb hv => by
    rw [Nat.zero_add, List.nil_append] at ho
    have sa := hBa.size
    have sb := hBb.size
    have hwb : Below w.heap.size w Wb := hBa.trans (hBb.mono sa)
    have hal : Below Wb.heap.size Wb (Wb.alloc (.cells #[.slice (some ⟨g1, 0, none⟩) n k1, v2, .int .u32 last] 91)) := (Below.refl _ Wb).alloc (Nat.le_refl _) _
    have g1l := ho.lt g1 rfl
    rcases ho.2 with ⟨hn0, _⟩ | ⟨g, cap, cur, e, a2, a3, a4, a5, a6, a7⟩
    · cases hn0
    injection e with e1 e2 e3
    injection e1 with e1
    injection e1 with e1
    subst e1
    subst e3
    have hr2 : (Wb.alloc (.cells #[.slice (some ⟨g1, 0, none⟩) n k1, v2, .int .u32 last] 91)).heap[g1]? = some (.cells cur 36) := (hal.block g1 (by omega)).trans ((hBb.block g1 g1l.2).trans a3)
    refine ⟨⟨⟨k1, a4, heap_alloc_last Wb _⟩, ⟨cur.toList, hr2, fun j hj => ?_⟩, (RqS.of_own hv (RZ (fun g => lo ≤ g ∧ (g < w.heap.size ∨ (Wb.alloc (.cells #[.slice (some ⟨g1, 0, none⟩) n k1, v2, .int .u32 last] 91)).heap.size ≤ g)) Wb.heap.size g1) (fun g hg1 hg2 hz => ?_)).below hal, HK.out.len, HK.out.n1, HK.out.n64, HK.out.few, by omega, a2, fun y => ?_, fun y => ?_, HK.out.la⟩, (hwb.trans (hal.mono (by omega)))⟩
    · obtain ⟨x, hx, g, c, rfl, q1, q2, q3⟩ := axs j hj
      have hlf := frL_lenS HK.out.len hj
      have hgw : g < w.heap.size := World.block_lt_of_cell? w _ (q3 0 _ (List.getElem?_eq_getElem (by omega)))
      refine ⟨_, ?_, g, c, rfl, q1, fun hz => ?_, fun k y hy => ?_⟩
      · rw [← a7, List.getElem?_take, if_pos (by omega)] at hx
        exact hx
      · rcases hz with y | y | y
        · exact q2 (.inl y.1)
        · omega
        · omega
      · exact ((hwb.trans (hal.mono (by omega))).cell (p := ⟨g, k, none⟩) hgw).trans (q3 k y hy)
    · rw [World.size_alloc] at hz
      rcases hz with ⟨_, y | y⟩ | y | y
      · omega
      · omega
      · omega
      · omega
    · rw [World.size_alloc] at y
      omega
    · rw [World.size_alloc] at y
      omega⟩
  have HG : Hid3 (∀ Wa v', Wa.ownsRow w.heap.size 36 1 v' (0 + n) ([] ++ xs) → (w.alloc (.cells #[] 36)).drew.grownBy Wa (Value.ownBlock (.slice (some ⟨w.heap.size, 0, none⟩) 0 0)) → Below w.heap.size w Wa ∧ ∃ g1 k1, v' = .slice (some ⟨g1, 0, none⟩) n k1) := ⟨fun Wa v' ho hg => by
    refine ⟨hX1.grown hg hX1.size (fun j e => by have e' : w.heap.size = j := Option.some.inj e; omega), ?_⟩
    rw [Nat.zero_add] at ho
    exact own_pos ho (by omega)⟩
  have HA : Hid3 (∀ Wa Wb o, Below w.heap.size w Wa → Below Wa.heap.size Wa Wb → Below w.heap.size w (Wb.alloc o) ∧ Below w.heap.size w Wb) := ⟨fun Wa Wb o h1 h2 => ⟨(h1.trans (h2.mono h1.size)).alloc (Nat.le_trans h1.size h2.size) o, h1.trans (h2.mono h1.size)⟩⟩
  rw [hW0] at HS0
  clear h hr hxs hcl axs oxs cxs eo hX1 hb0 hW0 c0 c1 c2 fz lxs hs0
  go_enter Try.func21, Try.ntmps21
  go_wp2_with fail
  go_region_held3 (fun w' => w'.cell? ⟨rb, 0, none⟩ = some (.slice (some ⟨og, 0, none⟩) n C) ∧ w'.cell? ⟨rb, 2, none⟩ = some (.int .u32 last)) (with_reducible (first | exact HS0.out | exact HSb.out _ HX1.out | exact HSb.out _ HBa.out | exact HSb.out _ (HA.out _ _ (.cells #[] 0) HBa.out hBb).2 | exact HSb.out _ (HA.out _ _ _ HBa.out hBb).1)) ((first
    | (refine step_appS (by rfl) _ _ (by rfl) w.heap.size (.slice (some ⟨w.heap.size, 0, none⟩) 0 0) 0 [] ⟨og, 0, none⟩ C n xs (by rfl) (by rfl) (by exact HO.out) (by exact HL.out) (by exact HC.out) (by exact H1.out) (by omega) (by simp) ?_; intro v' Wa owna growa ata; obtain ⟨hBa, g1, k1, rfl⟩ := HG.out Wa v' owna growa; have HBa := Hid3.mk hBa; have HOa := Hid3.mk owna; clear owna growa ata hBa)
    | (go_at_call 33; refine (cW _ HBa.out).mono ?_; rintro e Wb ⟨⟨v2, rfl, hv2⟩, hBb⟩; obtain ⟨a2, k2, rfl⟩ := form5 hv2)))
  all_goals
    have HF := Hid3.mk (HE.out _ _ _ _ _ HBa.out HOa.out hBb hv2)
    clear HE hv2 hBb cW HG HC HO HX1 HS0 HSb HA HOa HBa
    go_wp2
    go_ret
    exact ⟨_, _, _, rfl, HF.out.1, HF.out.2⟩
end Go.Proofs.Ytlnjpgcaciemnaa
