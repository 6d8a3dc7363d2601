/- Do both pools tell the same? PoolPlays: the walk. -/
import Derived.Test.YtalhlbhhgddddaaDoorPlPs
namespace Go.Proofs.YtalhlbhhgddddaaDoor
open Go.RowKit Go.Maps
set_option linter.unusedVariables false
set_option maxRecDepth 100000
theorem eqGuardE : Tryd.prog.eqGuardType Tryd.prog.depth 36 = false := by kernel_rfl
theorem eqGuardC : Tryd.prog.eqGuardType Tryd.prog.depth 43 = false := by kernel_rfl
set_option maxHeartbeats 2000000 in
theorem eqE (w : World) (a b c : Int) : (Op.equalIn 10000 36 (.agg #[.int .u8 a, .int .u8 b, .int .u8 c]) (.agg #[.int .u8 a, .int .u8 b, .int .u8 c])).run Tryd.prog w = .ok true w := by
  show (Op.equalIn (9998 + 1 + 1) 36 _ _).run Tryd.prog w = _
  rw [Op.equalIn]
  simp only [Sem.run_bind, run_underlying Tryd.underlying36, Result.andThen_ok]
  simp [go_sem]
set_option maxHeartbeats 2000000 in
theorem eqC (w : World) (s : ByteArray) (b : Int) : (Op.equalIn 10000 43 (.agg #[.string s, .int .u8 b]) (.agg #[.string s, .int .u8 b])).run Tryd.prog w = .ok true w := by
  show (Op.equalIn (9998 + 1 + 1) 43 _ _).run Tryd.prog w = _
  rw [Op.equalIn]
  simp only [Sem.run_bind, run_underlying Tryd.underlying43, Result.andThen_ok]
  simp [go_sem]
theorem evs_nth : ∀ (L : List Ev) (j : Nat) (x : Ev), L[j]? = some x → ∀ d, d < 3 → (evCs L)[j * 3 + d]? = (evC x)[d]?
  | [], j, x, hx, _, _ => by simp at hx
  | y :: L, 0, x, hx, d, hd => by
    have e : y = x := by simpa using hx
    subst e
    show (evC y ++ evCs L)[0 * 3 + d]? = _
    rw [Nat.zero_mul, Nat.zero_add, List.getElem?_append_left (by simpa [evC] using hd)]
  | y :: L, j + 1, x, hx, d, hd => by
    have ih := evs_nth L j x (by simpa using hx) d hd
    show (evC y ++ evCs L)[(j + 1) * 3 + d]? = _
    rw [List.getElem?_append_right (by simp [evC]; omega), show (j + 1) * 3 + d - (evC y).length = j * 3 + d by simp [evC]; omega]
    exact ih
theorem evs_cells {W : World} {B : Nat} {u : Value} {L : List Ev} (h : W.ownsRow B 36 3 u L.length (evCs L)) : ∃ a cap, u = .slice a L.length cap ∧ ∀ (i : Nat) (x : Ev), L[i]? = some x → ∃ g, a = some ⟨g, 0, none⟩ ∧ W.cell? ⟨g, i * 3, none⟩ = some (.int .u8 x.1) ∧ W.cell? ⟨g, i * 3 + 1, none⟩ = some (.int .u8 x.2.1) ∧ W.cell? ⟨g, i * 3 + 2, none⟩ = some (.int .u8 x.2.2) := by
  rcases h.2 with ⟨h1, h2⟩ | ⟨g, cap, cur, h1, _, h3, _, _, _, h5⟩
  · refine ⟨none, 0, by rw [h1, h2], fun j x hx => ?_⟩
    rw [List.eq_nil_of_length_eq_zero h2] at hx
    cases hx
  · refine ⟨_, cap, h1, fun j x hx => ⟨g, rfl, ?_⟩⟩
    have hj : j < L.length := (List.getElem?_eq_some_iff.1 hx).1
    have key : ∀ d, d < 3 → cur[j * 3 + d]? = (evC x)[d]? := fun d hd => by
      have e1 := evs_nth L j x hx d hd
      rw [← h5, List.getElem?_take, if_pos (by omega)] at e1
      simpa using e1
    rw [Lib.cell_of_heap h3, Lib.cell_of_heap h3, Lib.cell_of_heap h3]
    exact ⟨(key 0 (by decide)).trans rfl, (key 1 (by decide)).trans rfl, (key 2 (by decide)).trans rfl⟩
set_option maxHeartbeats 4000000 in
theorem sameev_any (B B' : Nat) (u t : Value) (L : List Ev) (hL : L.length ≤ 1000) (w : World) (hu : w.ownsRow B 36 3 u L.length (evCs L)) (ht : w.ownsRow B' 36 3 t L.length (evCs L)) : Calls Tryd.prog 36 #[u, t] w fun r w' => r = .returned (.bool true) ∧ Below w.heap.size w w' := by
  obtain ⟨a, cap, rfl, hc1⟩ := evs_cells hu
  obtain ⟨a2, cap2, rfl, hc2⟩ := evs_cells ht
  have HC1 := Hid3.mk hc1
  have HC2 := Hid3.mk hc2
  have eG := eqGuardE
  have hLL : ((L.length : Int) != (L.length : Int)) = false := by simp
  clear hu ht hc1 hc2
  go_enter Tryd.func36, Tryd.ntmps36
  go_wp2_with fail
  go_loopw [5] (fun s5 wr => ∃ i : Nat, i ≤ L.length ∧ s5 = .int .i64 i ∧ Hid3 (Below w.heap.size w wr)) (fun s _ => L.length - (intOf s).toNat)
  case atStart => exact ⟨0, Nat.zero_le _, rfl, ⟨Below.refl _ _⟩⟩
  case round =>
    obtain ⟨i, hi, rfl, HB⟩ := hrel
    by_cases hlt : i < L.length
    · have hltz : (i : Int) < (L.length : Int) := by omega
      obtain ⟨g, hg, x0, x1, x2⟩ := HC1.out i L[i] (List.getElem?_eq_getElem hlt)
      obtain ⟨g2, hg2, y0, y1, y2⟩ := HC2.out i L[i] (List.getElem?_eq_getElem hlt)
      subst hg
      subst hg2
      have hgl := World.block_lt_of_cell? _ _ x0
      have hgl2 := World.block_lt_of_cell? _ _ y0
      simp only at hgl hgl2
      have z0 := (HB.out.cell (p := ⟨g, i * 3, none⟩) hgl).trans x0
      have z1 := (HB.out.cell (p := ⟨g, i * 3 + 1, none⟩) hgl).trans x1
      have z2 := (HB.out.cell (p := ⟨g, i * 3 + 2, none⟩) hgl).trans x2
      have v0 := (HB.out.cell (p := ⟨g2, i * 3, none⟩) hgl2).trans y0
      have v1 := (HB.out.cell (p := ⟨g2, i * 3 + 1, none⟩) hgl2).trans y1
      have v2 := (HB.out.cell (p := ⟨g2, i * 3 + 2, none⟩) hgl2).trans y2
      have hs := HB.out.size
      have hgw : g < wr.heap.size := by omega
      have hgw2 : g2 < wr.heap.size := by omega
      have HBd := Hid3.mk (below_drew HB.out)
      clear x0 x1 x2 y0 y1 y2
      generalize L[i] = x at *
      obtain ⟨k0, k1, k2⟩ := x
      simp only at z0 z1 z2 v0 v1 v2
      have eM := fun W => eqE W k0 k1 k2
      go_wp2_with fail
      go_region
      go_wp2
      go_roundw
      case rel => exact ⟨i + 1, by omega, by go_num, HBd⟩
      case measure => simp [intOf]; omega
    · obtain rfl : i = L.length := by omega
      have hltz : ¬ (L.length : Int) < (L.length : Int) := by omega
      go_wp2
      go_ret
      exact ⟨rfl, HB.out⟩
end Go.Proofs.YtalhlbhhgddddaaDoor
