/- PoolEvents: the walk. -/
import Derived.Test.YtalhlbhhgddddaaDoorPlEv
namespace Go.Proofs.YtalhlbhhgddddaaDoor
open Go.RowKit Go.Maps
set_option linter.unusedVariables false
set_option maxRecDepth 100000
theorem ev_nth : ∀ (L : List (Nat × Nat × Nat)) (j : Nat) (x : Nat × Nat × Nat), L[j]? = some x → ∀ d, d < 3 → (evCs (L.map evI))[j * 3 + d]? = (evC (evI x))[d]?
  | [], j, x, hx, _, _ => by simp at hx
  | y :: L, 0, x, hx, d, hd => by
    have e : y = x := by simpa using hx
    subst e
    show (evC (evI y) ++ evCs (L.map evI))[0 * 3 + d]? = _
    rw [Nat.zero_mul, Nat.zero_add, List.getElem?_append_left (by simpa [evC] using hd)]
  | y :: L, j + 1, x, hx, d, hd => by
    have ih := ev_nth L j x (by simpa using hx) d hd
    show (evC (evI y) ++ evCs (L.map evI))[(j + 1) * 3 + d]? = _
    rw [List.getElem?_append_right (by simp [evC]; omega), show (j + 1) * 3 + d - (evC (evI y)).length = j * 3 + d by simp [evC]; omega]
    exact ih
theorem own_stay {w w' : World} {B t z n : Nat} {u : Value} {xs : List Value} {X : Nat → Prop} (h : w.ownsRow B t z u n xs) (k : Apart X w w') (hx : ∀ g, u.ownBlock = some g → ¬ X g) : w'.ownsRow B t z u n xs := by
  refine ⟨h.1, ?_⟩
  rcases h.2 with h0 | ⟨g, cap, cur, h1, h2, h3, h4⟩
  · exact .inl h0
  · exact .inr ⟨g, cap, cur, h1, h2, (k.block g (Array.getElem?_eq_some_iff.1 h3).1 (hx g (by rw [h1]; rfl))).trans h3, h4⟩
/-- The cells of who has what. -/
def hCs (h : Nat → Nat → Bool) : List Value := (List.range 48).map fun j => .bool (h (j / 6) (j % 6))
theorem hCs_get (h : Nat → Nat → Bool) (f e : Nat) (hf : f < 8) (he : e < 6) : (hCs h)[f * 6 + e]? = some (.bool (h f e)) := by
  unfold hCs
  rw [List.getElem?_map, List.getElem?_range (by omega), Option.map_some, show (f * 6 + e) / 6 = f by omega, show (f * 6 + e) % 6 = e by omega]
theorem hCs_set (h : Nat → Nat → Bool) (x : Nat × Nat × Nat) (hf : x.2.2 < 8) (he : x.2.1 < 6) : (hCs h).set (x.2.2 * 6 + x.2.1) (.bool (decide (x.1 = 1 ∨ x.1 = 2))) = hCs (rst h x) := by
  apply List.ext_getElem?
  intro j
  rw [List.getElem?_set]
  by_cases hj : x.2.2 * 6 + x.2.1 = j
  · subst hj
    rw [if_pos rfl, hCs_get _ _ _ hf he, if_pos (by unfold hCs; simp; omega)]
    unfold rst
    rw [if_pos ⟨rfl, rfl⟩]
  · rw [if_neg hj]
    unfold hCs
    rw [List.getElem?_map, List.getElem?_map]
    by_cases hl : j < 48
    · rw [List.getElem?_range hl, Option.map_some, Option.map_some]
      unfold rst
      rw [if_neg (fun c => hj (by omega))]
    · rw [List.getElem?_eq_none (by simp; omega)]
      rfl
def preS (h : Nat → Nat → Bool) (f : Nat) : Nat → Bool
  | 0 => false
  | k + 1 => preS h f k || h f k
theorem preS_all (h : Nat → Nat → Bool) (f : Nat) : preS h f 6 = some6 h f := by simp [preS, some6]
/-- What the law holds of the world: a pool, who has what, the events. -/
structure Es (w W : World) (b fb : Nat) (v : Value) (q : Ps) (hb : Nat) (ev : Value) (L : List (Nat × Nat × Nat)) (h : Nat → Nat → Bool) : Prop where
  p : Lv w W b fb 8 v q
  c : Cl W hb 31 (hCs h)
  g : w.heap.size ≤ hb
  e : W.ownsRow w.heap.size 36 3 ev L.length (evCs (L.map evI))
theorem Es.low {w W W' : World} {b fb : Nat} {v : Value} {q : Ps} {hb : Nat} {ev : Value} {L : List (Nat × Nat × Nat)} {h : Nat → Nat → Bool} (x : Es w W b fb v q hb ev L h) (k : Below W.heap.size W W') : Es w W' b fb v q hb ev L h := ⟨x.p.low k, x.c.below k, x.g, own_low x.e k⟩
theorem cl_ne {W : World} {hb g t u z n B : Nat} {c xs : List Value} {v : Value} (h : Cl W hb t c) (k : W.ownsRow B u z v n xs) (ht : u ≠ t) : v.ownBlock ≠ some hb := own_ne k h ht
theorem Es.set {w W : World} {b fb : Nat} {v : Value} {q : Ps} {hb : Nat} {ev : Value} {L : List (Nat × Nat × Nat)} {h : Nat → Nat → Bool} (y : Es w W b fb v q hb ev L h) (x : Nat × Nat × Nat) (hf : x.2.2 < 8) (he : x.2.1 < 6) : Es w (W.setCell ⟨hb, x.2.2 * 6 + x.2.1, none⟩ (.bool (decide (x.1 = 1 ∨ x.1 = 2)))) b fb v q hb ev L (rst h x) := by
  have hA := Apart.at (X := fun k => k = hb) W hb (x.2.2 * 6 + x.2.1) (.bool (decide (x.1 = 1 ∨ x.1 = 2))) rfl
  have hc := y.c.set (x.2.2 * 6 + x.2.1) (.bool (decide (x.1 = 1 ∨ x.1 = 2)))
  rw [hCs_set h x hf he] at hc
  have hbp : W.heap[b]? = some (.cells (poolCs fb 8 q.M v).toArray 70 (0, 0)) := y.p.p.c
  obtain ⟨arr, hfr, _⟩ := y.p.p.f
  have hcc : W.heap[hb]? = some (.cells (hCs h).toArray 31 (0, 0)) := y.c
  have n1 : b ≠ hb := fun e => by
    rw [e, hcc] at hbp
    injection hbp with hbp
    injection hbp with _ hbp _
    exact absurd hbp (by decide)
  have n2 : fb ≠ hb := fun e => by
    rw [e, hcc] at hfr
    injection hfr with hfr
    injection hfr with _ hfr _
    exact absurd hfr (by decide)
  exact ⟨⟨y.p.p.stay hA n1 n2 (own_ne y.p.p.e hcc (by decide)), y.p.bl.trans (hA.below w.heap.size (fun k e => by rw [e]; exact y.g) y.p.bl.size)⟩, hc, y.g, own_stay y.e hA (fun g e1 e2 => own_ne y.e hcc (by decide) (e2 ▸ e1))⟩
theorem Es.drew {w W : World} {b fb : Nat} {v : Value} {q : Ps} {hb : Nat} {ev : Value} {L : List (Nat × Nat × Nat)} {h : Nat → Nat → Bool} (x : Es w W b fb v q hb ev L h) : Es w W.drew b fb v q hb ev L h := x.low (below_drew (Below.refl _ _))
theorem ev_cells {w W : World} {b fb : Nat} {v : Value} {q : Ps} {hb : Nat} {ev : Value} {L : List (Nat × Nat × Nat)} {h : Nat → Nat → Bool} (y : Es w W b fb v q hb ev L h) : ∃ a cap, ev = .slice a L.length cap ∧ ∀ (i : Nat) (x : Nat × Nat × Nat), L[i]? = some x → ∃ g, a = some ⟨g, 0, none⟩ ∧ W.cell? ⟨g, i * 3, none⟩ = some (.int .u8 x.1) ∧ W.cell? ⟨g, i * 3 + 1, none⟩ = some (.int .u8 x.2.1) ∧ W.cell? ⟨g, i * 3 + 2, none⟩ = some (.int .u8 x.2.2) := by
  rcases y.e.2 with ⟨h1, h2⟩ | ⟨g, cap, cur, h1, _, h3, _, _, _, h5⟩
  · refine ⟨none, 0, by rw [h1, h2], fun j x hx => ?_⟩
    rw [List.eq_nil_of_length_eq_zero h2] at hx
    cases hx
  · refine ⟨_, cap, h1, fun j x hx => ⟨g, rfl, ?_⟩⟩
    have hj : j < L.length := (List.getElem?_eq_some_iff.1 hx).1
    have key : ∀ d, d < 3 → cur[j * 3 + d]? = (evC (evI x))[d]? := fun d hd => by
      have e1 : (evCs (L.map evI))[j * 3 + d]? = (evC (evI x))[d]? := ev_nth L j x hx d hd
      rw [← h5, List.getElem?_take, if_pos (by omega)] at e1
      simpa using e1
    rw [Lib.cell_of_heap h3, Lib.cell_of_heap h3, Lib.cell_of_heap h3]
    exact ⟨(key 0 (by decide)).trans rfl, (key 1 (by decide)).trans rfl, (key 2 (by decide)).trans rfl⟩
set_option maxHeartbeats 8000000 in
theorem events_law (v : Value) (l : List Dd) (w : World) (hd : Dds w v l) (hNT : NTabs w) : Calls Tryd.prog 4 #[v] w fun r w' => r = .returned (.bool true) ∧ Below w.heap.size w w' := by
  have cP := play_any v l w hd hNT
  obtain ⟨ad, cap, rfl, _⟩ := id hd
  clear hd hNT
  go_enter Tryd.func4, Tryd.ntmps4
  go_wp2_with fail
  refine cP.mono ?_
  rintro r W1 ⟨b, fb, rb, i, rfl, hBo, hi⟩
  have cL := plive_any W1
  have HB := Hid3.mk hBo
  clear cP hBo
  go_wp2_with fail
  refine cL.mono ?_
  rintro r W2 ⟨rfl, hb⟩
  obtain ⟨pv, rv, q, hTw, hRc⟩ := (HB.out.low hb).ex
  have hlen := hRc.len
  have HP : Hid3 (Lv w W2 b fb 8 pv q) := ⟨⟨hTw.p, (HB.out.low hb).bl⟩⟩
  have ho : ∀ i, i < 8 → q.O i < 64 := hTw.p.o
  have HRC := Hid3.mk hRc
  clear cL hb hTw hRc HB
  obtain ⟨L, hE, hrep, hok⟩ := HRC.out.ev.ex
  have HREP := Hid3.mk hrep
  have HOK := Hid3.mk hok
  have HE := Hid3.mk hE
  have HO := Hid3.mk ho
  clear hrep hok hE ho
  have hCl : Cl (W2.alloc (.cells #[.bool false, .bool false, .bool false, .bool false, .bool false, .bool false, .bool false, .bool false, .bool false, .bool false, .bool false, .bool false, .bool false, .bool false, .bool false, .bool false, .bool false, .bool false, .bool false, .bool false, .bool false, .bool false, .bool false, .bool false, .bool false, .bool false, .bool false, .bool false, .bool false, .bool false, .bool false, .bool false, .bool false, .bool false, .bool false, .bool false, .bool false, .bool false, .bool false, .bool false, .bool false, .bool false, .bool false, .bool false, .bool false, .bool false, .bool false, .bool false] 31)) W2.heap.size 31 (hCs fun _ _ => false) := Cl.new W2 31 (hCs fun _ _ => false)
  have hbl0 := below_new W2 (.cells #[.bool false, .bool false, .bool false, .bool false, .bool false, .bool false, .bool false, .bool false, .bool false, .bool false, .bool false, .bool false, .bool false, .bool false, .bool false, .bool false, .bool false, .bool false, .bool false, .bool false, .bool false, .bool false, .bool false, .bool false, .bool false, .bool false, .bool false, .bool false, .bool false, .bool false, .bool false, .bool false, .bool false, .bool false, .bool false, .bool false, .bool false, .bool false, .bool false, .bool false, .bool false, .bool false, .bool false, .bool false, .bool false, .bool false, .bool false, .bool false] 31)
  go_wp2_with fail
  generalize W2.alloc (.cells #[.bool false, .bool false, .bool false, .bool false, .bool false, .bool false, .bool false, .bool false, .bool false, .bool false, .bool false, .bool false, .bool false, .bool false, .bool false, .bool false, .bool false, .bool false, .bool false, .bool false, .bool false, .bool false, .bool false, .bool false, .bool false, .bool false, .bool false, .bool false, .bool false, .bool false, .bool false, .bool false, .bool false, .bool false, .bool false, .bool false, .bool false, .bool false, .bool false, .bool false, .bool false, .bool false, .bool false, .bool false, .bool false, .bool false, .bool false, .bool false] 31) = W3 at *
  have HP3 := Hid3.mk (HP.out.low hbl0)
  have HCl := Hid3.mk hCl
  have hgb := HP.out.bl.size
  have c1 := events_any _ b fb 8 pv q W3 HP3.out.p (by omega)
  rw [HE.out, List.length_map] at c1
  generalize W2.heap.size = hb at *
  clear hCl hbl0 HP
  refine c1.mono ?_
  rintro r W4 ⟨ev, rfl, hown, hbl⟩
  have HES : Hid3 (Es w W4 b fb pv q hb ev L (rep (L.take 0))) := ⟨⟨HP3.out.low hbl, HCl.out.below hbl, hgb, own_base hown HP3.out.bl.size⟩⟩
  obtain ⟨ea, ec, hev, _⟩ := ev_cells HES.out
  subst hev
  have hL50 : L.length ≤ 50 := by
    have := congrArg List.length HE.out
    rw [List.length_map] at this
    omega
  clear c1 hown hbl HP3 HCl
  go_wp2_with fail
  go_loopw [5, 8] (fun s5 s8 wr => ∃ i : Nat, i ≤ L.length ∧ s8 = .int .i64 i ∧ s5 = .bool true ∧ Hid3 (Es w wr b fb pv q hb (.slice ea L.length ec) L (rep (L.take i)))) (fun _ s _ => L.length - (intOf s).toNat)
  case atStart => exact ⟨0, Nat.zero_le _, rfl, rfl, HES⟩
  case round =>
    obtain ⟨i, hi, rfl, rfl, HR⟩ := hrel
    clear HES
    by_cases hlt : i < L.length
    · have hltz : (i : Int) < (L.length : Int) := by omega
      obtain ⟨a2, cap2, hu2, hcell⟩ := ev_cells HR.out
      injection hu2 with hu2 hu3 hu4
      clear hu3 hu4
      obtain ⟨g, hg, x0, x1, x2⟩ := hcell i L[i] (List.getElem?_eq_getElem hlt)
      rw [← hu2] at hg
      subst hg
      obtain ⟨k6, k8, hkind⟩ := HOK.out i L[i] (List.getElem?_eq_getElem hlt)
      have hgl := World.block_lt_of_cell? _ _ x0
      simp only at hgl
      have HTK : Hid3 (rep (L.take (i + 1)) = rst (rep (L.take i)) L[i]) := ⟨by rw [List.take_succ_eq_append_getElem hlt, rep_snoc]⟩
      clear hcell hu2
      generalize L[i] = x at *
      obtain ⟨kd, e, f⟩ := x
      simp only at x0 x1 x2 k6 k8 hkind
      have hez : ¬ (6 : Int) ≤ (e : Int) := by omega
      have hfz : ¬ (8 : Int) ≤ (f : Int) := by omega
      have hez2 : (e : Int) < 6 := by omega
      have hfz2 : (f : Int) < 8 := by omega
      have HKD := Hid3.mk hkind
      generalize hh : rep (L.take i) = h at *
      clear hh hkind
      have HX := Hid3.mk (HR.out.low (below_new wr (.cells #[.int .u8 kd, .int .u8 e, .int .u8 f] 36)))
      have hcx := heap_alloc_new wr (.cells #[.int .u8 kd, .int .u8 e, .int .u8 f] 36)
      have y0 : (wr.alloc (.cells #[.int .u8 kd, .int .u8 e, .int .u8 f] 36)).cell? ⟨wr.heap.size, 0, none⟩ = some (.int .u8 kd) := by rw [Lib.cell_of_heap hcx]; rfl
      have y1 : (wr.alloc (.cells #[.int .u8 kd, .int .u8 e, .int .u8 f] 36)).cell? ⟨wr.heap.size, 1, none⟩ = some (.int .u8 e) := by rw [Lib.cell_of_heap hcx]; rfl
      have y2 : (wr.alloc (.cells #[.int .u8 kd, .int .u8 e, .int .u8 f] 36)).cell? ⟨wr.heap.size, 2, none⟩ = some (.int .u8 f) := by rw [Lib.cell_of_heap hcx]; rfl
      have HY := Hid3.mk (And.intro y0 (And.intro y1 y2))
      have hxl : wr.heap.size < (wr.alloc (.cells #[.int .u8 kd, .int .u8 e, .int .u8 f] 36)).heap.size := by simp
      have HXL := Hid3.mk hxl
      clear hcx y0 y1 y2 hxl
      go_wp2_with fail
      generalize wr.alloc (.cells #[.int .u8 kd, .int .u8 e, .int .u8 f] 36) = W5 at *
      generalize wr.heap.size = xb at *
      clear x0 x1 x2 hgl
      go_loopw [10, 11] (fun s10 s11 wq => ∃ k : Nat, k ≤ 6 ∧ s11 = .int .i64 k ∧ s10 = .bool (preS h f k) ∧ wq = W5) (fun _ s _ => 6 - (intOf s).toNat)
      case atStart => exact ⟨0, Nat.zero_le _, rfl, rfl, rfl⟩
      case round =>
        obtain ⟨k, hk, rfl, rfl, hW⟩ := hrel
        rw [hW]
        clear hW
        obtain ⟨y0, y1, y2⟩ := HY.out
        by_cases hk6 : k < 6
        · have hkz : (k : Int) < 6 := by omega
          have ch : W5.cell? ⟨hb, f * 6 + k, none⟩ = some (.bool (h f k)) := (HX.out.c.cell _).trans (hCs_get h f k k8 hk6)
          have hbl := HX.out.c.lt
          have HS : Hid3 (preS h f (k + 1) = (preS h f k || h f k)) := ⟨rfl⟩
          generalize preS h f k = p0 at *
          generalize h f k = hk0 at *
          obtain ⟨p1, hp1⟩ : ∃ p1, preS h f (k + 1) = p1 := ⟨_, rfl⟩
          have HD := Hid3.mk hp1
          rw [hp1] at HS
          clear hp1
          cases p0 with
          | true =>
            have HS2 : Hid3 (p1 = true) := ⟨by rw [HS.out]; rfl⟩
            clear HS
            go_wp2
            go_roundw
            case rel => exact ⟨k + 1, by omega, by go_num, by rw [HD.out, HS2.out], by first | rfl | trivial⟩
            case measure => simp [intOf]; omega
          | false =>
            cases hk0 with
            | true =>
              have HS2 : Hid3 (p1 = true) := ⟨by rw [HS.out]; rfl⟩
              clear HS
              go_wp2
              go_roundw
              case rel => exact ⟨k + 1, by omega, by go_num, by rw [HD.out, HS2.out], by first | rfl | trivial⟩
              case measure => simp [intOf]; omega
            | false =>
              have HS2 : Hid3 (p1 = false) := ⟨by rw [HS.out]; rfl⟩
              clear HS
              go_wp2
              go_roundw
              case rel => exact ⟨k + 1, by omega, by go_num, by rw [HD.out, HS2.out], by first | rfl | trivial⟩
              case measure => simp [intOf]; omega
        · obtain rfl : k = 6 := by omega
          rw [preS_all]
          have ch : W5.cell? ⟨hb, f * 6 + e, none⟩ = some (.bool (h f e)) := (HX.out.c.cell _).trans (hCs_get h f e k8 k6)
          have fch := HX.out.c.thaw (f * 6 + e)
          have hbl := HX.out.c.lt
          have hxl := HXL.out
          rcases HKD.out with ⟨hkd, hs⟩ | ⟨hkd, hs, hh⟩ | ⟨hkd | hkd, hh⟩
          · rw [hs]
            generalize h f e = hfe at ch
            subst hkd
            have HS5 : Hid3 (Es w (W5.setCell ⟨hb, f * 6 + e, none⟩ (.bool true)) b fb pv q hb (.slice (some ⟨g, 0, none⟩) L.length ec) L (rep (L.take (i + 1)))) := ⟨by rw [HTK.out]; exact HX.out.set (1, e, f) k8 k6⟩
            go_wp2
            go_region
            go_wp2
            go_region
            go_wp2
            go_roundw
            case rel => exact ⟨i + 1, by omega, by go_num, rfl, ⟨HS5.out.drew.drew⟩⟩
            case measure => simp [intOf]; omega
          · rw [hs]
            rw [hh] at ch
            subst hkd
            have HS5 : Hid3 (Es w (W5.setCell ⟨hb, f * 6 + e, none⟩ (.bool true)) b fb pv q hb (.slice (some ⟨g, 0, none⟩) L.length ec) L (rep (L.take (i + 1)))) := ⟨by rw [HTK.out]; exact HX.out.set (2, e, f) k8 k6⟩
            go_wp2
            go_region
            go_wp2
            go_region
            go_wp2
            go_roundw
            case rel => exact ⟨i + 1, by omega, by go_num, rfl, ⟨HS5.out.drew.drew⟩⟩
            case measure => simp [intOf]; omega
          · rw [hh] at ch
            generalize some6 h f = sf at *
            subst hkd
            have HS5 : Hid3 (Es w (W5.setCell ⟨hb, f * 6 + e, none⟩ (.bool false)) b fb pv q hb (.slice (some ⟨g, 0, none⟩) L.length ec) L (rep (L.take (i + 1)))) := ⟨by rw [HTK.out]; exact HX.out.set (3, e, f) k8 k6⟩
            go_wp2
            go_region
            go_wp2
            go_region
            go_wp2
            go_roundw
            case rel => exact ⟨i + 1, by omega, by go_num, rfl, ⟨HS5.out.drew.drew⟩⟩
            case measure => simp [intOf]; omega
          · rw [hh] at ch
            generalize some6 h f = sf at *
            subst hkd
            have HS5 : Hid3 (Es w (W5.setCell ⟨hb, f * 6 + e, none⟩ (.bool false)) b fb pv q hb (.slice (some ⟨g, 0, none⟩) L.length ec) L (rep (L.take (i + 1)))) := ⟨by rw [HTK.out]; exact HX.out.set (4, e, f) k8 k6⟩
            go_wp2
            go_region
            go_wp2
            go_region
            go_wp2
            go_roundw
            case rel => exact ⟨i + 1, by omega, by go_num, rfl, ⟨HS5.out.drew.drew⟩⟩
            case measure => simp [intOf]; omega
    · obtain rfl : i = L.length := by omega
      have hltz : ¬ (L.length : Int) < (L.length : Int) := by omega
      rw [List.take_length] at HR
      have HR0 : Hid3 (Es w wr b fb pv q hb (.slice ea L.length ec) L (rep L)) := HR
      clear HR HOK
      generalize hh : rep L = h at *
      clear hh
      go_wp2_with fail
      go_loopw [5, 13] (fun s5 s13 wq => ∃ f : Nat, f ≤ 8 ∧ s13 = .int .u8 f ∧ s5 = .bool true ∧ Hid3 (Es w wq b fb pv q hb (.slice ea L.length ec) L h)) (fun _ s _ => 9 - (intOf s).toNat)
      case atStart => exact ⟨0, Nat.zero_le _, rfl, rfl, HR0⟩
      case round =>
        obtain ⟨f, hf, rfl, rfl, HQ⟩ := hrel
        clear HR0
        by_cases hf8 : f < 8
        · have hfz : (f : Int) < 8 := by omega
          go_wp2_with fail
          go_loopw [5, 14] (fun s5 s14 wq => ∃ k : Nat, k ≤ 6 ∧ s14 = .int .u8 k ∧ s5 = .bool true ∧ Hid3 (Es w wq b fb pv q hb (.slice ea L.length ec) L h)) (fun _ s _ => 7 - (intOf s).toNat)
          case atStart => exact ⟨0, Nat.zero_le _, rfl, rfl, HQ⟩
          case round =>
            obtain ⟨k, hk, rfl, rfl, HK⟩ := hrel
            by_cases hk6 : k < 6
            · have hkz : (k : Int) < 6 := by omega
              rename World => wv
              have HKd := Hid3.mk HK.out.drew
              have cH := holds_any _ b fb 8 pv q k f (by omega) _ HKd.out.p.p
              rw [oF_at 8 q f hf8] at cH
              have ch := (HKd.out.c.cell _).trans (hCs_get h f k hf8 hk6)
              rw [HREP.out f hf8 k hk6] at ch
              have hSa := Hid3.mk ch
              have hbl := HK.out.c.lt
              generalize (q.O f).testBit k = z at *
              have hzz : (z == z) = true := by simp
              clear ch
              go_wp2_with fail
              go_region_held3 (fun w' => w'.cell? ⟨hb, f * 6 + k, none⟩ = some (.bool z)) (with_reducible exact hSa.out) ((first
                | (go_at_call 13; (with_reducible refine cH.mono ?_); rintro r1 W9 ⟨rfl, hW9⟩; subst hW9)))
              all_goals (
                go_wp2
                go_roundw
                case rel => exact ⟨k + 1, by omega, by go_num, rfl, HKd⟩
                case measure => simp [intOf]; omega)
            · obtain rfl : k = 6 := by omega
              go_wp2
              go_roundw
              case rel => exact ⟨f + 1, by omega, by go_num, rfl, HK⟩
              case measure => simp [intOf]; omega
        · obtain rfl : f = 8 := by omega
          go_wp2
          go_ret
          exact ⟨rfl, HQ.out.p.bl⟩
end Go.Proofs.YtalhlbhhgddddaaDoor
