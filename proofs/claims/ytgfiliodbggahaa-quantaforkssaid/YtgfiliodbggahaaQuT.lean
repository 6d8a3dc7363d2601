/- The document's Places; when rows of numbers are the same; both Forks. -/
import Derived.Test.YtgfiliodbggahaaQuS
namespace Go.Proofs.Ytgfiliodbggahaa
open Go.RowKit Go.Maps
set_option linter.unusedVariables false
set_option maxRecDepth 100000
theorem pcL_snoc (e : Fin 6) (pl : Fin 8 → Option (Fin 6)) (k : Nat) (h : k < 8) : pcL e.1 (tkL pl 0 (k + 1)) = pcL e.1 (tkL pl 0 k) ++ (if pl (fin8 k h) = some e then [k] else []) := by
  rw [pcL_eq, pcL_eq]
  simp only [tkL]
  rw [pcF_append, List.map_append, ord0 k h, pcF_one]
  split <;> rfl
theorem pcL_len (e : Int) (pl : Fin 8 → Option (Fin 6)) (k : Nat) : (pcL e (tkL pl 0 k)).length ≤ k := by
  unfold pcL
  rw [List.length_map]
  exact Nat.le_trans (List.length_filter_le _ _) (tkL_len pl 0 k)
theorem own_base {w : World} {B B' e : Nat} {v : Value} {n : Nat} {xs : List Value} (h : w.ownsRow B' e 1 v n xs) (hB : B ≤ B') : w.ownsRow B e 1 v n xs := Go.Joins.ownsRow_le h hB
set_option maxHeartbeats 1000000 in
theorem rplaces_bad (rb : Nat) (e : Int) (w : World) (he : 6 ≤ e) : Calls Try.prog 29 #[.pointer (some ⟨rb, 0, none⟩), .int .u8 e] w fun r w' => r = .returned (.slice none 0 0) ∧ w' = w := by
  have cT := rmay_bad rb e 0 w (.inl he)
  go_enter Try.func29, Try.ntmps29
  go_wp2_with fail
  go_loopw [5, 6] (fun s5 s6 wr => s5 = .slice none 0 0 ∧ s6 = .int .i64 0 ∧ wr = w) (fun _ _ _ => 0)
  case atStart => exact ⟨rfl, rfl, rfl⟩
  case round =>
    obtain ⟨rfl, rfl, rfl⟩ := hrel
    go_wp2_with fail
    refine cT.mono ?_
    rintro r W ⟨rfl, rfl⟩
    go_wp2
    go_ret
    exact ⟨rfl, rfl⟩
set_option maxHeartbeats 1000000 in
theorem rplaces_ok (B rb : Nat) (q : Qs) (e : Fin 6) (w : World) (h : Rv B w rb q) : Calls Try.prog 29 #[.pointer (some ⟨rb, 0, none⟩), .int .u8 e.1] w fun r w' => ∃ v, r = .returned v ∧ w'.ownsRow w.heap.size 3 1 v (pcL e.1 (tkL q.pl 0 8)).length ((pcL e.1 (tkL q.pl 0 8)).map natV) ∧ Below w.heap.size w w' := by
  have cT := rmay_ok rb e
  have cE := fun W => rmay_bad rb e.1 8 W (.inr (.inr (Int.le_refl 8)))
  have HV : Hid (Rv B w rb q) := h
  have he6 : (e.1 : Int) < 6 := by have := e.2; omega
  obtain ⟨i0, hi, hz0, hz1, hz2⟩ := info_parts infoI
  clear h
  go_enter Try.func29, Try.ntmps29
  go_wp2_with fail
  go_loopw [5, 6] (fun s5 s6 wr => ∃ k : Nat, k ≤ 8 ∧ s6 = .int .i64 k ∧ wr.ownsRow w.heap.size 3 1 s5 (pcL e.1 (tkL q.pl 0 k)).length ((pcL e.1 (tkL q.pl 0 k)).map natV) ∧ Hid (Below w.heap.size w wr)) (fun _ s _ => 9 - (intOf s).toNat)
  case atStart => exact ⟨0, Nat.zero_le _, rfl, World.ownsRow_nil _ _ _ _, Below.refl _ _⟩
  case round =>
    obtain ⟨k, hk, rfl, hown, HB⟩ := hrel
    by_cases hlt : k < 8
    · have hltz : (k : Int) < 8 := by omega
      have cT' := cT (fin8 k hlt) wr
      change Calls _ _ #[_, _, .int .i64 k] _ _ at cT'
      have HN : Hid (pcL e.1 (tkL q.pl 0 (k + 1)) = pcL e.1 (tkL q.pl 0 k) ++ (if q.pl (fin8 k hlt) = some e then [k] else [])) := pcL_snoc e q.pl k hlt
      have hlen := pcL_len e.1 q.pl k
      have c0 : wr.cell? ⟨rb, k, none⟩ = some (.int .i64 (refV (q.pl (fin8 k hlt)))) := (HV.out.below HB.out).c.cl (fin8 k hlt)
      have z0 := refV_some (q.pl (fin8 k hlt)) e
      have hsz := HB.out.size
      clear cT cE
      generalize hx : pcL e.1 (tkL q.pl 0 (k + 1)) = N1 at *
      generalize pcL e.1 (tkL q.pl 0 k) = N0 at *
      obtain ⟨a0, cap0, hvf⟩ : ∃ a cap, u5 = .slice a N0.length cap := by
        rcases hown.2 with ⟨hv0, hk0⟩ | ⟨g, cap, cur, hv0, _⟩
        · exact ⟨none, 0, by rw [hk0]; exact hv0⟩
        · exact ⟨_, _, hv0⟩
      subst hvf
      by_cases hs : q.pl (fin8 k hlt) = some e
      · rw [decide_eq_true hs] at z0
        have HN2 : Hid (N1 = N0 ++ [k]) := by show N1 = _; rw [HN.out, if_pos hs]
        have HX : Hid (pcL e.1 (tkL q.pl 0 (k + 1)) = N1) := hx
        clear hs HN hx
        generalize refV (q.pl (fin8 k hlt)) = z at *
        go_wp2_with fail
        refine cT'.mono ?_
        rintro r W ⟨rfl, hW⟩
        rw [hW]
        clear cT' hW
        go_wp2_with (at_builtin; refine wpList_append_own _ rfl _ _ 31 rfl w.heap.size 3 i0 (.int .i64 0) 1 8 Try.underlying31 hi hz0 hz1 hz2 rfl (by decide) _ _ _ rfl (hown.alloc _) ⟨wr.heap.size, 0, none⟩ 1 1 [natV k] rfl rfl (cell_one_new _ _ _) (by simp [natV, Value.oneCell']) (by unfold maxLen; omega) (by omega) (by simp; omega) ?_; intro v' w1 hown' hgrow _; obtain ⟨g', cap', rfl⟩ := ownsRow_succ hown')
        go_roundw
        case rel => exact ⟨k + 1, by omega, by go_num, by rw [HX.out, HN2.out, List.length_append, List.map_append]; exact hown', (HB.out.alloc HB.out.size _).grown hgrow (by have := HB.out.size; simp; omega) (fun j ej => (hown.lt j ej).1)⟩
        case measure => simp [intOf]; omega
      · rw [decide_eq_false hs] at z0
        have HN2 : Hid (N1 = N0) := by show N1 = _; rw [HN.out, if_neg hs, List.append_nil]
        have HX : Hid (pcL e.1 (tkL q.pl 0 (k + 1)) = N1) := hx
        clear hs HN hx
        generalize refV (q.pl (fin8 k hlt)) = z at *
        go_wp2_with fail
        refine cT'.mono ?_
        rintro r W ⟨rfl, hW⟩
        rw [hW]
        clear cT' hW
        go_wp2
        go_roundw
        case rel => exact ⟨k + 1, by omega, by go_num, by rw [HX.out, HN2.out]; exact hown, HB.out⟩
        case measure => simp [intOf]; omega
    · obtain rfl : k = 8 := by omega
      have cE' := cE wr
      clear cT cE
      go_wp2_with fail
      refine cE'.mono ?_
      rintro r W ⟨rfl, hW⟩
      rw [hW]
      clear cE' hW
      go_wp2
      go_ret
      exact ⟨_, rfl, hown, HB.out⟩
set_option maxHeartbeats 1000000 in
theorem sameints_any (v u : Value) (L : List Nat) (w : World) (hv : Ints w v L) (hu : Ints w u L) (hL : L.length ≤ 1000) :
    Calls Try.prog 28 #[v, u] w fun e w' => e = .returned (.bool true) ∧ Below w.heap.size w w' := by
  obtain ⟨ad, cap, rfl, hcell⟩ := hv
  obtain ⟨ad2, cap2, rfl, hcell2⟩ := hu
  have HC : Hid (∀ (j n : Nat), L[j]? = some n → ∃ g off, ad = some ⟨g, off, none⟩ ∧ w.cell? ⟨g, off + j, none⟩ = some (.int .i64 n)) := hcell
  have HC2 : Hid (∀ (j n : Nat), L[j]? = some n → ∃ g off, ad2 = some ⟨g, off, none⟩ ∧ w.cell? ⟨g, off + j, none⟩ = some (.int .i64 n)) := hcell2
  clear hcell hcell2
  have hne : ((L.length : Int) != (L.length : Int)) = false := by simp
  go_enter Try.func28, Try.ntmps28
  go_wp2
  go_loopw [5] (fun s5 wr => ∃ kk nq : Nat, kk ≤ L.length ∧ s5 = .int .i64 kk ∧ wr = w.drewN nq) (fun s5 _ => L.length - (intOf s5).toNat)
  case atStart => exact ⟨0, 0, Nat.zero_le _, rfl, rfl⟩
  case round =>
    obtain ⟨kk, nq, hkk, rfl, rfl⟩ := hrel
    by_cases hlt : kk < L.length
    · have hltz : (kk : Int) < (L.length : Int) := by omega
      obtain ⟨g, off, rfl, c0⟩ := HC.out kk L[kk] (List.getElem?_eq_getElem hlt)
      obtain ⟨g', off', rfl, d0⟩ := HC2.out kk L[kk] (List.getElem?_eq_getElem hlt)
      generalize ((L[kk] : Nat) : Int) = y at *
      have hyy : (y != y) = false := by simp
      go_wp2_with fail
      go_quiet (fail)
      go_wp2
      go_roundw
      case rel => exact ⟨kk + 1, _, by omega, by go_num, rfl⟩
      case measure => simp [intOf]; omega
    · have hltz : ¬ (kk : Int) < (L.length : Int) := by omega
      go_wp2
      go_ret
      exact ⟨rfl, ⟨rfl, rfl, rfl, Nat.le_refl _, fun _ _ => rfl⟩⟩
set_option maxHeartbeats 1000000 in
theorem rfork_any (B rb : Nat) (q : Qs) (w : World) (h : Rv B w rb q) : Calls Try.prog 23 #[.pointer (some ⟨rb, 0, none⟩)] w fun r w' => r = .returned (.pointer (some ⟨w.heap.size, 0, none⟩)) ∧ Rv w.heap.size w' w.heap.size q ∧ Below w.heap.size w w' := by
  have hV : Rv w.heap.size (w.alloc (.cells (rCs q).toArray 64)) w.heap.size q := ⟨Nat.le_refl _, Cl.new w _ _⟩
  have l0 := h.c.cl 0
  have l1 := h.c.cl 1
  have l2 := h.c.cl 2
  have l3 := h.c.cl 3
  have l4 := h.c.cl 4
  have l5 := h.c.cl 5
  have l6 := h.c.cl 6
  have l7 := h.c.cl 7
  have p0 := h.c.cp 0
  have p1 := h.c.cp 1
  have p2 := h.c.cp 2
  have p3 := h.c.cp 3
  have p4 := h.c.cp 4
  have p5 := h.c.cp 5
  have cn := h.c.cn
  have HV : Hid (Rv w.heap.size (w.alloc (.cells #[.int .i64 (refV (q.pl 0)), .int .i64 (refV (q.pl 1)), .int .i64 (refV (q.pl 2)), .int .i64 (refV (q.pl 3)), .int .i64 (refV (q.pl 4)), .int .i64 (refV (q.pl 5)), .int .i64 (refV (q.pl 6)), .int .i64 (refV (q.pl 7)), .int .i64 (q.pen 0), .int .i64 (q.pen 1), .int .i64 (q.pen 2), .int .i64 (q.pen 3), .int .i64 (q.pen 4), .int .i64 (q.pen 5), .int .i64 q.now.1] 64)) w.heap.size q) := hV
  change w.cell? ⟨rb, 0, none⟩ = _ at l0
  change w.cell? ⟨rb, 1, none⟩ = _ at l1
  change w.cell? ⟨rb, 2, none⟩ = _ at l2
  change w.cell? ⟨rb, 3, none⟩ = _ at l3
  change w.cell? ⟨rb, 4, none⟩ = _ at l4
  change w.cell? ⟨rb, 5, none⟩ = _ at l5
  change w.cell? ⟨rb, 6, none⟩ = _ at l6
  change w.cell? ⟨rb, 7, none⟩ = _ at l7
  change w.cell? ⟨rb, 8, none⟩ = _ at p0
  change w.cell? ⟨rb, 9, none⟩ = _ at p1
  change w.cell? ⟨rb, 10, none⟩ = _ at p2
  change w.cell? ⟨rb, 11, none⟩ = _ at p3
  change w.cell? ⟨rb, 12, none⟩ = _ at p4
  change w.cell? ⟨rb, 13, none⟩ = _ at p5
  clear hV h
  go_enter Try.func23, Try.ntmps23
  go_wp2
  go_ret
  exact ⟨rfl, HV.out, below_new w _⟩
end Go.Proofs.Ytgfiliodbggahaa
