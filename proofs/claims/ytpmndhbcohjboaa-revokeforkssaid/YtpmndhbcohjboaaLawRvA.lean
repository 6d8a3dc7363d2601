/- RevokeOrder: the walk. -/
import Derived.Test.YtpmndhbcohjboaaRvY
namespace Go.Proofs.Ytpmndhbcohjboaa
open Go.RowKit Go.Maps
set_option linter.unusedVariables false
set_option maxRecDepth 100000
theorem Mv.liv {w w' : World} {b m rb : Nat} {q : Rs} (h : Mv w.heap.size w.heap.size w w' b m rb q) : Liv w w' b m q := by
  obtain ⟨av, lv, vs, ls, t⟩ := h.two
  exact ⟨⟨av, vs, t.t⟩, h.below⟩
theorem Liv.post {w W W' : World} {b m : Nat} {q : Rs} (h : Liv w W b m q) (k : Below W.heap.size W W') : Liv w W' b m q := by
  obtain ⟨av, vs, t⟩ := h.out
  exact ⟨⟨av, vs, t.below k⟩, h.below.trans (k.mono h.below.size)⟩
theorem vAt_next (x : Int) (q : Rs) : vAt x (nextQ x q) = (vAt x q).tail := by
  by_cases h : 0 ≤ x ∧ x < 6
  · obtain ⟨k, rfl⟩ : ∃ k : Nat, x = k := ⟨x.toNat, by omega⟩
    have hk : k < 6 := by omega
    rw [vAt_ok _ k hk, vAt_ok _ k hk]
    exact if_pos rfl
  · have e : ∀ q : Rs, vAt x q = [] := fun q => by
      unfold vAt
      by_cases h6 : x.toNat < 6
      · rw [dif_pos h6, if_neg (by omega)]
      · rw [dif_neg h6]
    rw [e, e]
    rfl
def qn (x : Int) : Nat → Rs → Rs
  | 0, q => q
  | k + 1, q => nextQ x (qn x k q)
theorem vAt_qn (x : Int) (q : Rs) : ∀ k, vAt x (qn x k q) = (vAt x q).drop k
  | 0 => rfl
  | k + 1 => by
    show vAt x (nextQ x (qn x k q)) = _
    rw [vAt_next, vAt_qn x q k, List.tail_drop]
theorem qn_ok {x : Int} {q : Rs} {N : Nat} (h : q.Ok N) : ∀ k, (qn x k q).Ok N
  | 0 => h
  | k + 1 => by
    have := qn_ok (x := x) h k
    exact ⟨this.few, this.keys, this.rng, fun e => by
      have h2 := this.vec e
      show (if (e.1 : Int) = x then ((qn x k q).v e).tail else (qn x k q).v e).length + (qn x k q).d.length ≤ N
      split
      · rw [List.length_tail]
        omega
      · exact h2⟩
/-- A book, and a row that is none of its own. -/
structure OrdI (w wr : World) (b m : Nat) (q : Rs) (r : Value) (V : List Int) : Prop where
  out : ∃ av vs, Bk w.heap.size wr b m av vs q ∧ ∀ g, r.ownBlock = some g → ¬ XK b m av vs g
  row : RowO wr w.heap.size 5 1 r V.length (uCs V)
  below : Below w.heap.size w wr
theorem OrdI.step {w wr w' : World} {b m : Nat} {q q' : Rs} {r : Value} {V : List Int} {av : Value} {vs : Fin 6 → Value} (h : OrdI w wr b m q r V) (hb : Bk w.heap.size wr b m av vs q) (hx : ∀ g, r.ownBlock = some g → ¬ XK b m av vs g) (s : BStp w.heap.size wr w' b m av vs q') : OrdI w w' b m q' r V := by
  obtain ⟨av', vs', s1, s2, s3⟩ := s.out
  refine ⟨⟨av', vs', s1, fun g hg e => ?_⟩, h.row.stay s2 hx, h.below.trans (s2.below _ (fun k e => (hb.lt k e).1) h.below.size)⟩
  rcases s3 g e with e | e
  · exact hx g hg e
  · have := (h.row.lt g hg).2
    omega
theorem OrdI.post {w wr w' : World} {b m : Nat} {q : Rs} {r : Value} {V : List Int} (h : OrdI w wr b m q r V) (k : Below wr.heap.size wr w') : OrdI w w' b m q r V := by
  obtain ⟨av, vs, t, hx⟩ := h.out
  exact ⟨⟨av, vs, t.below k, hx⟩, h.row.below k, h.below.trans (k.mono h.below.size)⟩
theorem OrdI.start {w W1 W2 : World} {b m : Nat} {q : Rs} {r : Value} {V : List Int} {av : Value} {vs : Fin 6 → Value} (hb : Bk w.heap.size W1 b m av vs q) (hw : Below w.heap.size w W1) (k : Below W1.heap.size W1 W2) (hr : RowO W2 W1.heap.size 5 1 r V.length (uCs V)) : OrdI w W2 b m q r V :=
  ⟨⟨av, vs, hb.below k, fun g hg e => by
    have := (hb.lt g e).2
    have := (hr.lt g hg).1
    omega⟩, hr.base hw.size, hw.trans (k.mono hw.size)⟩
set_option maxHeartbeats 4000000 in
theorem order_law (v : Value) (l : List Dd) (x : Int) (w : World) (hd : Dds w v l) (hok : ∀ d ∈ l, d.Ok) (hx : 0 ≤ x) : Calls Try.prog 5 #[v, .int .u8 x] w fun e w' => e = .returned (.bool true) ∧ Below w.heap.size w w' := by
  have cP := play_any v l w hd hok
  clear hd
  go_enter Try.func5, Try.ntmps5
  go_wp2_with fail
  refine cP.mono ?_
  rintro r W1 ⟨b, m, rb, rfl, hM, hO⟩
  generalize playQ (l.take 50) q0 = q at *
  have HO := Hid3.mk hO
  have HL1 := Hid3.mk hM.liv
  clear cP hM hO
  go_wp2_with fail
  refine (live_any _).mono ?_
  rintro r W2 ⟨rfl, hB⟩
  have hl := HL1.out.post hB
  obtain ⟨av, vs, hb⟩ := hl.out
  have cL := lost_any w.heap.size b m av vs q 50 x hx W2 hb HO.out (by omega)
  have H2 := Hid3.mk (And.intro hb hl.below)
  clear hB HL1 hl hb
  go_wp2_with fail
  refine cL.mono ?_
  rintro e W3 ⟨r, rfl, hr, hB⟩
  obtain ⟨ar, kr, rfl⟩ := hr.sl
  have H3 := Hid3.mk (OrdI.start H2.out.1 H2.out.2 hB hr)
  have hlen : (vAt x q).length ≤ 50 := by
    by_cases h6 : x < 6
    · obtain ⟨k, rfl⟩ : ∃ k : Nat, x = k := ⟨x.toNat, by omega⟩
      rw [vAt_ok q k (by omega)]
      have := HO.out.vec ⟨k, by omega⟩
      omega
    · rw [vAt_bad q (by omega)]
      exact Nat.zero_le _
  clear cL hr hB H2
  go_wp2
  go_loopw [9, 10, 11] (fun s9 _ _ wr => ∃ kk : Nat, kk ≤ (vAt x q).length ∧ s9 = .int .i64 kk ∧ Hid3 (OrdI w wr b m (qn x kk q) (.slice ar (vAt x q).length kr) (vAt x q))) (fun s9 _ _ _ => (vAt x q).length - (intOf s9).toNat)
  case atStart => exact ⟨0, Nat.zero_le _, rfl, H3⟩
  case round =>
    obtain ⟨kk, hkk, rfl, HI⟩ := hrel
    clear H3
    obtain ⟨av, vs, hb, hxx⟩ := HI.out.out
    have cN := next_any w.heap.size b m av vs (qn x kk q) x hx wr hb
    have hv := vAt_qn x q kk
    by_cases hlt : kk < (vAt x q).length
    · have hltz : (kk : Int) < ((vAt x q).length : Int) := by omega
      have hdr : (vAt x q).drop kk = (vAt x q)[kk] :: (vAt x q).drop (kk + 1) := (List.getElem_cons_drop hlt).symm
      have hnv : nextV x (qn x kk q) = (vAt x q)[kk] := by
        unfold nextV
        rw [hv, hdr]
        rfl
      have hnb : nextB x (qn x kk q) = true := by
        unfold nextB
        rw [hv, hdr]
        rfl
      rw [hnv, hnb] at cN
      have HS : Hid3 (∀ W, BStp w.heap.size wr W b m av vs (nextQ x (qn x kk q)) → OrdI w W b m (qn x (kk + 1) q) (.slice ar (vAt x q).length kr) (vAt x q)) := ⟨fun W s => HI.out.step hb hxx s⟩
      have HC : Hid3 (∀ W, OrdI w W b m (qn x (kk + 1) q) (.slice ar (vAt x q).length kr) (vAt x q) → ∃ g off, ar = some ⟨g, off, none⟩ ∧ W.cell? ⟨g, off + kk, none⟩ = some (.int .u8 (vAt x q)[kk])) := ⟨fun W hW => by
        rcases hW.row.form with ⟨_, h, _⟩ | ⟨g, off, cap, h, _, _, hg, hc⟩
        · omega
        · injection h with h _ _
          exact ⟨g, off, h, hc _ _ (uCs_at _ kk hlt)⟩⟩
      clear hv hdr hnv hnb hb hxx HI
      generalize (vAt x q)[kk] = y at *
      go_wp2_with fail
      refine cN.mono ?_
      rintro e W ⟨rfl, hs⟩
      have HI2 := Hid3.mk (HS.out W hs)
      obtain ⟨g, off, rfl, c0⟩ := HC.out W HI2.out
      clear cN hs HS HC
      go_wp2
      go_roundw
      case rel => exact ⟨kk + 1, by omega, by go_num, HI2⟩
      case measure => simp [intOf]; omega
    · have hltz : ¬ (kk : Int) < ((vAt x q).length : Int) := by omega
      obtain rfl : kk = (vAt x q).length := by omega
      have hnil : vAt x (qn x (vAt x q).length q) = [] := by rw [hv, List.drop_length]
      have hnv : nextV x (qn x (vAt x q).length q) = 0 := by unfold nextV; rw [hnil]; rfl
      have hnb : nextB x (qn x (vAt x q).length q) = false := by unfold nextB; rw [hnil]; rfl
      rw [hnv, hnb, next_id hnil] at cN
      have HS : Hid3 (∀ W, BStp w.heap.size wr W b m av vs (qn x (vAt x q).length q) → OrdI w W b m (qn x (vAt x q).length q) (.slice ar (vAt x q).length kr) (vAt x q)) := ⟨fun W s => HI.out.step hb hxx s⟩
      have HO2 := Hid3.mk (qn_ok (x := x) HO.out (vAt x q).length)
      have HN := Hid3.mk hnil
      clear hv hnv hnb hb hxx HI hnil
      generalize qn x (vAt x q).length q = q2 at *
      go_wp2_with fail
      refine cN.mono ?_
      rintro e W ⟨rfl, hs⟩
      have HI2 := Hid3.mk (HS.out W hs)
      obtain ⟨av2, vs2, hb2, _⟩ := HI2.out.out
      have cL2 := lost_any w.heap.size b m av2 vs2 q2 50 x hx W hb2 HO2.out (by omega)
      rw [HN.out] at cL2
      clear cN hs HS hb2
      go_wp2_with fail
      refine cL2.mono ?_
      rintro e W5 ⟨r5, rfl, hr5, hB5⟩
      obtain ⟨a5, k5, rfl⟩ := hr5.sl
      have HB5 := Hid3.mk (HI2.out.below.trans (hB5.mono HI2.out.below.size))
      clear cL2 hr5 hB5 HI2
      go_wp2
      go_ret
      exact ⟨rfl, HB5.out⟩
end Go.Proofs.Ytpmndhbcohjboaa
