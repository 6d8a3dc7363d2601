/- The document's disk: New, Set, Sector, Waiting, Size. -/
import Derived.Test.YtlnjpgcaciemnaaDevR
namespace Go.Proofs.Ytlnjpgcaciemnaa
open Go.RowKit Go.Maps
set_option linter.unusedVariables false
set_option maxRecDepth 100000
theorem step_app8 {w : World} {ops : Array Oper} {o : Oper} {a : Act} {K : Act → World → Prop} {Q0 : Exit → Act → World → Prop} {E : Prop} (hgd : o.guard = none) (s x : Operand)
    (ho : o.op = .call { callee := .builtin .append, args := #[s, x], argTypes := #[36, 36] })
    (B : Nat) (v : Value) (n0 : Nat) (xs : List Value) (ad : Addr) (cap n : Nat) (cs : List Value) (hs : a.eval s = v) (hx : a.eval x = .slice (some ad) n cap) (hown : w.ownsRow B 5 1 v n0 xs) (hlen : cs.length = n) (hcell : ∀ j u, cs[j]? = some u → w.cell? (ad.add j) = some u) (hone : ∀ u ∈ cs, u.oneCell' = true) (hl : n0 + n ≤ 1000) (hB : B ≤ w.heap.size)
    (h : ∀ v' w', w'.ownsRow B 5 1 v' (n0 + n) (xs ++ cs) → w.grownBy w' v.ownBlock → (v'.ownBlock = v.ownBlock ∨ v'.ownBlock = some w.heap.size) → K (a.put o.dst v') w') :
    if Region.wanted o (yielded ops a.tmps) = true then Oper.wp Try.prog o a w K Q0 else E := by
  obtain ⟨i, hi, hz, hs1, hb⟩ := info_parts infoU8
  have hw : Region.wanted o (yielded ops a.tmps) = true := by simp [Region.wanted, hgd]
  obtain ⟨v', w', hr, h2, h3, _, h5⟩ := run_append_own_at (P := Try.prog) w B 36 o.type 5 i _ 1 1 Try.underlying36 hi hz hs1 hb rfl (by omega) v n0 xs hown ad n cap cs (by rw [hlen, Nat.mul_one]) hcell hone (by unfold maxLen; omega) (by omega) hB
  rw [if_pos hw]
  unfold Oper.wp execOp
  simp only [ho, resolve, invoke, builtin, Sem.run_bind, Sem.run_pure, Result.andThen_ok, List.map_toArray, List.map_cons, List.map_nil, hs, hx, hr]
  exact h v' w' h2 h3 h5
theorem infoS8 : (Try.prog.info? 36).map (fun i => (i.zero, i.size, i.bytes)) = some (some (.slice none 0 0), 1, 24) := by kernel_rfl
theorem step_appS {w : World} {ops : Array Oper} {o : Oper} {a : Act} {K : Act → World → Prop} {Q0 : Exit → Act → World → Prop} {E : Prop} (hgd : o.guard = none) (s x : Operand)
    (ho : o.op = .call { callee := .builtin .append, args := #[s, x], argTypes := #[89, 89] })
    (B : Nat) (v : Value) (n0 : Nat) (xs : List Value) (ad : Addr) (cap n : Nat) (cs : List Value) (hs : a.eval s = v) (hx : a.eval x = .slice (some ad) n cap) (hown : w.ownsRow B 36 1 v n0 xs) (hlen : cs.length = n) (hcell : ∀ j u, cs[j]? = some u → w.cell? (ad.add j) = some u) (hone : ∀ u ∈ cs, u.oneCell' = true) (hl : n0 + n ≤ 1000) (hB : B ≤ w.heap.size)
    (h : ∀ v' w', w'.ownsRow B 36 1 v' (n0 + n) (xs ++ cs) → w.grownBy w' v.ownBlock → (v'.ownBlock = v.ownBlock ∨ v'.ownBlock = some w.heap.size) → K (a.put o.dst v') w') :
    if Region.wanted o (yielded ops a.tmps) = true then Oper.wp Try.prog o a w K Q0 else E := by
  obtain ⟨i, hi, hz, hs1, hb⟩ := info_parts infoS8
  have hw : Region.wanted o (yielded ops a.tmps) = true := by simp [Region.wanted, hgd]
  obtain ⟨v', w', hr, h2, h3, _, h5⟩ := run_append_own_at (P := Try.prog) w B 89 o.type 36 i _ 1 24 Try.underlying89 hi hz hs1 hb rfl (by omega) v n0 xs hown ad n cap cs (by rw [hlen, Nat.mul_one]) hcell hone (by unfold maxLen; omega) (by omega) hB
  rw [if_pos hw]
  unfold Oper.wp execOp
  simp only [ho, resolve, invoke, builtin, Sem.run_bind, Sem.run_pure, Result.andThen_ok, List.map_toArray, List.map_cons, List.map_nil, hs, hx, hr]
  exact h v' w' h2 h3 h5
theorem rdsize_any (B : Nat) (X : Nat → Prop) (rb og n : Nat) (S : List Int) (u : Value) (last : Int) (Q : List Rq) (w : World) (h : Rk B X w rb og n S u last Q) : Calls Try.prog 28 #[.pointer (some ⟨rb, 0, none⟩)] w fun e w' => e = .returned (.int .i64 n) ∧ w' = w := by
  obtain ⟨C, hC, c0, _⟩ := h.c
  clear h
  go_enter Try.func28, Try.ntmps28
  go_wp2
  go_ret
  exact ⟨rfl, rfl⟩
set_option maxHeartbeats 2000000 in
theorem rwaiting_any (B : Nat) (X : Nat → Prop) (rb og n : Nat) (S : List Int) (u : Value) (last : Int) (Q : List Rq) (w : World) (h : Rk B X w rb og n S u last Q) : Calls Try.prog 33 #[.pointer (some ⟨rb, 0, none⟩)] w fun e w' => (∃ v, e = .returned v ∧ w'.ownsRow w.heap.size 45 5 v Q.length (rqsCs Q)) ∧ Below w.heap.size w w' := by
  obtain ⟨C, hC, c0, c1, c2, fz⟩ := h.c
  have hlt := h.lt
  have hfew := h.few
  obtain ⟨i5, hi5, hz5, hs5, hb5⟩ := info_parts infoR
  obtain ⟨a, cap, rfl, hcap, hnone, hcell⟩ := h.req
  have hX : Below w.heap.size w (w.alloc (.cells #[] 45)) := (Below.refl _ w).alloc (Nat.le_refl _) _
  have hown : (w.alloc (.cells #[] 45)).ownsRow w.heap.size 45 5 (.slice (some ⟨w.heap.size, 0, none⟩) 0 0) 0 [] := World.ownsRow_made w #[] 0 (Nat.le_refl _) (by unfold maxLen; omega) rfl
  have hne : rb ≠ w.heap.size := by omega
  have HX := Hid3.mk hX
  cases a with
  | none =>
    have hQ : Q = [] := by
      cases Q with
      | nil => rfl
      | cons r l =>
        obtain ⟨g, e, _⟩ := hcell _ _ (rqsCs_at (r :: l) 0 r rfl).1
        cases e
    obtain rfl := hnone rfl
    subst hQ
    simp only [List.length_nil] at *
    have HO := Hid3.mk hown
    clear h hX hcell hnone
    go_enter Try.func33, Try.ntmps33
    go_wp2_with (at_builtin; refine wpList_append_own_none rfl _ _ 39 rfl w.heap.size 45 i5 5 Try.underlying39 hi5 (.slice (some ⟨w.heap.size, 0, none⟩) 0 0) 0 [] rfl hown rfl ?_)
    go_ret
    exact ⟨⟨_, rfl, HO.out⟩, HX.out⟩
  | some ad =>
    have hcl : ∀ j x, (rqsCs Q)[j]? = some x → (w.alloc (.cells #[] 45)).cell? (ad.add j) = some x := fun j x hj => by
      obtain ⟨g, e, _, c⟩ := hcell j x hj
      injection e with e
      subst e
      rw [Addr.add_mid, Nat.zero_add]
      exact (hX.cell (p := ⟨g, j, none⟩) (World.block_lt_of_cell? w _ c)).trans c
    have hlen := rqsCs_len Q
    have hone := rqsCs_one Q
    have HC := Hid3.mk hcl
    have HL := Hid3.mk hlen
    have H1 := Hid3.mk hone
    have HO := Hid3.mk hown
    clear h hX hcell hcl hlen hone hown hnone
    generalize rqsCs Q = cs at *
    generalize Q.length = k at *
    go_enter Try.func33, Try.ntmps33
    go_wp2_with (at_builtin; refine wpList_append_own_at _ rfl _ _ 39 rfl w.heap.size 45 i5 (.agg #[.int .u32 0, .bool false, .int .i64 0, .int .i64 0, .int .u8 0]) 5 32 Try.underlying39 hi5 hz5 hs5 hb5 rfl (by decide) (.slice (some ⟨w.heap.size, 0, none⟩) 0 0) 0 [] rfl HO.out ad k cap cs rfl HL.out HC.out H1.out (by unfold maxLen; omega) (by omega) (by simp) ?_; intro v' w3 hown' hgrow _ hat)
    have hb3 : Below w.heap.size w w3 := HX.out.grown hgrow (by simp) (fun j hj => by have e' : w.heap.size = j := Option.some.inj hj; omega)
    rw [Nat.zero_add, List.nil_append] at hown'
    have H9 := Hid3.mk hown'
    clear hown' hgrow hat
    go_ret
    exact ⟨⟨_, rfl, H9.out⟩, hb3⟩
set_option maxHeartbeats 2000000 in
theorem rsector_any (B : Nat) (X : Nat → Prop) (rb og n : Nat) (S : List Int) (u : Value) (last : Int) (Q : List Rq) (i : Int) (w : World) (h : Rk B X w rb og n S u last Q) : Calls Try.prog 29 #[.pointer (some ⟨rb, 0, none⟩), .int .i64 i] w fun e w' => (∃ v, e = .returned (.tuple #[v, .int .i64 (scE n i)]) ∧ Txt w' v (scT n S i)) ∧ Below w.heap.size w w' := by
  obtain ⟨C, hC, c0, c1, c2, fz⟩ := h.c
  have hlt := h.lt
  have hn64 := h.n64
  unfold scE scT
  by_cases h1 : i < 0
  · rw [if_neg (by omega), if_neg (by omega)]
    clear h
    go_enter Try.func29, Try.ntmps29
    go_wp2
    go_ret2
    exact ⟨⟨_, rfl, Txt.nil _⟩, Below.refl _ _⟩
  by_cases h2 : (n : Int) ≤ i
  · rw [if_neg (by omega), if_neg (by omega)]
    clear h
    go_enter Try.func29, Try.ntmps29
    go_wp2
    go_ret2
    exact ⟨⟨_, rfl, Txt.nil _⟩, Below.refl _ _⟩
  · rw [if_pos (by omega), if_pos (by omega)]
    obtain ⟨j, rfl⟩ := Int.eq_ofNat_of_zero_le (show 0 ≤ i by omega)
    rw [Int.toNat_natCast]
    have hj : j < n := by omega
    obtain ⟨g, cap, hrow, hcap, hgl, _, hk⟩ := h.at j hj
    obtain ⟨i0, hi0, hz0, hz1, hz2⟩ := info_parts infoU8
    have hX : Below w.heap.size w (w.alloc (.cells #[] 5)) := (Below.refl _ w).alloc (Nat.le_refl _) _
    have hcl : ∀ q v, ((frL S j).map (Value.int .u8))[q]? = some v → (w.alloc (.cells #[] 5)).cell? ((⟨g, 0, none⟩ : Addr).add q) = some v := fun q v hq => by
      rw [List.getElem?_map] at hq
      cases hx : (frL S j)[q]? with
      | none => rw [hx] at hq; cases hq
      | some x =>
        rw [hx] at hq
        cases hq
        rw [Addr.add_mid, Nat.zero_add]
        exact (hX.cell (p := ⟨g, q, none⟩) hgl).trans (hk q x hx)
    have hlf := frL_lenS h.len hj
    have hown := own_nil8 w w.heap.size (Nat.le_refl _)
    have hltg := h.ltg
    have hjz : (j : Int) < (n : Int) := by omega
    have hj0 : (0 : Int) ≤ (j : Int) := by omega
    have hne : rb ≠ w.heap.size := by omega
    have hne2 : og ≠ w.heap.size := by omega
    have HX := Hid3.mk hX
    have HC := Hid3.mk hcl
    have HL := Hid3.mk hlf
    have HO := Hid3.mk hown
    clear h hX hcl hlf hown hk
    generalize frL S j = FS at *
    go_enter Try.func29, Try.ntmps29
    go_wp2_with (at_builtin; refine wpList_append_own _ rfl _ _ 36 rfl w.heap.size 5 i0 (.int .u8 0) 1 1 Try.underlying36 hi0 hz0 hz1 hz2 rfl (by decide) _ _ _ rfl HO.out ⟨g, 0, none⟩ 32 cap (FS.map (Value.int .u8)) rfl (by rw [List.length_map, HL.out]) HC.out (by exact map_one FS) (by unfold maxLen; omega) (by omega) (by simp) ?_; intro v' w1 hown' hgrow _)
    have hb3 : Below w.heap.size w w1 := HX.out.grown hgrow (by simp) (fun j hj => (HO.out.lt j hj).1)
    rw [Nat.zero_add, List.nil_append] at hown'
    have H9 := Hid3.mk hown'
    clear hown' hgrow
    go_ret2
    exact ⟨⟨_, rfl, Txt.of_own H9.out⟩, hb3⟩
end Go.Proofs.Ytlnjpgcaciemnaa
