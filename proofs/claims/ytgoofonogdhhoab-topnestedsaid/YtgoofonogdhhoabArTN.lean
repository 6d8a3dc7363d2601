/- Rows of registers; when registers are the same. -/
import Derived.Test.YtgoofonogdhhoabArI
import Derived.RangeFuncBox
namespace Go.Proofs.Ytgoofonogdhhoab
open Go.RowKit Go.Maps
set_option linter.unusedVariables false
set_option maxRecDepth 100000
theorem info_parts {t : TypeId} {z : Value} {s b : Nat} (h : (Try.prog.info? t).map (fun i => (i.zero, i.size, i.bytes)) = some (some z, s, b)) : ∃ i, Try.prog.info? t = some i ∧ i.zero = some z ∧ i.size = s ∧ i.bytes = b := by
  rw [Option.map_eq_some_iff] at h
  obtain ⟨i, hi, e⟩ := h
  injection e with e1 e2
  injection e2 with e2 e3
  exact ⟨i, hi, e1, e2, e3⟩
theorem own_below {w w' : World} {B e z n : Nat} {v : Value} {xs : List Value} (h : w.ownsRow B e z v n xs) (k : Below w.heap.size w w') : w'.ownsRow B e z v n xs := by
  refine ⟨h.1, ?_⟩
  rcases h.2 with h0 | ⟨g, cap, cur, h1, h2, h3, h4⟩
  · exact .inl h0
  · refine .inr ⟨g, cap, cur, h1, h2, ?_, h4⟩
    rw [k.block g (Array.getElem?_eq_some_iff.1 h3).1]
    exact h3
theorem infoG : (Try.prog.info? 26).map (fun i => (i.zero, i.size, i.bytes)) = some (some (.agg rg0.vs.toArray), 9, 18) := by kernel_rfl
/-- A slice lists registers. -/
def Rgs (w : World) (u : Value) (L : List Rg) : Prop := (u = .slice none 0 0 ∧ L = []) ∨ ∃ ad cap, u = .slice (some ad) L.length cap ∧ ∀ j x, (rgsCs L)[j]? = some x → w.cell? (ad.add j) = some x
theorem Rgs.of_own {w : World} {B : Nat} {v : Value} {L : List Rg} (h : w.ownsRow B 26 9 v L.length (rgsCs L)) : Rgs w v L := by
  rcases h.2 with ⟨h0, h1⟩ | ⟨g, cap, cur, rfl, _, hg, _, _, _, ht⟩
  · exact .inl ⟨h0, List.eq_nil_of_length_eq_zero h1⟩
  · exact .inr ⟨_, cap, rfl, h.cells rfl⟩
theorem Rgs.below {w w' : World} {u : Value} {L : List Rg} (h : Rgs w u L) (k : Below w.heap.size w w') : Rgs w' u L := by
  rcases h with h | ⟨ad, cap, h1, h2⟩
  · exact .inl h
  · exact .inr ⟨ad, cap, h1, fun j x hj => (k.cell (World.block_lt_of_cell? w _ (h2 j x hj))).trans (h2 j x hj)⟩
theorem Rgs.stay {w w' : World} {u : Value} {L : List Rg} {X : Nat → Prop} (h : Rgs w u L) (k : Apart X w w') (hx : ∀ g, u.ownBlock = some g → ¬ X g) : Rgs w' u L := by
  rcases h with h | ⟨ad, cap, rfl, h2⟩
  · exact .inl h
  · refine .inr ⟨ad, cap, rfl, fun j x hj => ?_⟩
    have hc := h2 j x hj
    have hlt := World.block_lt_of_cell? w _ hc
    have hb : (ad.add j).block = ad.block := by unfold Addr.add; split <;> simp_all
    rw [← hc]
    have := k.block (ad.add j).block hlt (by rw [hb]; exact hx _ rfl)
    simp only [World.cell?, this]
theorem Rgs.take {w : World} {g cap : Nat} {L : List Rg} {n : Nat} (h : Rgs w (.slice (some ⟨g, 0, none⟩) L.length cap) L) (hn : n ≤ L.length) (c : Nat) : Rgs w (.slice (some ⟨g, 0, none⟩) n c) (L.take n) := by
  rcases h with ⟨h, _⟩ | ⟨ad, cap', h1, h2⟩
  · cases h
  · injection h1 with h1
    injection h1 with h1
    subst h1
    refine .inr ⟨_, c, by rw [List.length_take, Nat.min_eq_left hn], fun j x hj => h2 j x ?_⟩
    have e : rgsCs L = rgsCs (L.take n) ++ rgsCs (L.drop n) := by rw [← rgsCs_append, List.take_append_drop]
    rw [e, List.getElem?_append_left (List.getElem?_eq_some_iff.1 hj).1]
    exact hj
theorem rgs_one (w : World) (s : Rg) : Rgs (w.alloc (.cells s.vs.toArray 26)) (.slice (some ⟨w.heap.size, 0, none⟩) 1 1) [s] := by
  refine .inr ⟨_, 1, rfl, fun j x hj => ?_⟩
  rw [Addr.add_mid, Nat.zero_add, (Cl.new w 26 s.vs).cell]
  simpa [rgsCs] using hj
theorem run_app (w : World) (ty : TypeId) (B : Nat) (v : Value) (M : List Rg) (u : Value) (L : List Rg) (hown : w.ownsRow B 26 9 v M.length (rgsCs M)) (hu : Rgs w u L) (hl : M.length + L.length ≤ 1000) (hB : B ≤ w.heap.size) :
    ∃ v' w', (Builtin.append_ #[29, 29] ty #[v, u]).run Try.prog w = .ok v' w' ∧ w'.ownsRow B 26 9 v' (M ++ L).length (rgsCs (M ++ L)) ∧ w.grownBy w' v.ownBlock ∧ (v'.ownBlock = v.ownBlock ∨ v'.ownBlock = some w.heap.size) := by
  obtain ⟨i, hi, hz, hs, hb⟩ := info_parts infoG
  rcases hu with ⟨rfl, rfl⟩ | ⟨ad, cap, rfl, hcell⟩
  · refine ⟨v, w, run_append_owned_none (P := Try.prog) w B 29 ty 26 i 9 Try.underlying29 hi v M.length (rgsCs M) hown, by rw [List.append_nil]; exact hown, ⟨rfl, rfl, rfl, Nat.le_refl _, fun _ _ _ => rfl⟩, .inl rfl⟩
  · obtain ⟨v', w', h1, h2, h3, _, h5⟩ := run_append_own_at (P := Try.prog) w B 29 ty 26 i _ 9 18 Try.underlying29 hi hz hs hb rfl (by omega) v M.length (rgsCs M) hown ad L.length cap (rgsCs L) (rgsCs_len L) hcell (rgsCs_one L) (by unfold maxLen; omega) (by omega) hB
    exact ⟨v', w', h1, by rw [List.length_append, rgsCs_append]; exact h2, h3, h5⟩
theorem wpList_app {w : World} {ops : Array Oper} {rest : List Oper} {o : Oper} {a : Act} {Q : Exit → Act → World → Prop} (hgd : o.guard = none) (s x : Operand)
    (ho : o.op = .call { callee := .builtin .append, args := #[s, x], argTypes := #[29, 29] })
    (B : Nat) (v : Value) (M : List Rg) (u : Value) (L : List Rg) (hs : a.eval s = v) (hx : a.eval x = u) (hown : w.ownsRow B 26 9 v M.length (rgsCs M)) (hu : Rgs w u L) (hl : M.length + L.length ≤ 1000) (hB : B ≤ w.heap.size)
    (h : ∀ v' w', w'.ownsRow B 26 9 v' (M ++ L).length (rgsCs (M ++ L)) → w.grownBy w' v.ownBlock → (v'.ownBlock = v.ownBlock ∨ v'.ownBlock = some w.heap.size) → wpList Try.prog ops Q rest (a.put o.dst v') w') : wpList Try.prog ops Q (o :: rest) a w :=
  wpList_plain hgd fun K hK => by
    obtain ⟨v', w', hr, h2, h3, h4⟩ := run_app w o.type B v M u L hown hu hl hB
    unfold Oper.wp execOp
    simp only [ho, resolve, invoke, builtin, Sem.run_bind, Sem.run_pure, Result.andThen_ok, List.map_toArray, List.map_cons, List.map_nil, hs, hx, hr]
    exact hK _ _ (h v' w' h2 h3 h4)
theorem eqGuardR : Try.prog.eqGuardType Try.prog.depth 26 = false := by kernel_rfl
set_option maxHeartbeats 2000000 in
theorem eqArr8 (w : World) (a0 a1 a2 a3 a4 a5 a6 a7 : Int) : (Op.equalIn 9999 24 (.agg #[.int .u16 a0, .int .u16 a1, .int .u16 a2, .int .u16 a3, .int .u16 a4, .int .u16 a5, .int .u16 a6, .int .u16 a7]) (.agg #[.int .u16 a0, .int .u16 a1, .int .u16 a2, .int .u16 a3, .int .u16 a4, .int .u16 a5, .int .u16 a6, .int .u16 a7])).run Try.prog w = .ok true w := by
  have h5 : ∀ x y, (Op.equalIn 9998 23 (.int .u16 x) (.int .u16 y)).run Try.prog w = .ok (x == y) w := fun x y => run_equalIn_int w 9997 23 .u16 .u16 x y Try.underlying23
  show (Op.equalIn (9997 + 1 + 1) 24 _ _).run Try.prog w = _
  rw [Op.equalIn]
  simp only [Sem.run_bind, run_underlying Try.underlying24, Result.andThen_ok]
  simp [go_sem, List.range'_succ, h5]
set_option maxHeartbeats 2000000 in
theorem eqRgs (w : World) (s : Rg) : (Op.equalIn 10000 26 (.agg s.vs.toArray) (.agg s.vs.toArray)).run Try.prog w = .ok true w := by
  obtain ⟨pc, a0, a1, a2, a3, a4, a5, a6, a7⟩ := s
  have h8 := eqArr8
  unfold Rg.vs
  show (Op.equalIn (9998 + 1 + 1) 26 _ _).run Try.prog w = _
  rw [Op.equalIn]
  simp only [Sem.run_bind, run_underlying Try.underlying26, Result.andThen_ok]
  simp [go_sem, h8]
theorem AStp.belowB {B : Nat} {w w' : World} {b : Nat} {q : Ar} (h : AStp B w w' b q) (hB : B ≤ w.heap.size) : Below B w w' := h.ap.below B (fun k e => by have e' : k = b := e; rw [e']; exact h.a.g) hB
theorem new_ex (s : Rg) (w : World) (B : Nat) (hB : B ≤ w.heap.size) : Calls Try.prog 4 #[s.V] w fun r w' => ∃ b, r = .returned (.pointer (some ⟨b, 0, none⟩)) ∧ Ac B w' b (ar0 s) ∧ Below w.heap.size w w' :=
  (new_any s w).mono (fun r w' ⟨h1, h2, h3⟩ => ⟨_, h1, ⟨by omega, h2.c, h2.ok⟩, h3⟩)
end Go.Proofs.Ytgoofonogdhhoab
