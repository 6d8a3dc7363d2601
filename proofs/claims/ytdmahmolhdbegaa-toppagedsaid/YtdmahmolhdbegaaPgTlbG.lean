/- append over mappings; the program's Clone, List, Fork, New. -/
import Derived.Test.YtdmahmolhdbegaaPgTlbF
import Derived.Deep.AppendLies
namespace Go.Proofs.Ytdmahmolhdbegaa.Tb
open Go.RowKit Go.Maps
set_option linter.unusedVariables false
set_option maxRecDepth 100000

theorem infoM : (Try.prog.info? 39).map (fun i => (i.zero, i.size, i.bytes)) = some (some (.agg #[.int .u8 0, .int .u8 0, .int .u8 0, .bool false]), 4, 4) := by kernel_rfl
theorem info_parts {t : TypeId} {z : Value} {s b : Nat} (h : (Try.prog.info? t).map (fun i => (i.zero, i.size, i.bytes)) = some (some z, s, b)) : ∃ i, Try.prog.info? t = some i ∧ i.zero = some z ∧ i.size = s ∧ i.bytes = b := by
  rw [Option.map_eq_some_iff] at h
  obtain ⟨i, hi, e⟩ := h
  injection e with e1 e2
  injection e2 with e2 e3
  exact ⟨i, hi, e1, e2, e3⟩
theorem Mps.form {w : World} {v : Value} {L : List Mp} (h : Mps w v L) : v = .slice none 0 0 ∧ L = [] ∨ ∃ ad cap, v = .slice (some ad) L.length cap ∧ ∀ j u, (mpsCs L)[j]? = some u → w.cell? (ad.add j) = some u := by
  obtain ⟨a, cap, rfl, hc, hn, hcell⟩ := h
  cases a with
  | none =>
    have h0 := hn rfl
    subst h0
    have : L = [] := List.eq_nil_of_length_eq_zero (by omega)
    subst this
    exact .inl ⟨rfl, rfl⟩
  | some ad =>
    refine .inr ⟨ad, cap, rfl, fun j u hj => ?_⟩
    have hjl : j < L.length * 4 := by
      have := (List.getElem?_eq_some_iff.1 hj).1
      rw [mpsCs_len] at this
      exact this
    have hq : j / 4 < L.length := by omega
    obtain ⟨g, off, e, c0, c1, c2, c3⟩ := hcell (j / 4) L[j / 4] (List.getElem?_eq_getElem hq)
    injection e with e
    subst e
    obtain ⟨d0, d1, d2, d3⟩ := mpsCs_at L (j / 4) L[j / 4] (List.getElem?_eq_getElem hq)
    have hadd : (⟨g, off, none⟩ : Addr).add j = ⟨g, off + j, none⟩ := by unfold Addr.add; split <;> simp_all
    rw [hadd]
    have hr : j % 4 = 0 ∨ j % 4 = 1 ∨ j % 4 = 2 ∨ j % 4 = 3 := by omega
    have hd := Nat.div_add_mod j 4
    rcases hr with r | r | r | r
    · have e4 : j / 4 * 4 = j := by omega
      rw [e4] at d0 c0
      rw [c0, ← d0, hj]
    · have e4 : j / 4 * 4 + 1 = j := by omega
      rw [e4] at d1
      rw [Nat.add_assoc, e4] at c1
      rw [c1, ← d1, hj]
    · have e4 : j / 4 * 4 + 2 = j := by omega
      rw [e4] at d2
      rw [Nat.add_assoc, e4] at c2
      rw [c2, ← d2, hj]
    · have e4 : j / 4 * 4 + 3 = j := by omega
      rw [e4] at d3
      rw [Nat.add_assoc, e4] at c3
      rw [c3, ← d3, hj]
theorem run_app (w : World) (ty : TypeId) (B : Nat) (v : Value) (M : List Mp) (u : Value) (L : List Mp) (hown : w.ownsRow B 39 4 v M.length (mpsCs M)) (hu : Mps w u L) (hl : M.length + L.length ≤ 1000) (hB : B ≤ w.heap.size) :
    ∃ v' w', (Builtin.append_ #[66, 66] ty #[v, u]).run Try.prog w = .ok v' w' ∧ w'.ownsRow B 39 4 v' (M ++ L).length (mpsCs (M ++ L)) ∧ w.grownBy w' v.ownBlock ∧ (v'.ownBlock = v.ownBlock ∨ v'.ownBlock = some w.heap.size) := by
  obtain ⟨i, hi, hz, hs, hb⟩ := info_parts infoM
  rcases hu.form with ⟨rfl, rfl⟩ | ⟨ad, cap, rfl, hcell⟩
  · refine ⟨v, w, run_append_owned_none (P := Try.prog) w B 66 ty 39 i 4 Try.underlying66 hi v M.length (mpsCs M) hown, by rw [List.append_nil]; exact hown, ⟨rfl, rfl, rfl, Nat.le_refl _, fun _ _ _ => rfl⟩, .inl rfl⟩
  · obtain ⟨v', w', h1, h2, h3, _, h5⟩ := run_append_own_at (P := Try.prog) w B 66 ty 39 i _ 4 4 Try.underlying66 hi hz hs hb rfl (by omega) v M.length (mpsCs M) hown ad L.length cap (mpsCs L) (mpsCs_len L) hcell (mpsCs_one L) (by unfold maxLen; omega) (by omega) hB
    exact ⟨v', w', h1, by rw [List.length_append, mpsCs_append]; exact h2, h3, h5⟩
theorem wp_app (w : World) {o : Oper} {a : Act} {K : Act → World → Prop} {Q : Exit → Act → World → Prop} (s x : Operand)
    (ho : o.op = .call { callee := .builtin .append, args := #[s, x], argTypes := #[66, 66] })
    (B : Nat) (v : Value) (M : List Mp) (u : Value) (L : List Mp) (hs : a.eval s = v) (hx : a.eval x = u) (hown : w.ownsRow B 39 4 v M.length (mpsCs M)) (hu : Mps w u L) (hl : M.length + L.length ≤ 1000) (hB : B ≤ w.heap.size)
    (h : ∀ v' w', w'.ownsRow B 39 4 v' (M ++ L).length (mpsCs (M ++ L)) → w.grownBy w' v.ownBlock → (v'.ownBlock = v.ownBlock ∨ v'.ownBlock = some w.heap.size) → K (a.put o.dst v') w') : o.wp Try.prog a w K Q := by
  obtain ⟨v', w', hr, h2, h3, h4⟩ := run_app w o.type B v M u L hown hu hl hB
  unfold Oper.wp execOp
  simp only [ho, resolve, invoke, builtin, Sem.run_bind, Sem.run_pure, Result.andThen_ok, List.map_toArray, List.map_cons, List.map_nil, hs, hx, hr]
  exact h v' w' h2 h3 h4
theorem wpList_app {w : World} {ops : Array Oper} {rest : List Oper} {o : Oper} {a : Act} {Q : Exit → Act → World → Prop} (hgd : o.guard = none) (s x : Operand)
    (ho : o.op = .call { callee := .builtin .append, args := #[s, x], argTypes := #[66, 66] })
    (B : Nat) (v : Value) (M : List Mp) (u : Value) (L : List Mp) (hs : a.eval s = v) (hx : a.eval x = u) (hown : w.ownsRow B 39 4 v M.length (mpsCs M)) (hu : Mps w u L) (hl : M.length + L.length ≤ 1000) (hB : B ≤ w.heap.size)
    (h : ∀ v' w', w'.ownsRow B 39 4 v' (M ++ L).length (mpsCs (M ++ L)) → w.grownBy w' v.ownBlock → (v'.ownBlock = v.ownBlock ∨ v'.ownBlock = some w.heap.size) → wpList Try.prog ops Q rest (a.put o.dst v') w') : wpList Try.prog ops Q (o :: rest) a w :=
  wpList_plain hgd fun _ hK => wp_app w s x ho B v M u L hs hx hown hu hl hB fun v' w' h2 h3 h4 => hK _ _ (h v' w' h2 h3 h4)
theorem step_app {w : World} {ops : Array Oper} {o : Oper} {a : Act} {K : Act → World → Prop} {Q : Exit → Act → World → Prop} {E : Prop} (hgd : o.guard = none) (s x : Operand)
    (ho : o.op = .call { callee := .builtin .append, args := #[s, x], argTypes := #[66, 66] })
    (B : Nat) (v : Value) (M : List Mp) (u : Value) (L : List Mp) (hs : a.eval s = v) (hx : a.eval x = u) (hown : w.ownsRow B 39 4 v M.length (mpsCs M)) (hu : Mps w u L) (hl : M.length + L.length ≤ 1000) (hB : B ≤ w.heap.size)
    (h : ∀ v' w', w'.ownsRow B 39 4 v' (M ++ L).length (mpsCs (M ++ L)) → w.grownBy w' v.ownBlock → (v'.ownBlock = v.ownBlock ∨ v'.ownBlock = some w.heap.size) → K (a.put o.dst v') w') :
    if Region.wanted o (yielded ops a.tmps) = true then Oper.wp Try.prog o a w K Q else E := by
  have hw : Region.wanted o (yielded ops a.tmps) = true := by simp [Region.wanted, hgd]
  rw [if_pos hw]
  exact wp_app w s x ho B v M u L hs hx hown hu hl hB h
theorem own_none (w : World) (B : Nat) (hB : B ≤ w.heap.size) : (w.alloc (.cells #[] 39)).ownsRow B 39 4 (.slice (some ⟨w.heap.size, 0, none⟩) ([] : List Mp).length 0) ([] : List Mp).length (mpsCs []) :=
  World.ownsRow_made w #[] 0 hB (by unfold maxLen; omega) rfl
theorem mps_one (w : World) (m0 m1 m2 : Int) (m3 : Bool) : Mps (w.alloc (.cells #[.int .u8 m0, .int .u8 m1, .int .u8 m2, .bool m3] 39)) (.slice (some ⟨w.heap.size, 0, none⟩) 1 1) [(m0, m1, m2, m3)] := by
  have hb := heap_alloc_new w (.cells #[.int .u8 m0, .int .u8 m1, .int .u8 m2, .bool m3] 39)
  obtain ⟨⟨c0, c1, c2, c3⟩, _⟩ := b4 hb
  refine ⟨_, 1, rfl, Nat.le_refl _, (fun e => by cases e), fun j m hj => ⟨_, 0, rfl, ?_⟩⟩
  match j, hj with
  | 0, hj =>
    simp only [List.getElem?_cons_zero, Option.some.injEq] at hj
    subst hj
    exact ⟨c0, c1, c2, c3⟩

set_option maxHeartbeats 2000000 in
theorem clone_any (B : Nat) (v : Value) (L : List Mp) (w : World) (hR : w.ownsRow B 39 4 v L.length (mpsCs L)) (hL : L.length ≤ 1000) :
    Calls Try.prog 49 #[v] w fun e w' => ∃ v', e = .returned v' ∧ w'.ownsRow w.heap.size 39 4 v' L.length (mpsCs L) ∧ Below w.heap.size w w' := by
  have hM := Mps.of_own hR
  obtain ⟨a, cap, rfl, hcap, hnone, _⟩ := id hM
  cases a with
  | none =>
    have h0 := hnone rfl
    subst h0
    have : L = [] := List.eq_nil_of_length_eq_zero (by omega)
    subst this
    have hq := fun w => Lib.run_eql_slice_nil (P := Try.prog) w 66 39 none 0 0 0 0 Try.underlying66
    clear hM hR hnone
    go_enter Try.func49, Try.ntmps49
    go_wp2
    go_ret
    exact ⟨_, rfl, World.ownsRow_nil _ _ _ _, Below.refl _ _⟩
  | some ad =>
    have hq := fun w => Lib.run_eql_slice_nil (P := Try.prog) w 66 39 (some ad) L.length cap 0 0 Try.underlying66
    have hw0 : Below w.heap.size w (w.alloc (.cells #[] 39)) := (Below.refl _ w).alloc (Nat.le_refl _) _
    have HM : Hid (Mps (w.alloc (.cells #[] 39)) (.slice (some ad) L.length cap) L) := hM.below hw0
    clear hM hR hnone
    go_enter Try.func49, Try.ntmps49
    go_wp2_with (at_builtin; refine wpList_app rfl _ _ rfl w.heap.size _ [] _ L rfl rfl (own_none w w.heap.size (Nat.le_refl _)) HM.out (by simp; omega) (by simp) ?_; intro v' w1 hown1 hgrow hat)
    go_ret
    refine ⟨_, rfl, hown1, hw0.grown hgrow hw0.size (fun k e => ?_)⟩
    have e' : w.heap.size = k := Option.some.inj e
    omega
end Go.Proofs.Ytdmahmolhdbegaa.Tb
