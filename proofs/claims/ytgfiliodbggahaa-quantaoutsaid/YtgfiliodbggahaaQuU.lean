/- The program's Fork. -/
import Derived.Test.YtgfiliodbggahaaQuT
import Derived.Deep.RegionLaw
import Derived.Laws.Tables
namespace Go.Proofs.Ytgfiliodbggahaa
open Go.RowKit Go.Maps
set_option linter.unusedVariables false
set_option maxRecDepth 100000
theorem infoH : (Try.prog.info? 60).map (fun i => (i.zero, i.size, i.bytes)) = some (some (.agg #[.int .u8 0, .bool false]), 2, 2) := by kernel_rfl
theorem run_copyH (w : World) (ty : TypeId) (g g2 : Nat) (cur cs : List Value) (hg : Cl w g 60 cur) (hs : Cl w g2 60 cs) (h16 : cur.length = 16) (hc16 : cs.length = 16) (h1 : ∀ v ∈ cs, v.oneCell' = true) :
    (Builtin.copy_ #[56, 56] ty #[.slice (some ⟨g, 0, none⟩) 8 8, .slice (some ⟨g2, 0, none⟩) 8 8]).run Try.prog w = .ok (goInt 8) (w.setRow g cs.toArray) := by
  have hl := run_loadCells_list (P := Try.prog) w ⟨g2, 0, none⟩ cs (fun j v hj => by
    have := hs.cell j
    rw [hj] at this
    rw [Addr.add_mid]
    rw [Nat.zero_add]
    exact this)
  have hst := run_storeCells_at Try.prog g 0 60 cs 0 cur.toArray w hg (by simp [h16, hc16]) h1
  obtain ⟨i, hi, _, hs2, _⟩ := info_parts infoH
  rw [hc16] at hl
  have hd : cur.drop 16 = [] := List.drop_eq_nil_of_le (by omega)
  simp [hc16, hd] at hst
  simp [Builtin.copy_, run_underlying Try.underlying56, Builtin.lenOf, Builtin.firstCells, sizeOf, typeInfo, hi, hs2, hl, hst]
theorem step_copyH {w : World} {ops : Array Oper} {o : Oper} {a : Act} {K : Act → World → Prop} {Q0 : Exit → Act → World → Prop} {E : Prop} (hgd : o.guard = none) (d s : Operand)
    (ho : o.op = .call { callee := .builtin .copy, args := #[d, s], argTypes := #[56, 56] })
    (g g2 : Nat) (cur cs : List Value) (hd : a.eval d = .slice (some ⟨g, 0, none⟩) 8 8) (hs : a.eval s = .slice (some ⟨g2, 0, none⟩) 8 8)
    (hg : Cl w g 60 cur) (hs2 : Cl w g2 60 cs) (h16 : cur.length = 16) (hc16 : cs.length = 16) (h1 : ∀ v ∈ cs, v.oneCell' = true)
    (h : K (a.put o.dst (goInt 8)) (w.setRow g cs.toArray)) :
    if Region.wanted o (yielded ops a.tmps) = true then Oper.wp Try.prog o a w K Q0 else E := by
  have hw : Region.wanted o (yielded ops a.tmps) = true := by simp [Region.wanted, hgd]
  have hr := run_copyH w o.type g g2 cur cs hg hs2 h16 hc16 h1
  rw [if_pos hw]
  unfold Oper.wp execOp
  simp only [ho, resolve, invoke, builtin, Sem.run_bind, Sem.run_pure, Result.andThen_ok, List.map_toArray, List.map_cons, List.map_nil, hd, hs, hr]
  exact h
theorem plCs_len (pl : Fin 8 → Option (Fin 6)) : (plCs pl).length = 16 := rfl
theorem plCs_one (pl : Fin 8 → Option (Fin 6)) : ∀ v ∈ plCs pl, v.oneCell' = true := by
  intro v hv
  simp only [plCs, holdV, List.mem_append, List.mem_cons, List.not_mem_nil, or_false] at hv
  rcases hv with (((((((h | h) | h) | h) | h) | h) | h) | h) <;> (rcases h with h | h <;> (subst h; rfl))
set_option maxHeartbeats 1000000 in
theorem fork_any (B vb pb : Nat) (q : Qs) (w : World) (h : Vec B w vb pb q) : Calls Try.prog 22 #[.pointer (some ⟨vb, 0, none⟩)] w fun r w' => ∃ fb gb, r = .returned (.pointer (some ⟨fb, 0, none⟩)) ∧ Vec w.heap.size w' fb gb q ∧ Below w.heap.size w w' := by
  have hm := made8
  have c0 := h.c.c0
  have p0 := h.c.cp 0
  have p1 := h.c.cp 1
  have p2 := h.c.cp 2
  have p3 := h.c.cp 3
  have p4 := h.c.cp 4
  have p5 := h.c.cp 5
  have cn := h.c.cn
  change w.cell? ⟨vb, 1, none⟩ = _ at p0
  change w.cell? ⟨vb, 2, none⟩ = _ at p1
  change w.cell? ⟨vb, 3, none⟩ = _ at p2
  change w.cell? ⟨vb, 4, none⟩ = _ at p3
  change w.cell? ⟨vb, 5, none⟩ = _ at p4
  change w.cell? ⟨vb, 6, none⟩ = _ at p5
  have hlv := h.c.lv
  have HV : Hid (Vec B w vb pb q) := h
  clear h
  go_enter Try.func22, Try.ntmps22
  go_wp2
  go_region
  have hX : Below w.heap.size w ((w.alloc (.cells (plCs (fun _ => none)).toArray 60)).alloc (.cells (vCs w.heap.size q).toArray 58)).drew := by
    have := (below_new w (.cells (plCs (fun _ => none)).toArray 60)).alloc (by simp) (.cells (vCs w.heap.size q).toArray 58)
    exact ⟨this.os, this.tape, this.output, this.size, this.block⟩
  have k1 : Cl ((w.alloc (.cells (plCs (fun _ => none)).toArray 60)).alloc (.cells (vCs w.heap.size q).toArray 58)).drew w.heap.size 60 (plCs (fun _ => none)) := (Cl.new w _ _).alloc _
  have k2 : Cl ((w.alloc (.cells (plCs (fun _ => none)).toArray 60)).alloc (.cells (vCs w.heap.size q).toArray 58)).drew (w.heap.size + 1) 58 (vCs w.heap.size q) := by
    have := Cl.new (w.alloc (.cells (plCs (fun _ => none)).toArray 60)) 58 (vCs w.heap.size q)
    rw [World.size_alloc] at this
    exact this
  have hV1 := HV.out.below hX
  change Exit.then _ _ _ _ ((w.alloc (.cells (plCs (fun _ => none)).toArray 60)).alloc (.cells (vCs w.heap.size q).toArray 58)).drew
  clear c0 p0 p1 p2 p3 p4 p5 cn hm
  generalize ((w.alloc (.cells (plCs (fun _ => none)).toArray 60)).alloc (.cells (vCs w.heap.size q).toArray 58)).drew = W1 at *
  have c0 := hV1.c.c0
  have d0 : W1.cell? ⟨w.heap.size + 1, 0, none⟩ = some (.slice (some ⟨w.heap.size, 0, none⟩) 8 8) := k2.cell 0
  have H1 : Hid (Cl W1.drew w.heap.size 60 (plCs (fun _ => none))) := k1
  have H2 : Hid (Cl W1.drew pb 60 (plCs q.pl)) := hV1.p
  have H3 : Hid (Cl W1 (w.heap.size + 1) 58 (vCs w.heap.size q)) := k2
  have HX : Hid (Below w.heap.size w W1) := hX
  clear k1 k2 hV1 hX
  go_wp2
  go_region_law (refine step_copyH (by rfl) _ _ (by rfl) w.heap.size pb (plCs (fun _ => none)) (plCs q.pl) (by rfl) (by rfl) (by exact H1.out) (by exact H2.out) (plCs_len _) (plCs_len _) (plCs_one _) ?_)
  all_goals (
    go_wp2
    go_ret
    refine ⟨w.heap.size + 1, w.heap.size, rfl, ⟨by omega, Nat.le_refl _, ?_, ?_⟩, ?_⟩
    · exact (setRow_other W1.drew w.heap.size (w.heap.size + 1) _ (by omega)).trans H3.out
    · exact setRow_heap W1.drew w.heap.size _ _ _ _ H1.out
    · exact ⟨HX.out.os, HX.out.tape, HX.out.output, by simpa using HX.out.size, fun k hk => (setRow_other W1.drew w.heap.size k _ (by omega)).trans (HX.out.block k hk)⟩)
end Go.Proofs.Ytgfiliodbggahaa
