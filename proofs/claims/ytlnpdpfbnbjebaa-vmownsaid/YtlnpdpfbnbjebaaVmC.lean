/- The program's vm: the store's own, join, leave; Begin, Map. -/
import Derived.Test.YtlnpdpfbnbjebaaVmB
import Derived.StillTailTactics
namespace Go.Proofs.Ytlnpdpfbnbjebaa
open Go.RowKit Go.Maps
set_option linter.unusedVariables false
set_option maxRecDepth 100000
theorem Mem.stay {w w' : World} {b : Nat} {n : Int} {L : List Int} {X : Nat → Prop} (h : Mem w b n L) (k : Apart X w w') (hx : ¬ X b) : Mem w' b n L := ⟨(k.block b h.lt hx).trans h.blk, h.len, h.lo, h.hi⟩
theorem Vb.recell {B : Nat} {w w' : World} {l : Lo} {s : Vs} (h : Vb B w l s) (rf : List Int) (cp : Int) (hl : rf.length = 64) (ap : Apart (XB l.b) w w') (c : Cl w' l.b 69 (vCs s.has l.r l.m rf cp)) : Vb B w' l { s with rf := rf, cp := cp } :=
  ⟨h.g, h.gm, c, h.m.stay ap (fun e => h.nbm e.symm), hl, fun p hp => ⟨(h.sp p hp).1, (h.sp p hp).2.stay ap ((h.sp p hp).2.ne h.c)⟩, h.inj⟩
theorem Vb.setrf {B : Nat} {w : World} {l : Lo} {s : Vs} (h : Vb B w l s) (k : Nat) (hk : k < 64) (x : Int) : Vb B (w.setCell ⟨l.b, 7 + k, none⟩ (.int .i64 x)) l { s with rf := s.rf.set k x } := by
  have c := h.c.set (7 + k) (.int .i64 x)
  rw [vCs_setrf _ _ _ _ _ k x (by rw [h.len]; exact hk)] at c
  exact h.recell (s.rf.set k x) s.cp (by rw [List.length_set]; exact h.len) (Apart.at w l.b (7 + k) _ rfl) c
theorem Vb.setcp {B : Nat} {w : World} {l : Lo} {s : Vs} (h : Vb B w l s) (x : Int) : Vb B (w.setCell ⟨l.b, 71, none⟩ (.int .i64 x)) l { s with cp := x } := by
  have c := h.c.set 71 (.int .i64 x)
  rw [vCs_setcp _ _ _ _ _ _ h.len] at c
  exact h.recell s.rf x h.len (Apart.at w l.b 71 _ rfl) c
/-- The memory is written. -/
theorem Vb.remem {B : Nat} {w w' : World} {l : Lo} {s : Vs} (h : Vb B w l s) (L : List Int) (ap : Only l.m w w') (m : Mem w' l.m s.n L) : Vb B w' l { s with L := L } := by
  have a : Apart (XB l.m) w w' := ⟨ap.os, ap.tape, ap.output, ap.size, fun k hk hx => ap.block k hk hx⟩
  exact ⟨h.g, h.gm, h.c.stay a h.nbm, m, h.len, fun p hp => ⟨(h.sp p hp).1, (h.sp p hp).2.stay a ((h.sp p hp).2.ne h.m.blk)⟩, h.inj⟩
def ownB (s : Vs) (f : Int) : Bool := f != -1 && s.rf.getD f.toNat 0 == 1
set_option maxHeartbeats 1000000 in
theorem own_any (B : Nat) (l : Lo) (s : Vs) (f : Int) (hf : f = -1 ∨ (0 ≤ f ∧ f < 64)) (w : World) (h : Vb B w l s) : Calls Try.prog 72 #[.pointer (some ⟨l.b, 6, none⟩), .int .i64 f] w fun r w' => r = .returned (.bool (ownB s f)) ∧ w' = w := by
  unfold ownB
  rcases hf with rfl | ⟨h0, h1⟩
  · clear h
    go_enter Try.func72, Try.ntmps72
    go_wp2
    go_ret
    exact ⟨rfl, rfl⟩
  · obtain ⟨k, rfl⟩ := Int.eq_ofNat_of_zero_le h0
    have c0 := h.rf k (by omega)
    have e1 : ((k : Int) != -1) = true := by simp
    rw [e1, Int.toNat_natCast]
    have h3 : ¬ (k : Int) = -1 := by omega
    generalize s.rf.getD k 0 = x at *
    clear h
    go_enter Try.func72, Try.ntmps72
    go_wp2
    go_ret
    exact ⟨rfl, rfl⟩
set_option maxHeartbeats 1000000 in
theorem join_no (b : Nat) (w : World) : Calls Try.prog 42 #[.pointer (some ⟨b, 6, none⟩), .int .i64 (-1)] w fun r w' => r = .returned (.tuple #[]) ∧ w' = w := by
  go_enter Try.func42, Try.ntmps42
  go_wp2
  first
    | exact bodyPost_end (results_none rfl _ _ _) rfl ⟨rfl, rfl⟩
    | exact bodyPost_ret (results_none rfl _ _ _) rfl ⟨rfl, rfl⟩
set_option maxHeartbeats 1000000 in
theorem join_ok (B : Nat) (l : Lo) (s : Vs) (k : Nat) (hk : k < 64) (hx : 0 ≤ s.rf.getD k 0 ∧ s.rf.getD k 0 ≤ 1000) (w : World) (h : Vb B w l s) : Calls Try.prog 42 #[.pointer (some ⟨l.b, 6, none⟩), .int .i64 k] w fun r w' => r = .returned (.tuple #[]) ∧ Vb B w' l { s with rf := s.rf.set k (s.rf.getD k 0 + 1) } ∧ Apart (XB l.b) w w' := by
  have c0 := h.rf k hk
  have f0 := h.c.thaw (7 + k)
  have e1 : ((k : Int) != -1) = true := by simp
  have h3 : ¬ (k : Int) = -1 := by omega
  have h4 : (k : Int) < 64 := by omega
  have HV := Hid3.mk (h.setrf k hk (s.rf.getD k 0 + 1))
  have HA := Hid3.mk (Apart.at (X := XB l.b) w l.b (7 + k) (.int .i64 (s.rf.getD k 0 + 1)) rfl)
  have hl := h.c.lt
  generalize s.rf.getD k 0 = x at *
  have h5 : IntKind.i64.wrap (x + 1) = x + 1 := by rw [IntKind.wrap_i64]; omega
  clear h hx
  go_enter Try.func42, Try.ntmps42
  go_wp2
  go_region
  go_wp2
  first
    | exact bodyPost_end (results_none rfl _ _ _) rfl ⟨rfl, HV.out.below (below_drew _), HA.out.drew⟩
    | exact bodyPost_ret (results_none rfl _ _ _) rfl ⟨rfl, HV.out.below (below_drew _), HA.out.drew⟩
set_option maxHeartbeats 1000000 in
theorem addressed_any (a m : Int) (w : World) : Calls Try.prog 43 #[.int .i64 a, .int .i64 m] w fun r w' => r = .returned (.bool (decide (0 ≤ a) && decide (a < 512) && decide (m ≤ 512 - a))) ∧ w' = w := by
  by_cases h0 : 0 ≤ a
  · by_cases h1 : a < 512
    · have h5 : IntKind.i64.wrap (512 - a) = 512 - a := by rw [IntKind.wrap_i64]; omega
      by_cases h2 : m ≤ 512 - a
      · simp only [decide_eq_true h0, decide_eq_true h1, decide_eq_true h2]
        go_enter Try.func43, Try.ntmps43
        go_wp2
        go_ret
        exact ⟨rfl, rfl⟩
      · simp only [decide_eq_true h0, decide_eq_true h1, decide_eq_false h2]
        go_enter Try.func43, Try.ntmps43
        go_wp2
        go_ret
        exact ⟨rfl, rfl⟩
    · simp only [decide_eq_true h0, decide_eq_false h1]
      go_enter Try.func43, Try.ntmps43
      go_wp2
      go_ret
      exact ⟨rfl, rfl⟩
  · simp only [decide_eq_false h0]
    go_enter Try.func43, Try.ntmps43
    go_wp2
    go_ret
    exact ⟨rfl, rfl⟩
theorem zeroI (w : World) : (zeroValue 3).run Try.prog w = .ok (.int .i64 0) w := by
  have h : (Try.prog.info? 3).map (fun i => i.zero) = some (some (.int .i64 0)) := by kernel_rfl
  rw [Option.map_eq_some_iff] at h
  obtain ⟨i, hi, hz⟩ := h
  simp [zeroValue, typeInfo, hi, hz]
theorem lookP {w : World} {r : Nat} {f : Int → Option Int} (h : Sp w r f) (k : Int) : (Instr.lookup 66 (.map (some r)) (.int .i64 k) true).run Try.prog w = .ok (.tuple #[.int .i64 ((f k).getD 0), .bool (f k).isSome]) w := by
  obtain ⟨es, hm, _, hl⟩ := h
  have := look_run hm (t := 66) Try.underlying66 Try.underlying3 (zeroI w) k
  rw [hl] at this
  rw [this]
  cases f k <;> rfl
theorem stepP {w : World} {r : Nat} {f : Int → Option Int} (h : Sp w r f) (k v : Int) : ∃ w', (Instr.mapUpdate 66 (.map (some r)) (.int .i64 k) (.int .i64 v)).run Try.prog w = .ok () w' ∧ Sp w' r (upI f k (some v)) ∧ Apart (XB r) w w' := by
  obtain ⟨es, hm, hn, hl⟩ := h
  obtain ⟨w', h1, h2, h3⟩ := upd_run hm (t := 66) Try.underlying66 Try.underlying3 k (.int .i64 v)
  exact ⟨w', h1, ⟨_, h2, nodup_put _ _ _ hn, fun j => by rw [lk_put, hl, upI]; split <;> rfl⟩, h3⟩
/-- One space is another one. -/
theorem Vb.respace {B : Nat} {w w' : World} {l : Lo} {s : Vs} (h : Vb B w l s) (p : Fin 6) (hp : s.has p = true) (f : Int → Option Int) (ap : Apart (XB (l.r p)) w w') (c : Sp w' (l.r p) f) : Vb B w' l { s with pg := upF s.pg p f } := by
  refine ⟨h.g, h.gm, h.c.stay ap (fun e => (h.sp p hp).2.ne h.c e.symm), h.m.stay ap (fun e => (h.sp p hp).2.ne h.m.blk e.symm), h.len, fun q hq => ?_, h.inj⟩
  refine ⟨(h.sp q hq).1, ?_⟩
  show Sp w' (l.r q) (upF s.pg p f q)
  by_cases e : q = p
  · subst e
    rw [upF_same]
    exact c
  · rw [upF_other _ _ _ _ e]
    exact (h.sp q hq).2.stay ap (fun x => e (h.inj q p hq hp x))
/-- A new space, without pages. -/
theorem Vb.fresh {B : Nat} {w w' : World} {l : Lo} {s : Vs} (h : Vb B w l s) (hB : B ≤ w.heap.size) (p : Fin 6) (hp : s.has p = false) (r : Nat) (f : Int → Option Int) (hr : w.heap.size ≤ r) (ap : Apart (XB l.b) w w') (c : Cl w' l.b 69 ((vCs s.has l.r l.m s.rf s.cp).set p.1 (.map (some r)))) (sp : Sp w' r f) :
    Vb B w' ⟨l.b, l.m, upF l.r p r⟩ { s with has := upF s.has p true, pg := upF s.pg p f } := by
  have e0 := vCs_set s.has l.r l.m s.rf s.cp true r p
  have e1 : (vCs s.has l.r l.m s.rf s.cp).set p.1 (.map (some r)) = vCs (upF s.has p true) (upF l.r p r) l.m s.rf s.cp := e0
  rw [e1] at c
  have hne : ∀ q, upF s.has p true q = true → q ≠ p → s.has q = true := fun q hq e => by rw [upF_other _ _ _ _ e] at hq; exact hq
  refine ⟨h.g, h.gm, c, h.m.stay ap (fun e => h.nbm e.symm), h.len, fun q hq => ?_, fun q q' hq hq' e => ?_⟩
  · show B ≤ upF l.r p r q ∧ Sp w' (upF l.r p r q) (upF s.pg p f q)
    by_cases e : q = p
    · subst e
      rw [upF_same, upF_same]
      exact ⟨Nat.le_trans hB hr, sp⟩
    · rw [upF_other _ _ _ _ e, upF_other _ _ _ _ e]
      have hq' := hne q hq e
      exact ⟨(h.sp q hq').1, (h.sp q hq').2.stay ap ((h.sp q hq').2.ne h.c)⟩
  · have e' : upF l.r p r q = upF l.r p r q' := e
    by_cases a : q = p <;> by_cases b : q' = p
    · rw [a, b]
    · subst a
      rw [upF_same, upF_other _ _ _ _ b] at e'
      have := (h.sp q' (hne q' hq' b)).2.lt
      omega
    · subst b
      rw [upF_same, upF_other _ _ _ _ a] at e'
      have := (h.sp q (hne q hq a)).2.lt
      omega
    · rw [upF_other _ _ _ _ a, upF_other _ _ _ _ b] at e'
      exact h.inj q q' (hne q hq a) (hne q' hq' b) e'
set_option maxHeartbeats 2000000 in
theorem begin_ok (B : Nat) (l : Lo) (s : Vs) (p : Fin 6) (w : World) (h : Vb B w l s) (hB : B ≤ w.heap.size) (hp : s.has p = false) : Calls Try.prog 13 #[.pointer (some ⟨l.b, 0, none⟩), .int .i64 p.1] w fun r w' => r = .returned (.int .i64 0) ∧ Vb B w' ⟨l.b, l.m, upF l.r p w.heap.size⟩ { s with has := upF s.has p true, pg := upF s.pg p (fun _ => none) } ∧ Apart (XB l.b) w w' := by
  have cV := vacant_any B l s p.1 w h
  rw [freshE_at, hp] at cV
  have hmm := @run_makeMap Try.prog
  have c1 := (h.c.set p.1 (.map (some w.heap.size))).alloc (.map #[] 0)
  have a1 : Apart (XB l.b) w ((w.setCell ⟨l.b, p.1, none⟩ (.map (some w.heap.size))).alloc (.map #[] 0)) := (Apart.at (X := XB l.b) w l.b p.1 _ rfl).trans (Apart.of_below (below_new _ _))
  have s1 : Sp ((w.setCell ⟨l.b, p.1, none⟩ (.map (some w.heap.size))).alloc (.map #[] 0)) w.heap.size (fun _ => none) := by
    have hm := Mp.new (w.setCell ⟨l.b, p.1, none⟩ (.map (some w.heap.size))) .i64
    rw [size_setCell] at hm
    exact ⟨[], hm, by simp [keys], fun k => rfl⟩
  have HV := Hid3.mk (h.fresh hB p hp w.heap.size (fun _ => none) (Nat.le_refl _) a1 c1 s1)
  have HA := Hid3.mk a1
  have f0 := h.c.thaw p.1
  have z0 : w.cell? ⟨l.b, p.1, none⟩ = some (.map none) := by have := h.at p; rw [hp] at this; exact this
  have hl := h.c.lt
  simp only [Bool.false_eq_true, if_false] at cV
  clear h c1 a1 s1 hp
  obtain ⟨p, hp6⟩ := p
  have h2 : (p : Int) < 6 := by omega
  simp only at *
  go_enter Try.func13, Try.ntmps13
  go_wp2_with fail
  refine cV.mono ?_
  rintro r W ⟨rfl, hW⟩
  rw [hW]
  clear cV hW
  go_wp2
  go_ret
  exact ⟨rfl, HV.out, HA.out⟩
end Go.Proofs.Ytlnpdpfbnbjebaa
