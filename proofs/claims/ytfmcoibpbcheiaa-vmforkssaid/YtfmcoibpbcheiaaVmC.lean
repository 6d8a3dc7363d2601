/- vm as plain data: of each process its pages and where each lies (-1: nowhere), how many pages lie in each frame, how often one was copied, the bytes; the program's in memory. The program's vm: New, of, vacant, Begin, Map, Peek, Copies. The program's vm: the store's own, join, leave; Begin, Map. -/
import Derived.Test.YtfmcoibpbcheiaaVmM
import Derived.StillTailTactics
namespace Go.Proofs.Ytfmcoibpbcheiaa
open Go.RowKit Go.Maps
set_option linter.unusedVariables false
set_option maxRecDepth 100000
theorem all6 {P : Fin 6 → Prop} (h0 : P 0) (h1 : P 1) (h2 : P 2) (h3 : P 3) (h4 : P 4) (h5 : P 5) : ∀ k, P k
  | 0 => h0 | 1 => h1 | 2 => h2 | 3 => h3 | 4 => h4 | 5 => h5
def upF {α : Type} (f : Fin 6 → α) (k : Fin 6) (v : α) : Fin 6 → α := fun i => if i = k then v else f i
theorem upF_same {α : Type} (f : Fin 6 → α) (k : Fin 6) (v : α) : upF f k v k = v := if_pos rfl
theorem upF_other {α : Type} (f : Fin 6 → α) (k i : Fin 6) (v : α) (h : i ≠ k) : upF f k v i = f i := if_neg h
def upI {α : Type} (f : Int → Option α) (k : Int) (v : Option α) : Int → Option α := fun i => if i = k then v else f i
structure Vs where
  has : Fin 6 → Bool
  pg : Fin 6 → Int → Option Int
  rf : List Int
  cp : Int
  n : Int
  L : List Int
def vs0 (n : Int) : Vs := ⟨fun _ => false, fun _ _ => none, List.replicate 64 0, 0, n, zeroL⟩
/-- Where things lie: the whole, its memory, the spaces. -/
structure Lo where
  b : Nat
  m : Nat
  r : Fin 6 → Nat
def mpV : Bool → Nat → Value
  | true, a => .map (some a)
  | false, _ => .map none
def sCs (h : Fin 6 → Bool) (r : Fin 6 → Nat) : List Value := [mpV (h 0) (r 0), mpV (h 1) (r 1), mpV (h 2) (r 2), mpV (h 3) (r 3), mpV (h 4) (r 4), mpV (h 5) (r 5)]
def vCs (h : Fin 6 → Bool) (r : Fin 6 → Nat) (m : Nat) (rf : List Int) (cp : Int) : List Value := sCs h r ++ (.pointer (some ⟨m, 0, none⟩) :: (rf.map (Value.int .i64) ++ [.int .i64 cp]))
theorem vCs_at (h : Fin 6 → Bool) (r : Fin 6 → Nat) (m : Nat) (rf : List Int) (cp : Int) : ∀ p : Fin 6, (vCs h r m rf cp)[p.1]? = some (mpV (h p) (r p)) := all6 rfl rfl rfl rfl rfl rfl
theorem vCs_set (h : Fin 6 → Bool) (r : Fin 6 → Nat) (m : Nat) (rf : List Int) (cp : Int) (x : Bool) (a : Nat) : ∀ p : Fin 6, (vCs h r m rf cp).set p.1 (mpV x a) = vCs (upF h p x) (upF r p a) m rf cp := all6 rfl rfl rfl rfl rfl rfl
theorem vCs_mem (h : Fin 6 → Bool) (r : Fin 6 → Nat) (m : Nat) (rf : List Int) (cp : Int) : (vCs h r m rf cp)[6]? = some (.pointer (some ⟨m, 0, none⟩)) := rfl
theorem vCs_rf (h : Fin 6 → Bool) (r : Fin 6 → Nat) (m : Nat) (rf : List Int) (cp : Int) (k : Nat) (hk : k < rf.length) : (vCs h r m rf cp)[7 + k]? = some (.int .i64 (rf.getD k 0)) := by
  have e : (vCs h r m rf cp)[7 + k]? = (rf.map (Value.int .i64) ++ [Value.int .i64 cp])[k]? := by
    rw [Nat.add_comm]; rfl
  rw [e, List.getElem?_append_left (by simpa using hk), List.getElem?_map, List.getElem?_eq_getElem hk, List.getD_eq_getElem?_getD, List.getElem?_eq_getElem hk]
  rfl
theorem vCs_cp (h : Fin 6 → Bool) (r : Fin 6 → Nat) (m : Nat) (rf : List Int) (cp : Int) (hl : rf.length = 64) : (vCs h r m rf cp)[71]? = some (.int .i64 cp) := by
  have e : (vCs h r m rf cp)[71]? = (rf.map (Value.int .i64) ++ [Value.int .i64 cp])[64]? := rfl
  rw [e, List.getElem?_append_right (by simp [hl]), List.length_map, hl]
  rfl
theorem vCs_setrf (h : Fin 6 → Bool) (r : Fin 6 → Nat) (m : Nat) (rf : List Int) (cp : Int) (k : Nat) (x : Int) (hk : k < rf.length) : (vCs h r m rf cp).set (7 + k) (.int .i64 x) = vCs h r m (rf.set k x) cp := by
  have e : (vCs h r m rf cp).set (7 + k) (.int .i64 x) = sCs h r ++ (Value.pointer (some ⟨m, 0, none⟩) :: (rf.map (Value.int .i64) ++ [Value.int .i64 cp]).set k (.int .i64 x)) := by
    rw [Nat.add_comm]; rfl
  rw [e, List.set_append_left _ _ (by simpa using hk), ← List.map_set]
  rfl
theorem vCs_setcp (h : Fin 6 → Bool) (r : Fin 6 → Nat) (m : Nat) (rf : List Int) (cp x : Int) (hl : rf.length = 64) : (vCs h r m rf cp).set 71 (.int .i64 x) = vCs h r m rf x := by
  have e : (vCs h r m rf cp).set 71 (.int .i64 x) = sCs h r ++ (Value.pointer (some ⟨m, 0, none⟩) :: (rf.map (Value.int .i64) ++ [Value.int .i64 cp]).set 64 (.int .i64 x)) := rfl
  rw [e, List.set_append_right _ _ (by simp [hl]), List.length_map, hl]
  rfl
/-- A space in memory. -/
def Sp (w : World) (r : Nat) (f : Int → Option Int) : Prop := ∃ es, Mp w r .i64 es ∧ (keys es).Nodup ∧ ∀ k, lk es k = (f k).map (Value.int .i64)
theorem Sp.below {w w' : World} {r : Nat} {f : Int → Option Int} (h : Sp w r f) (k : Below w.heap.size w w') : Sp w' r f := h.elim fun es he => ⟨es, he.1.below k, he.2⟩
theorem Sp.stay {w w' : World} {r : Nat} {f : Int → Option Int} {X : Nat → Prop} (h : Sp w r f) (k : Apart X w w') (hx : ¬ X r) : Sp w' r f := h.elim fun es he => ⟨es, he.1.stay k hx, he.2⟩
theorem Sp.lt {w : World} {r : Nat} {f : Int → Option Int} (h : Sp w r f) : r < w.heap.size := h.elim fun es he => he.1.lt
theorem Sp.ne {w : World} {r b : Nat} {f : Int → Option Int} (h : Sp w r f) {cs : Array Value} {t : TypeId} {q : Nat × Nat} (hb : w.heap[b]? = some (.cells cs t q)) : r ≠ b := by
  intro e
  obtain ⟨es, ⟨arr, c, h1, _⟩, _⟩ := h
  rw [e, hb] at h1
  cases h1
structure Vb (B : Nat) (w : World) (l : Lo) (s : Vs) : Prop where
  g : B ≤ l.b
  gm : B ≤ l.m
  c : Cl w l.b 63 (vCs s.has l.r l.m s.rf s.cp)
  m : Mem w l.m s.n s.L
  len : s.rf.length = 64
  sp : ∀ p, s.has p = true → B ≤ l.r p ∧ Sp w (l.r p) (s.pg p)
  inj : ∀ p q, s.has p = true → s.has q = true → l.r p = l.r q → p = q
def XV (l : Lo) (s : Vs) (k : Nat) : Prop := k = l.b ∨ k = l.m ∨ ∃ p, s.has p = true ∧ k = l.r p
theorem Vb.below {B : Nat} {w w' : World} {l : Lo} {s : Vs} (h : Vb B w l s) (k : Below w.heap.size w w') : Vb B w' l s :=
  ⟨h.g, h.gm, h.c.below k, h.m.below k, h.len, fun p hp => ⟨(h.sp p hp).1, (h.sp p hp).2.below k⟩, h.inj⟩
theorem Vb.ge {B : Nat} {w : World} {l : Lo} {s : Vs} (h : Vb B w l s) {k : Nat} (hk : XV l s k) : B ≤ k := by
  rcases hk with rfl | rfl | ⟨p, hp, rfl⟩
  · exact h.g
  · exact h.gm
  · exact (h.sp p hp).1
theorem Vb.nbm {B : Nat} {w : World} {l : Lo} {s : Vs} (h : Vb B w l s) : l.b ≠ l.m := by
  intro e
  have h1 : w.heap[l.b]? = some (.cells _ 63 (0, 0)) := h.c
  have h2 := h.m.blk
  rw [← e, h1] at h2
  injection h2 with h2
  injection h2 with _ h2
  exact absurd h2 (by decide)
theorem Vb.at {B : Nat} {w : World} {l : Lo} {s : Vs} (h : Vb B w l s) (p : Fin 6) : w.cell? ⟨l.b, p.1, none⟩ = some (mpV (s.has p) (l.r p)) := (h.c.cell _).trans (vCs_at ..)
theorem Vb.mem {B : Nat} {w : World} {l : Lo} {s : Vs} (h : Vb B w l s) : w.cell? ⟨l.b, 6, none⟩ = some (.pointer (some ⟨l.m, 0, none⟩)) := (h.c.cell _).trans (vCs_mem ..)
theorem Vb.rf {B : Nat} {w : World} {l : Lo} {s : Vs} (h : Vb B w l s) (k : Nat) (hk : k < 64) : w.cell? ⟨l.b, 7 + k, none⟩ = some (.int .i64 (s.rf.getD k 0)) := (h.c.cell _).trans (vCs_rf _ _ _ _ _ k (by rw [h.len]; exact hk))
theorem Vb.cp {B : Nat} {w : World} {l : Lo} {s : Vs} (h : Vb B w l s) : w.cell? ⟨l.b, 71, none⟩ = some (.int .i64 s.cp) := (h.c.cell _).trans (vCs_cp _ _ _ _ _ h.len)
/-- What a call that changes it comes to. -/
structure VStp (B : Nat) (w w' : World) (l : Lo) (s s' : Vs) : Prop where
  out : ∃ l', l'.b = l.b ∧ Vb B w' l' s' ∧ ∀ k, XV l' s' k → XV l s k ∨ w.heap.size ≤ k
  ap : Apart (XV l s) w w'
theorem VStp.same {B : Nat} {w w' : World} {l : Lo} {s : Vs} (h : Vb B w l s) (k : Below w.heap.size w w') : VStp B w w' l s s := ⟨⟨l, rfl, h.below k, fun _ => .inl⟩, Apart.of_below k⟩
theorem VStp.low {B : Nat} {w w' : World} {l : Lo} {s s' : Vs} (k : VStp B w w' l s s') (h : Vb B w l s) (hB : B ≤ w.heap.size) : Below B w w' := k.ap.below B (fun _ hi => h.ge hi) hB
end Go.Proofs.Ytfmcoibpbcheiaa
namespace Go.Proofs.Ytfmcoibpbcheiaa
open Go.RowKit Go.Maps
set_option linter.unusedVariables false
set_option maxRecDepth 100000
def stL (m : Nat) : List Value := .pointer (some ⟨m, 0, none⟩) :: ((List.replicate 64 (0 : Int)).map (Value.int .i64) ++ [.int .i64 0])
theorem st_built (m : Nat) : Try.prog.built 58 [(0, .pointer (some ⟨m, 0, none⟩))] = some (stL m).toArray := by kernel_rfl
theorem vm_built (m : Nat) : Try.prog.built 63 [(1, .agg (stL m).toArray)] = some (vCs (fun _ => false) (fun _ => 0) m (List.replicate 64 0) 0).toArray := by kernel_rfl
theorem qE : ∀ (w : World) (r : Option Nat), (binOp .eql 60 (.map r) (.map none)).run Try.prog w = .ok (.bool r.isNone) w := fun w r => run_eql_map_nil w _ _ _ r Try.underlying60
theorem qN : ∀ (w : World) (r : Option Nat), (binOp .neq 60 (.map r) (.map none)).run Try.prog w = .ok (.bool (!r.isNone)) w := fun w r => run_neq_map_nil w _ _ _ r Try.underlying60
set_option maxHeartbeats 1000000 in
theorem vnew_bad (n : Int) (w : World) (h : n < 1 ∨ 64 < n) : Calls Try.prog 19 #[.int .i64 n] w fun r w' => r = .returned (.pointer none) ∧ w' = w := by
  have c1 := new_bad n w h
  go_enter Try.func19, Try.ntmps19
  go_wp2_with fail
  refine c1.mono ?_
  rintro r W ⟨rfl, hW⟩
  rw [hW]
  clear c1 hW
  go_wp2
  go_ret
  exact ⟨rfl, rfl⟩
set_option maxHeartbeats 1000000 in
theorem vnew_good (n : Int) (w : World) (h1 : 1 ≤ n) (h2 : n ≤ 64) : Calls Try.prog 19 #[.int .i64 n] w fun r w' => ∃ l, r = .returned (.pointer (some ⟨l.b, 0, none⟩)) ∧ Vb w.heap.size w' l (vs0 n) ∧ Below w.heap.size w w' := by
  have c1 := new_good n w h1 h2
  have hb1 := st_built w.heap.size
  have hb2 := vm_built w.heap.size
  generalize stL w.heap.size = S at *
  generalize hV0 : (vCs (fun _ => false) (fun _ => 0) w.heap.size (List.replicate 64 0) 0).toArray = V0 at *
  have HV := Hid3.mk hV0
  clear hV0
  go_enter Try.func19, Try.ntmps19
  go_wp2_with fail
  refine c1.mono ?_
  rintro r W ⟨rfl, hM, hB⟩
  have HM := Hid3.mk hM
  have HB := Hid3.mk hB
  clear c1 hM hB
  go_wp2_with (first | (refine Go.wpList_buildTo rfl _ _ rfl _ rfl S.toArray (by simpa [Act.eval] using hb1) ?_) | (refine Go.wpList_buildTo rfl _ _ rfl _ rfl V0 ?hx ?_; case hx => (simp [Act.eval]; exact hb2)))
  go_ret
  refine ⟨⟨W.heap.size, w.heap.size, fun _ => 0⟩, rfl, ⟨HB.out.size, Nat.le_refl _, ?_, HM.out.below (below_new _ _), List.length_replicate, fun p hp => (by cases hp), fun p q hp => (by cases hp)⟩, HB.out.trans ((below_new W _).mono HB.out.size)⟩
  show Cl _ W.heap.size _ (vCs (fun _ => false) (fun _ => 0) w.heap.size (List.replicate 64 0) 0)
  unfold Cl
  rw [HV.out]
  exact heap_alloc_new _ _
/-- There is no such process. -/
def NoP (s : Vs) (pid : Int) : Prop := pid < 0 ∨ 6 ≤ pid ∨ ∃ p : Fin 6, pid = p.1 ∧ s.has p = false
theorem pid_cases (s : Vs) (pid : Int) : NoP s pid ∨ ∃ p : Fin 6, pid = (p.1 : Int) ∧ s.has p = true := by
  by_cases h1 : pid < 0
  · exact .inl (.inl h1)
  by_cases h2 : 6 ≤ pid
  · exact .inl (.inr (.inl h2))
  · have hlt : pid.toNat < 6 := by omega
    cases hh : s.has ⟨pid.toNat, hlt⟩ with
    | false => exact .inl (.inr (.inr ⟨⟨pid.toNat, hlt⟩, by show pid = (pid.toNat : Int); omega, hh⟩))
    | true => exact .inr ⟨⟨pid.toNat, hlt⟩, by show pid = (pid.toNat : Int); omega, hh⟩
set_option maxHeartbeats 1000000 in
theorem of_ok (B : Nat) (l : Lo) (s : Vs) (p : Fin 6) (w : World) (h : Vb B w l s) (hp : s.has p = true) : Calls Try.prog 35 #[.pointer (some ⟨l.b, 0, none⟩), .int .i64 p.1] w fun r w' => r = .returned (.tuple #[.map (some (l.r p)), .int .i64 0]) ∧ w' = w := by
  have c0 := h.at p
  rw [hp] at c0
  have c1 : w.cell? ⟨l.b, p.1, none⟩ = some (.map (some (l.r p))) := c0
  clear h c0
  obtain ⟨p, hp6⟩ := p
  have h1 : ¬ (p : Int) < 0 := by omega
  have h2 : (p : Int) < 6 := by omega
  have h3 : ¬ (6 : Int) ≤ p := by omega
  simp only at *
  have q := qE
  go_enter Try.func35, Try.ntmps35
  go_wp2
  go_ret2
  exact ⟨rfl, rfl⟩
set_option maxHeartbeats 1000000 in
theorem of_bad (B : Nat) (l : Lo) (s : Vs) (pid : Int) (w : World) (h : Vb B w l s) (hp : NoP s pid) : Calls Try.prog 35 #[.pointer (some ⟨l.b, 0, none⟩), .int .i64 pid] w fun r w' => r = .returned (.tuple #[.map none, .int .i64 5]) ∧ w' = w := by
  rcases hp with h1 | h1 | ⟨p, rfl, hp⟩
  · clear h
    have q := qE
    go_enter Try.func35, Try.ntmps35
    go_wp2
    go_ret2
    exact ⟨rfl, rfl⟩
  · clear h
    have h0 : ¬ pid < 0 := by omega
    have q := qE
    go_enter Try.func35, Try.ntmps35
    go_wp2
    go_ret2
    exact ⟨rfl, rfl⟩
  · have c0 := h.at p
    rw [hp] at c0
    have c1 : w.cell? ⟨l.b, p.1, none⟩ = some (.map none) := c0
    clear h c0
    obtain ⟨p, hp6⟩ := p
    have h1 : ¬ (p : Int) < 0 := by omega
    have h2 : (p : Int) < 6 := by omega
    have h3 : ¬ (6 : Int) ≤ p := by omega
    simp only at *
    have q := qE
    go_enter Try.func35, Try.ntmps35
    go_wp2
    go_ret2
    exact ⟨rfl, rfl⟩
/-- The error of a process that should not be there. -/
def freshE (s : Vs) (pid : Int) : Int := if h : 0 ≤ pid ∧ pid < 6 then (if s.has ⟨pid.toNat, by omega⟩ then 6 else 0) else 2
theorem freshE_at (s : Vs) (p : Fin 6) : freshE s p.1 = if s.has p then 6 else 0 := by
  unfold freshE
  rw [dif_pos (by constructor <;> omega)]
  have : (⟨((p.1 : Nat) : Int).toNat, by omega⟩ : Fin 6) = p := by ext; simp
  rw [this]
theorem freshE_ok (s : Vs) (pid : Int) (h : freshE s pid = 0) : ∃ p : Fin 6, pid = (p.1 : Int) ∧ s.has p = false := by
  unfold freshE at h
  by_cases hc : 0 ≤ pid ∧ pid < 6
  · rw [dif_pos hc] at h
    cases hh : s.has ⟨pid.toNat, by omega⟩ with
    | true => rw [hh] at h; simp at h
    | false => exact ⟨⟨pid.toNat, by omega⟩, by show pid = (pid.toNat : Int); omega, hh⟩
  · rw [dif_neg hc] at h
    omega
set_option maxHeartbeats 1000000 in
theorem vacant_any (B : Nat) (l : Lo) (s : Vs) (pid : Int) (w : World) (h : Vb B w l s) : Calls Try.prog 56 #[.pointer (some ⟨l.b, 0, none⟩), .int .i64 pid] w fun r w' => r = .returned (.int .i64 (freshE s pid)) ∧ w' = w := by
  by_cases hc : 0 ≤ pid ∧ pid < 6
  · obtain ⟨p, rfl⟩ : ∃ p : Fin 6, pid = (p.1 : Int) := ⟨⟨pid.toNat, by omega⟩, by show pid = (pid.toNat : Int); omega⟩
    rw [freshE_at]
    have c0 := h.at p
    clear h hc
    obtain ⟨p, hp6⟩ := p
    have h1 : ¬ (p : Int) < 0 := by omega
    have h2 : (p : Int) < 6 := by omega
    have h3 : ¬ (6 : Int) ≤ p := by omega
    cases hh : s.has ⟨p, hp6⟩ with
    | true =>
      rw [hh] at c0
      have c1 : w.cell? ⟨l.b, p, none⟩ = some (.map (some (l.r ⟨p, hp6⟩))) := c0
      clear c0
      simp only [if_true] at *
      have q := qN
      go_enter Try.func56, Try.ntmps56
      go_wp2
      go_ret
      exact ⟨rfl, rfl⟩
    | false =>
      rw [hh] at c0
      have c1 : w.cell? ⟨l.b, p, none⟩ = some (.map none) := c0
      clear c0
      simp only [Bool.false_eq_true, if_false] at *
      have q := qN
      go_enter Try.func56, Try.ntmps56
      go_wp2
      go_ret
      exact ⟨rfl, rfl⟩
  · have he : freshE s pid = 2 := by unfold freshE; rw [dif_neg hc]
    rw [he]
    clear h he
    by_cases h1 : pid < 0
    · clear hc
      have q := qN
      go_enter Try.func56, Try.ntmps56
      go_wp2
      go_ret
      exact ⟨rfl, rfl⟩
    · have h2 : 6 ≤ pid := by omega
      clear hc
      have q := qN
      go_enter Try.func56, Try.ntmps56
      go_wp2
      go_ret
      exact ⟨rfl, rfl⟩
set_option maxHeartbeats 1000000 in
theorem copies_ok (B : Nat) (l : Lo) (s : Vs) (w : World) (h : Vb B w l s) : Calls Try.prog 25 #[.pointer (some ⟨l.b, 0, none⟩)] w fun r w' => r = .returned (.int .i64 s.cp) ∧ w' = w := by
  have c0 := h.cp
  clear h
  go_enter Try.func25, Try.ntmps25
  go_wp2
  go_ret
  exact ⟨rfl, rfl⟩
end Go.Proofs.Ytfmcoibpbcheiaa
namespace Go.Proofs.Ytfmcoibpbcheiaa
open Go.RowKit Go.Maps
set_option linter.unusedVariables false
set_option maxRecDepth 100000
theorem Mem.stay {w w' : World} {b : Nat} {n : Int} {L : List Int} {X : Nat → Prop} (h : Mem w b n L) (k : Apart X w w') (hx : ¬ X b) : Mem w' b n L := ⟨(k.block b h.lt hx).trans h.blk, h.len, h.lo, h.hi⟩
theorem Vb.recell {B : Nat} {w w' : World} {l : Lo} {s : Vs} (h : Vb B w l s) (rf : List Int) (cp : Int) (hl : rf.length = 64) (ap : Apart (XB l.b) w w') (c : Cl w' l.b 63 (vCs s.has l.r l.m rf cp)) : Vb B w' l { s with rf := rf, cp := cp } :=
  ⟨h.g, h.gm, c, h.m.stay ap (fun e => h.nbm e.symm), hl, fun p hp => ⟨(h.sp p hp).1, (h.sp p hp).2.stay ap ((h.sp p hp).2.ne h.c)⟩, h.inj⟩
theorem Vb.setrf {B : Nat} {w : World} {l : Lo} {s : Vs} (h : Vb B w l s) (k : Nat) (hk : k < 64) (x : Int) : Vb B (w.setCell ⟨l.b, 7 + k, none⟩ (.int .i64 x)) l { s with rf := s.rf.set k x } := by
  have c := h.c.set (7 + k) (.int .i64 x)
  rw [vCs_setrf _ _ _ _ _ k x (by rw [h.len]; exact hk)] at c
  exact h.recell (s.rf.set k x) s.cp (by rw [List.length_set]; exact h.len) (Apart.at w l.b (7 + k) _ rfl) c
theorem Vb.setcp {B : Nat} {w : World} {l : Lo} {s : Vs} (h : Vb B w l s) (x : Int) : Vb B (w.setCell ⟨l.b, 71, none⟩ (.int .i64 x)) l { s with cp := x } := by
  have c := h.c.set 71 (.int .i64 x)
  rw [vCs_setcp _ _ _ _ _ _ h.len] at c
  exact h.recell s.rf x h.len (Apart.at w l.b 71 _ rfl) c
/-- The memory is written. -/
theorem Vb.remem {B : Nat} {w w' : World} {l : Lo} {s : Vs} (h : Vb B w l s) (L : List Int) (ap : Only l.m w w') (m : Mem w' l.m s.n L) : Vb B w' l { s with L := L } := by
  have a : Apart (XB l.m) w w' := ⟨ap.os, ap.tape, ap.output, ap.size, fun k hk hx => ap.block k hk hx⟩
  exact ⟨h.g, h.gm, h.c.stay a h.nbm, m, h.len, fun p hp => ⟨(h.sp p hp).1, (h.sp p hp).2.stay a ((h.sp p hp).2.ne h.m.blk)⟩, h.inj⟩
def ownB (s : Vs) (f : Int) : Bool := f != -1 && s.rf.getD f.toNat 0 == 1
set_option maxHeartbeats 1000000 in
theorem own_any (B : Nat) (l : Lo) (s : Vs) (f : Int) (hf : f = -1 ∨ (0 ≤ f ∧ f < 64)) (w : World) (h : Vb B w l s) : Calls Try.prog 69 #[.pointer (some ⟨l.b, 6, none⟩), .int .i64 f] w fun r w' => r = .returned (.bool (ownB s f)) ∧ w' = w := by
  unfold ownB
  rcases hf with rfl | ⟨h0, h1⟩
  · clear h
    go_enter Try.func69, Try.ntmps69
    go_wp2
    go_ret
    exact ⟨rfl, rfl⟩
  · obtain ⟨k, rfl⟩ := Int.eq_ofNat_of_zero_le h0
    have c0 := h.rf k (by omega)
    have e1 : ((k : Int) != -1) = true := by simp
    rw [e1, Int.toNat_natCast]
    have h3 : ¬ (k : Int) = -1 := by omega
    generalize s.rf.getD k 0 = x at *
    clear h
    go_enter Try.func69, Try.ntmps69
    go_wp2
    go_ret
    exact ⟨rfl, rfl⟩
set_option maxHeartbeats 1000000 in
theorem join_no (b : Nat) (w : World) : Calls Try.prog 58 #[.pointer (some ⟨b, 6, none⟩), .int .i64 (-1)] w fun r w' => r = .returned (.tuple #[]) ∧ w' = w := by
  go_enter Try.func58, Try.ntmps58
  go_wp2
  first
    | exact bodyPost_end (results_none rfl _ _ _) rfl ⟨rfl, rfl⟩
    | exact bodyPost_ret (results_none rfl _ _ _) rfl ⟨rfl, rfl⟩
set_option maxHeartbeats 1000000 in
theorem join_ok (B : Nat) (l : Lo) (s : Vs) (k : Nat) (hk : k < 64) (hx : 0 ≤ s.rf.getD k 0 ∧ s.rf.getD k 0 ≤ 1000) (w : World) (h : Vb B w l s) : Calls Try.prog 58 #[.pointer (some ⟨l.b, 6, none⟩), .int .i64 k] w fun r w' => r = .returned (.tuple #[]) ∧ Vb B w' l { s with rf := s.rf.set k (s.rf.getD k 0 + 1) } ∧ Apart (XB l.b) w w' := by
  have c0 := h.rf k hk
  have f0 := h.c.thaw (7 + k)
  have e1 : ((k : Int) != -1) = true := by simp
  have h3 : ¬ (k : Int) = -1 := by omega
  have h4 : (k : Int) < 64 := by omega
  have HV := Hid3.mk (h.setrf k hk (s.rf.getD k 0 + 1))
  have HA := Hid3.mk (Apart.at (X := XB l.b) w l.b (7 + k) (.int .i64 (s.rf.getD k 0 + 1)) rfl)
  have hl := h.c.lt
  generalize s.rf.getD k 0 = x at *
  have h5 : IntKind.i64.wrap (x + 1) = x + 1 := by rw [IntKind.wrap_i64]; omega
  clear h hx
  go_enter Try.func58, Try.ntmps58
  go_wp2
  go_region
  go_wp2
  first
    | exact bodyPost_end (results_none rfl _ _ _) rfl ⟨rfl, HV.out.below (below_drew _), HA.out.drew⟩
    | exact bodyPost_ret (results_none rfl _ _ _) rfl ⟨rfl, HV.out.below (below_drew _), HA.out.drew⟩
set_option maxHeartbeats 1000000 in
theorem addressed_any (a m : Int) (w : World) : Calls Try.prog 40 #[.int .i64 a, .int .i64 m] w fun r w' => r = .returned (.bool (decide (0 ≤ a) && decide (a < 512) && decide (m ≤ 512 - a))) ∧ w' = w := by
  by_cases h0 : 0 ≤ a
  · by_cases h1 : a < 512
    · have h5 : IntKind.i64.wrap (512 - a) = 512 - a := by rw [IntKind.wrap_i64]; omega
      by_cases h2 : m ≤ 512 - a
      · simp only [decide_eq_true h0, decide_eq_true h1, decide_eq_true h2]
        go_enter Try.func40, Try.ntmps40
        go_wp2
        go_ret
        exact ⟨rfl, rfl⟩
      · simp only [decide_eq_true h0, decide_eq_true h1, decide_eq_false h2]
        go_enter Try.func40, Try.ntmps40
        go_wp2
        go_ret
        exact ⟨rfl, rfl⟩
    · simp only [decide_eq_true h0, decide_eq_false h1]
      go_enter Try.func40, Try.ntmps40
      go_wp2
      go_ret
      exact ⟨rfl, rfl⟩
  · simp only [decide_eq_false h0]
    go_enter Try.func40, Try.ntmps40
    go_wp2
    go_ret
    exact ⟨rfl, rfl⟩
theorem zeroI (w : World) : (zeroValue 3).run Try.prog w = .ok (.int .i64 0) w := by
  have h : (Try.prog.info? 3).map (fun i => i.zero) = some (some (.int .i64 0)) := by kernel_rfl
  rw [Option.map_eq_some_iff] at h
  obtain ⟨i, hi, hz⟩ := h
  simp [zeroValue, typeInfo, hi, hz]
theorem lookP {w : World} {r : Nat} {f : Int → Option Int} (h : Sp w r f) (k : Int) : (Instr.lookup 60 (.map (some r)) (.int .i64 k) true).run Try.prog w = .ok (.tuple #[.int .i64 ((f k).getD 0), .bool (f k).isSome]) w := by
  obtain ⟨es, hm, _, hl⟩ := h
  have := look_run hm (t := 60) Try.underlying60 Try.underlying3 (zeroI w) k
  rw [hl] at this
  rw [this]
  cases f k <;> rfl
theorem stepP {w : World} {r : Nat} {f : Int → Option Int} (h : Sp w r f) (k v : Int) : ∃ w', (Instr.mapUpdate 60 (.map (some r)) (.int .i64 k) (.int .i64 v)).run Try.prog w = .ok () w' ∧ Sp w' r (upI f k (some v)) ∧ Apart (XB r) w w' := by
  obtain ⟨es, hm, hn, hl⟩ := h
  obtain ⟨w', h1, h2, h3⟩ := upd_run hm (t := 60) Try.underlying60 Try.underlying3 k (.int .i64 v)
  exact ⟨w', h1, ⟨_, h2, nodup_put _ _ _ hn, fun j => by rw [lk_put, hl, upI]; split <;> rfl⟩, h3⟩
/-- One space is another one. -/
theorem Vb.respace {B : Nat} {w w' : World} {l : Lo} {s : Vs} (h : Vb B w l s) (p : Fin 6) (hp : s.has p = true) (f : Int → Option Int) (ap : Apart (XB (l.r p)) w w') (c : Sp w' (l.r p) f) : Vb B w' l { s with pg := upF s.pg p f } := by
  refine ⟨h.g, h.gm, h.c.stay ap (fun e => (h.sp p hp).2.ne h.c e.symm), h.m.stay ap (fun e => (h.sp p hp).2.ne h.m.blk e.symm), h.len, fun q hq => ?_, h.inj⟩
  refine ⟨(h.sp q hq).1, ?_⟩
  show Sp w' (l.r q) (upF s.pg p f q)
  by_cases e : q = p
  · subst e
    rw [upF_same]
    exact c
  · rw [upF_other _ _ _ _ e]
    exact (h.sp q hq).2.stay ap (fun x => e (h.inj q p hq hp x))
/-- A new space, without pages. -/
theorem Vb.fresh {B : Nat} {w w' : World} {l : Lo} {s : Vs} (h : Vb B w l s) (hB : B ≤ w.heap.size) (p : Fin 6) (hp : s.has p = false) (r : Nat) (f : Int → Option Int) (hr : w.heap.size ≤ r) (ap : Apart (XB l.b) w w') (c : Cl w' l.b 63 ((vCs s.has l.r l.m s.rf s.cp).set p.1 (.map (some r)))) (sp : Sp w' r f) :
    Vb B w' ⟨l.b, l.m, upF l.r p r⟩ { s with has := upF s.has p true, pg := upF s.pg p f } := by
  have e0 := vCs_set s.has l.r l.m s.rf s.cp true r p
  have e1 : (vCs s.has l.r l.m s.rf s.cp).set p.1 (.map (some r)) = vCs (upF s.has p true) (upF l.r p r) l.m s.rf s.cp := e0
  rw [e1] at c
  have hne : ∀ q, upF s.has p true q = true → q ≠ p → s.has q = true := fun q hq e => by rw [upF_other _ _ _ _ e] at hq; exact hq
  refine ⟨h.g, h.gm, c, h.m.stay ap (fun e => h.nbm e.symm), h.len, fun q hq => ?_, fun q q' hq hq' e => ?_⟩
  · show B ≤ upF l.r p r q ∧ Sp w' (upF l.r p r q) (upF s.pg p f q)
    by_cases e : q = p
    · subst e
      rw [upF_same, upF_same]
      exact ⟨Nat.le_trans hB hr, sp⟩
    · rw [upF_other _ _ _ _ e, upF_other _ _ _ _ e]
      have hq' := hne q hq e
      exact ⟨(h.sp q hq').1, (h.sp q hq').2.stay ap ((h.sp q hq').2.ne h.c)⟩
  · have e' : upF l.r p r q = upF l.r p r q' := e
    by_cases a : q = p <;> by_cases b : q' = p
    · rw [a, b]
    · subst a
      rw [upF_same, upF_other _ _ _ _ b] at e'
      have := (h.sp q' (hne q' hq' b)).2.lt
      omega
    · subst b
      rw [upF_same, upF_other _ _ _ _ a] at e'
      have := (h.sp q (hne q hq a)).2.lt
      omega
    · rw [upF_other _ _ _ _ a, upF_other _ _ _ _ b] at e'
      exact h.inj q q' (hne q hq a) (hne q' hq' b) e'
set_option maxHeartbeats 2000000 in
theorem begin_ok (B : Nat) (l : Lo) (s : Vs) (p : Fin 6) (w : World) (h : Vb B w l s) (hB : B ≤ w.heap.size) (hp : s.has p = false) : Calls Try.prog 21 #[.pointer (some ⟨l.b, 0, none⟩), .int .i64 p.1] w fun r w' => r = .returned (.int .i64 0) ∧ Vb B w' ⟨l.b, l.m, upF l.r p w.heap.size⟩ { s with has := upF s.has p true, pg := upF s.pg p (fun _ => none) } ∧ Apart (XB l.b) w w' := by
  have cV := vacant_any B l s p.1 w h
  rw [freshE_at, hp] at cV
  have hmm := @run_makeMap Try.prog
  have c1 := (h.c.set p.1 (.map (some w.heap.size))).alloc (.map #[] 0)
  have a1 : Apart (XB l.b) w ((w.setCell ⟨l.b, p.1, none⟩ (.map (some w.heap.size))).alloc (.map #[] 0)) := (Apart.at (X := XB l.b) w l.b p.1 _ rfl).trans (Apart.of_below (below_new _ _))
  have s1 : Sp ((w.setCell ⟨l.b, p.1, none⟩ (.map (some w.heap.size))).alloc (.map #[] 0)) w.heap.size (fun _ => none) := by
    have hm := Mp.new (w.setCell ⟨l.b, p.1, none⟩ (.map (some w.heap.size))) .i64
    rw [size_setCell] at hm
    exact ⟨[], hm, by simp [keys], fun k => rfl⟩
  have HV := Hid3.mk (h.fresh hB p hp w.heap.size (fun _ => none) (Nat.le_refl _) a1 c1 s1)
  have HA := Hid3.mk a1
  have f0 := h.c.thaw p.1
  have z0 : w.cell? ⟨l.b, p.1, none⟩ = some (.map none) := by have := h.at p; rw [hp] at this; exact this
  have hl := h.c.lt
  simp only [Bool.false_eq_true, if_false] at cV
  clear h c1 a1 s1 hp
  obtain ⟨p, hp6⟩ := p
  have h2 : (p : Int) < 6 := by omega
  simp only at *
  go_enter Try.func21, Try.ntmps21
  go_wp2_with fail
  refine cV.mono ?_
  rintro r W ⟨rfl, hW⟩
  rw [hW]
  clear cV hW
  go_wp2
  go_ret
  exact ⟨rfl, HV.out, HA.out⟩
end Go.Proofs.Ytfmcoibpbcheiaa
