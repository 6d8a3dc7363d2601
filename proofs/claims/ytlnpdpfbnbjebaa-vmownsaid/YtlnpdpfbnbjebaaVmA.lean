/- vm as plain data: of each process its pages and where each lies (-1: nowhere), how many pages lie in each frame, how often one was copied, the bytes; the program's in memory. -/
import Derived.Test.YtlnpdpfbnbjebaaVmM
namespace Go.Proofs.Ytlnpdpfbnbjebaa
open Go.RowKit Go.Maps
set_option linter.unusedVariables false
set_option maxRecDepth 100000
theorem all6 {P : Fin 6 → Prop} (h0 : P 0) (h1 : P 1) (h2 : P 2) (h3 : P 3) (h4 : P 4) (h5 : P 5) : ∀ k, P k
  | 0 => h0 | 1 => h1 | 2 => h2 | 3 => h3 | 4 => h4 | 5 => h5
def upF {α : Type} (f : Fin 6 → α) (k : Fin 6) (v : α) : Fin 6 → α := fun i => if i = k then v else f i
theorem upF_same {α : Type} (f : Fin 6 → α) (k : Fin 6) (v : α) : upF f k v k = v := if_pos rfl
theorem upF_other {α : Type} (f : Fin 6 → α) (k i : Fin 6) (v : α) (h : i ≠ k) : upF f k v i = f i := if_neg h
def upI {α : Type} (f : Int → Option α) (k : Int) (v : Option α) : Int → Option α := fun i => if i = k then v else f i
structure Vs where
  has : Fin 6 → Bool
  pg : Fin 6 → Int → Option Int
  rf : List Int
  cp : Int
  n : Int
  L : List Int
def vs0 (n : Int) : Vs := ⟨fun _ => false, fun _ _ => none, List.replicate 64 0, 0, n, zeroL⟩
/-- Where things lie: the whole, its memory, the spaces. -/
structure Lo where
  b : Nat
  m : Nat
  r : Fin 6 → Nat
def mpV : Bool → Nat → Value
  | true, a => .map (some a)
  | false, _ => .map none
def sCs (h : Fin 6 → Bool) (r : Fin 6 → Nat) : List Value := [mpV (h 0) (r 0), mpV (h 1) (r 1), mpV (h 2) (r 2), mpV (h 3) (r 3), mpV (h 4) (r 4), mpV (h 5) (r 5)]
def vCs (h : Fin 6 → Bool) (r : Fin 6 → Nat) (m : Nat) (rf : List Int) (cp : Int) : List Value := sCs h r ++ (.pointer (some ⟨m, 0, none⟩) :: (rf.map (Value.int .i64) ++ [.int .i64 cp]))
theorem vCs_at (h : Fin 6 → Bool) (r : Fin 6 → Nat) (m : Nat) (rf : List Int) (cp : Int) : ∀ p : Fin 6, (vCs h r m rf cp)[p.1]? = some (mpV (h p) (r p)) := all6 rfl rfl rfl rfl rfl rfl
theorem vCs_set (h : Fin 6 → Bool) (r : Fin 6 → Nat) (m : Nat) (rf : List Int) (cp : Int) (x : Bool) (a : Nat) : ∀ p : Fin 6, (vCs h r m rf cp).set p.1 (mpV x a) = vCs (upF h p x) (upF r p a) m rf cp := all6 rfl rfl rfl rfl rfl rfl
theorem vCs_mem (h : Fin 6 → Bool) (r : Fin 6 → Nat) (m : Nat) (rf : List Int) (cp : Int) : (vCs h r m rf cp)[6]? = some (.pointer (some ⟨m, 0, none⟩)) := rfl
theorem vCs_rf (h : Fin 6 → Bool) (r : Fin 6 → Nat) (m : Nat) (rf : List Int) (cp : Int) (k : Nat) (hk : k < rf.length) : (vCs h r m rf cp)[7 + k]? = some (.int .i64 (rf.getD k 0)) := by
  have e : (vCs h r m rf cp)[7 + k]? = (rf.map (Value.int .i64) ++ [Value.int .i64 cp])[k]? := by
    rw [Nat.add_comm]; rfl
  rw [e, List.getElem?_append_left (by simpa using hk), List.getElem?_map, List.getElem?_eq_getElem hk, List.getD_eq_getElem?_getD, List.getElem?_eq_getElem hk]
  rfl
theorem vCs_cp (h : Fin 6 → Bool) (r : Fin 6 → Nat) (m : Nat) (rf : List Int) (cp : Int) (hl : rf.length = 64) : (vCs h r m rf cp)[71]? = some (.int .i64 cp) := by
  have e : (vCs h r m rf cp)[71]? = (rf.map (Value.int .i64) ++ [Value.int .i64 cp])[64]? := rfl
  rw [e, List.getElem?_append_right (by simp [hl]), List.length_map, hl]
  rfl
theorem vCs_setrf (h : Fin 6 → Bool) (r : Fin 6 → Nat) (m : Nat) (rf : List Int) (cp : Int) (k : Nat) (x : Int) (hk : k < rf.length) : (vCs h r m rf cp).set (7 + k) (.int .i64 x) = vCs h r m (rf.set k x) cp := by
  have e : (vCs h r m rf cp).set (7 + k) (.int .i64 x) = sCs h r ++ (Value.pointer (some ⟨m, 0, none⟩) :: (rf.map (Value.int .i64) ++ [Value.int .i64 cp]).set k (.int .i64 x)) := by
    rw [Nat.add_comm]; rfl
  rw [e, List.set_append_left _ _ (by simpa using hk), ← List.map_set]
  rfl
theorem vCs_setcp (h : Fin 6 → Bool) (r : Fin 6 → Nat) (m : Nat) (rf : List Int) (cp x : Int) (hl : rf.length = 64) : (vCs h r m rf cp).set 71 (.int .i64 x) = vCs h r m rf x := by
  have e : (vCs h r m rf cp).set 71 (.int .i64 x) = sCs h r ++ (Value.pointer (some ⟨m, 0, none⟩) :: (rf.map (Value.int .i64) ++ [Value.int .i64 cp]).set 64 (.int .i64 x)) := rfl
  rw [e, List.set_append_right _ _ (by simp [hl]), List.length_map, hl]
  rfl
/-- A space in memory. -/
def Sp (w : World) (r : Nat) (f : Int → Option Int) : Prop := ∃ es, Mp w r .i64 es ∧ (keys es).Nodup ∧ ∀ k, lk es k = (f k).map (Value.int .i64)
theorem Sp.below {w w' : World} {r : Nat} {f : Int → Option Int} (h : Sp w r f) (k : Below w.heap.size w w') : Sp w' r f := h.elim fun es he => ⟨es, he.1.below k, he.2⟩
theorem Sp.stay {w w' : World} {r : Nat} {f : Int → Option Int} {X : Nat → Prop} (h : Sp w r f) (k : Apart X w w') (hx : ¬ X r) : Sp w' r f := h.elim fun es he => ⟨es, he.1.stay k hx, he.2⟩
theorem Sp.lt {w : World} {r : Nat} {f : Int → Option Int} (h : Sp w r f) : r < w.heap.size := h.elim fun es he => he.1.lt
theorem Sp.ne {w : World} {r b : Nat} {f : Int → Option Int} (h : Sp w r f) {cs : Array Value} {t : TypeId} {q : Nat × Nat} (hb : w.heap[b]? = some (.cells cs t q)) : r ≠ b := by
  intro e
  obtain ⟨es, ⟨arr, c, h1, _⟩, _⟩ := h
  rw [e, hb] at h1
  cases h1
structure Vb (B : Nat) (w : World) (l : Lo) (s : Vs) : Prop where
  g : B ≤ l.b
  gm : B ≤ l.m
  c : Cl w l.b 69 (vCs s.has l.r l.m s.rf s.cp)
  m : Mem w l.m s.n s.L
  len : s.rf.length = 64
  sp : ∀ p, s.has p = true → B ≤ l.r p ∧ Sp w (l.r p) (s.pg p)
  inj : ∀ p q, s.has p = true → s.has q = true → l.r p = l.r q → p = q
def XV (l : Lo) (s : Vs) (k : Nat) : Prop := k = l.b ∨ k = l.m ∨ ∃ p, s.has p = true ∧ k = l.r p
theorem Vb.below {B : Nat} {w w' : World} {l : Lo} {s : Vs} (h : Vb B w l s) (k : Below w.heap.size w w') : Vb B w' l s :=
  ⟨h.g, h.gm, h.c.below k, h.m.below k, h.len, fun p hp => ⟨(h.sp p hp).1, (h.sp p hp).2.below k⟩, h.inj⟩
theorem Vb.ge {B : Nat} {w : World} {l : Lo} {s : Vs} (h : Vb B w l s) {k : Nat} (hk : XV l s k) : B ≤ k := by
  rcases hk with rfl | rfl | ⟨p, hp, rfl⟩
  · exact h.g
  · exact h.gm
  · exact (h.sp p hp).1
theorem Vb.nbm {B : Nat} {w : World} {l : Lo} {s : Vs} (h : Vb B w l s) : l.b ≠ l.m := by
  intro e
  have h1 : w.heap[l.b]? = some (.cells _ 69 (0, 0)) := h.c
  have h2 := h.m.blk
  rw [← e, h1] at h2
  injection h2 with h2
  injection h2 with _ h2
  exact absurd h2 (by decide)
theorem Vb.at {B : Nat} {w : World} {l : Lo} {s : Vs} (h : Vb B w l s) (p : Fin 6) : w.cell? ⟨l.b, p.1, none⟩ = some (mpV (s.has p) (l.r p)) := (h.c.cell _).trans (vCs_at ..)
theorem Vb.mem {B : Nat} {w : World} {l : Lo} {s : Vs} (h : Vb B w l s) : w.cell? ⟨l.b, 6, none⟩ = some (.pointer (some ⟨l.m, 0, none⟩)) := (h.c.cell _).trans (vCs_mem ..)
theorem Vb.rf {B : Nat} {w : World} {l : Lo} {s : Vs} (h : Vb B w l s) (k : Nat) (hk : k < 64) : w.cell? ⟨l.b, 7 + k, none⟩ = some (.int .i64 (s.rf.getD k 0)) := (h.c.cell _).trans (vCs_rf _ _ _ _ _ k (by rw [h.len]; exact hk))
theorem Vb.cp {B : Nat} {w : World} {l : Lo} {s : Vs} (h : Vb B w l s) : w.cell? ⟨l.b, 71, none⟩ = some (.int .i64 s.cp) := (h.c.cell _).trans (vCs_cp _ _ _ _ _ h.len)
/-- What a call that changes it comes to. -/
structure VStp (B : Nat) (w w' : World) (l : Lo) (s s' : Vs) : Prop where
  out : ∃ l', l'.b = l.b ∧ Vb B w' l' s' ∧ ∀ k, XV l' s' k → XV l s k ∨ w.heap.size ≤ k
  ap : Apart (XV l s) w w'
theorem VStp.same {B : Nat} {w w' : World} {l : Lo} {s : Vs} (h : Vb B w l s) (k : Below w.heap.size w w') : VStp B w w' l s s := ⟨⟨l, rfl, h.below k, fun _ => .inl⟩, Apart.of_below k⟩
theorem VStp.low {B : Nat} {w w' : World} {l : Lo} {s s' : Vs} (k : VStp B w w' l s s') (h : Vb B w l s) (hB : B ≤ w.heap.size) : Below B w w' := k.ap.below B (fun _ hi => h.ge hi) hB
end Go.Proofs.Ytlnpdpfbnbjebaa
