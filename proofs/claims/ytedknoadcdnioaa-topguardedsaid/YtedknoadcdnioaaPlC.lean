/- The program's pool: note, give. -/
import Derived.Test.YtedknoadcdnioaaPlB
import Derived.Maps.AppendAt
import Derived.Deep.RegionWith
import Derived.RangeFuncBox
import Derived.OwnWalk
namespace Go.Proofs.Ytedknoadcdnioaa
open Go.RowKit Go.Maps
set_option linter.unusedVariables false
set_option maxRecDepth 100000
def updN {α : Type} (O : Nat → α) (f : Nat) (x : α) : Nat → α := fun i => if i = f then x else O i
def XP (b fb : Nat) (v : Value) : Nat → Prop := fun k => k = b ∨ k = fb ∨ v.ownBlock = some k
/-- What a call that changes a pool comes to. -/
structure PStp (B : Nat) (w w' : World) (b fb n : Nat) (v : Value) (q' : Ps) : Prop where
  out : ∃ v', Pl B w' b fb n v' q' ∧ ∀ k, v'.ownBlock = some k → v.ownBlock = some k ∨ w.heap.size ≤ k
  ap : Apart (XP b fb v) w w'
theorem PStp.same {B : Nat} {w w' : World} {b fb n : Nat} {v : Value} {q : Ps} (h : Pl B w b fb n v q) (k : Below w.heap.size w w') : PStp B w w' b fb n v q := ⟨⟨v, h.low k, fun _ e => .inl e⟩, Apart.of_below k⟩
theorem PStp.pre {B : Nat} {w w1 w' : World} {b fb n : Nat} {v : Value} {q' : Ps} (k : Below w.heap.size w w1) (h : PStp B w1 w' b fb n v q') : PStp B w w' b fb n v q' := by
  obtain ⟨v', h1, h2⟩ := h.out
  exact ⟨⟨v', h1, fun k' e => (h2 k' e).imp id (fun h => Nat.le_trans k.size h)⟩, (Apart.of_below k).trans h.ap⟩
theorem PStp.then {B : Nat} {w w1 w' : World} {b fb n : Nat} {v v1 : Value} {q' : Ps} (k : Apart (XP b fb v) w w1) (hv : ∀ k, v1.ownBlock = some k → v.ownBlock = some k ∨ w.heap.size ≤ k) (h : PStp B w1 w' b fb n v1 q') : PStp B w w' b fb n v q' := by
  obtain ⟨v', h1, h2⟩ := h.out
  refine ⟨⟨v', h1, fun k' e => ?_⟩, k.then h.ap (fun i hi e => ?_)⟩
  · rcases h2 k' e with e1 | e1
    · exact hv k' e1
    · exact .inr (Nat.le_trans k.size e1)
  · rcases e with e | e | e
    · exact .inl e
    · exact .inr (.inl e)
    · rcases hv i e with e1 | e1
      · exact .inr (.inr e1)
      · omega
theorem own_ty {w : World} {B t size n : Nat} {v : Value} {xs : List Value} (h : w.ownsRow B t size v n xs) {k : Nat} (e : v.ownBlock = some k) : ∃ cur, w.heap[k]? = some (.cells cur t (0, 0)) := by
  rcases h.2 with ⟨rfl, _⟩ | ⟨g, cap, cur, rfl, _, h1, _⟩
  · cases e
  · have e' : some g = some k := e
    injection e' with e'
    subst e'
    exact ⟨cur, h1⟩
theorem own_ne {w : World} {B t u size n b : Nat} {v : Value} {xs : List Value} {fr : Nat × Nat} {cs : Array Value} (h : w.ownsRow B t size v n xs) (hb : w.heap[b]? = some (.cells cs u fr)) (ht : t ≠ u) : v.ownBlock ≠ some b := fun e => by
  obtain ⟨cur, h1⟩ := own_ty h e
  rw [hb] at h1
  injection h1 with h1
  injection h1 with _ h1 _
  exact ht h1.symm
theorem Pl.ne {B : Nat} {w : World} {b fb n : Nat} {v : Value} {q : Ps} (h : Pl B w b fb n v q) : b ≠ fb ∧ v.ownBlock ≠ some b ∧ v.ownBlock ≠ some fb := by
  have hb : w.heap[b]? = some (.cells (poolCs fb n q.M v).toArray 41 (0, 0)) := h.c
  obtain ⟨arr, hf, _⟩ := h.f
  refine ⟨fun e => ?_, own_ne h.e hb (by decide), own_ne h.e hf (by decide)⟩
  rw [e, hf] at hb
  injection hb with hb
  injection hb with _ h1 _
  exact absurd h1 (by decide)
theorem grownSets (W : World) (b j : Nat) (v : Value) : W.grownBy (W.setCell ⟨b, j, none⟩ v) (some b) :=
  ⟨rfl, rfl, rfl, by simp [World.setCell], fun k hk hne => Below.heap_setCell W ⟨b, j, none⟩ v k (fun e => hne (by rw [e]))⟩
theorem Pl.noted {B : Nat} {w w1 : World} {b fb n : Nat} {v v' : Value} {q : Ps} {o : Obj} (x : Ev) (h : Pl B w b fb n v q) (hown : w1.ownsRow B 78 3 v' (q.E.length + 1) (evCs q.E ++ evC x)) (hg : (w.alloc o).grownBy w1 v.ownBlock) (hat : v'.ownBlock = v.ownBlock ∨ v'.ownBlock = some (w.alloc o).heap.size) :
    PStp B w (w1.setCell ⟨b, 7, none⟩ v') b fb n v { q with E := q.E ++ [x] } := by
  obtain ⟨n1, n2, n3⟩ := h.ne
  have hb := h.c.lt
  have hfl := h.f.lt
  have hsz : (w.alloc o).heap.size = w.heap.size + 1 := by simp
  have hc1 : Cl w1 b 41 (poolCs fb n q.M v) := (hg.block b (by omega) (fun e => n2 e.symm)).trans (h.c.alloc o)
  have hap1 : Apart (XP b fb v) w w1 := (Apart.of_below (below_new w o)).trans ⟨hg.os, hg.tape, hg.output, hg.size, fun k hk hx => hg.block k hk (fun e => hx (.inr (.inr e.symm)))⟩
  have hap : Apart (XP b fb v) w (w1.setCell ⟨b, 7, none⟩ v') := hap1.trans (Apart.at w1 b 7 v' (.inl rfl))
  have hb1 : w1.heap[b]? = some (.cells (poolCs fb n q.M v).toArray 41 (0, 0)) := hc1
  refine ⟨⟨v', ⟨h.g, h.gf, hc1.set 7 v', ?_, ?_, h.o, h.n9⟩, fun k e => ?_⟩, hap⟩
  · have hfr1 : Fr w1 fb n q.O q.G := by
      obtain ⟨arr, h1, h2⟩ := h.f.below (below_new w o)
      exact ⟨arr, (hg.block fb (by omega) (fun e => n3 e.symm)).trans h1, h2⟩
    exact hfr1.stay (Apart.set w1 ⟨b, 7, none⟩ v') (fun e => n1 e.symm)
  · show (w1.setCell ⟨b, 7, none⟩ v').ownsRow B 78 3 v' (q.E ++ [x]).length (evCs (q.E ++ [x]))
    rw [evCs_app, List.length_append]
    exact hown.kept (grownSets w1 b 7 v') (.inr (own_ne hown hb1 (by decide)))
  · rcases hat with e1 | e1
    · exact .inl (e1 ▸ e)
    · rw [e1] at e
      injection e with e
      exact .inr (by omega)
theorem infoE : (Try.prog.info? 78).map (fun i => (i.zero, i.size, i.bytes)) = some (some (.agg #[.int .u8 0, .int .u8 0, .int .u8 0]), 3, 3) := by kernel_rfl
theorem new_ev (w : World) (x : Ev) : ∀ j u, (evC x)[j]? = some u → (w.alloc (.cells #[.int .u8 x.1, .int .u8 x.2.1, .int .u8 x.2.2] 78)).cell? ((⟨w.heap.size, 0, none⟩ : Addr).add j) = some u := by
  intro j u hu
  have hT := Cl.new w 78 (evC x)
  match j, hu with
  | 0, hu => exact (hT.cell 0).trans hu
  | 1, hu => exact (hT.cell 1).trans hu
  | 2, hu => exact (hT.cell 2).trans hu
set_option maxHeartbeats 2000000 in
theorem note_any (B b fb n : Nat) (v : Value) (q : Ps) (k e f : Int) (w : World) (h : Pl B w b fb n v q) (hl : q.E.length ≤ 1000) (hB : B ≤ w.heap.size) : Calls Try.prog 26 #[.pointer (some ⟨b, 0, none⟩), .int .u8 k, .int .u8 e, .int .u8 f] w fun r w' => r = .returned (.tuple #[]) ∧ PStp B w w' b fb n v { q with E := q.E ++ [(k, e, f)] } := by
  obtain ⟨i0, hi, hz0, hz1, hz2⟩ := info_parts infoE
  have c7 := h.cells.2
  have hb := h.c.lt
  have HP := Hid3.mk h
  have hown := h.e
  obtain ⟨a0, cap0, hv⟩ : ∃ a cap, v = .slice a q.E.length cap := by
    rcases hown.2 with ⟨hv0, hk0⟩ | ⟨g, cap, cur, hv0, _⟩
    · exact ⟨none, 0, by rw [hk0]; exact hv0⟩
    · exact ⟨_, _, hv0⟩
  have hn := h.ne
  have hnw := new_ev w (k, e, f)
  simp only at hnw
  have HF : Hid3 (∀ v' w1, w1.ownsRow B 78 3 v' (q.E.length + 1) (evCs q.E ++ evC (k, e, f)) → (w.alloc (.cells #[.int .u8 k, .int .u8 e, .int .u8 f] 78)).grownBy w1 v.ownBlock → (v'.ownBlock = v.ownBlock ∨ v'.ownBlock = some (w.alloc (.cells #[.int .u8 k, .int .u8 e, .int .u8 f] 78)).heap.size) → PStp B w (w1.setCell ⟨b, 7, none⟩ v') b fb n v { q with E := q.E ++ [(k, e, f)] } ∧ w1.cell? ⟨b, 7, none⟩ = some v ∧ w1.frozen? ⟨b, 7, none⟩ = false ∧ b < w1.heap.size) := ⟨fun v' w1 h1 h2 h3 => by
    have hc1 : Cl w1 b 41 (poolCs fb n q.M v) := (h2.block b (by simp; omega) (fun e => hn.2.1 e.symm)).trans (HP.out.c.alloc _)
    exact ⟨Pl.noted _ HP.out h1 h2 h3, hc1.cell 7, hc1.thaw 7, hc1.lt⟩⟩
  clear h hn
  subst hv
  generalize q.E.length = N at *
  generalize evCs q.E = XS at *
  go_enter Try.func26, Try.ntmps26
  go_wp2_with (at_builtin; refine wpList_append_own_at _ rfl _ _ 39 rfl B 78 i0 (.agg #[.int .u8 0, .int .u8 0, .int .u8 0]) 3 3 Try.underlying39 hi hz0 hz1 hz2 rfl (by decide) _ _ _ rfl (hown.alloc _) ⟨w.heap.size, 0, none⟩ 1 1 (evC (k, e, f)) rfl rfl hnw (by simp [evC, Value.oneCell']) (by unfold maxLen; omega) (by omega) (by simp; omega) ?_; intro v' w1 hown' hgrow _ hat; obtain ⟨hS, x7, xf, xb⟩ := HF.out v' w1 hown' hgrow hat; have HS := Hid3.mk hS; obtain ⟨g', cap', rfl⟩ := ownsRow_succ hown'; clear hown' hgrow hat hS)
  go_end0
  exact ⟨rfl, HS.out⟩
end Go.Proofs.Ytedknoadcdnioaa
