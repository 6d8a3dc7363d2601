/- The program's at, Find, out, Drop, Asid, Frame. -/
import Derived.Test.YtdmahmolhdbegaaPgTlbD
namespace Go.Proofs.Ytdmahmolhdbegaa.Tb
open Go.RowKit Go.Maps
set_option linter.unusedVariables false
set_option maxRecDepth 100000

theorem own_row {w : World} {B : Nat} {v : Value} {L : List Mp} (h : w.ownsRow B 39 4 v L.length (mpsCs L)) (hne : L ≠ []) : ∃ g cap, v = .slice (some ⟨g, 0, none⟩) L.length cap ∧ B ≤ g ∧ RowC w g cap L := by
  rcases h.2 with ⟨_, h0⟩ | ⟨g, cap, cur, rfl, hb, h1, h2, h3, h4, h5⟩
  · exact absurd (List.eq_nil_of_length_eq_zero h0) hne
  · exact ⟨g, cap, rfl, hb, cur, h1, h4, h2, h3, h5⟩
theorem row_own {w : World} {B g cap : Nat} {D : List Mp} (h : RowC w g cap D) (hb : B ≤ g) : w.ownsRow B 39 4 (.slice (some ⟨g, 0, none⟩) D.length cap) D.length (mpsCs D) := by
  obtain ⟨cur, h1, h2, h3, h4, h5⟩ := h
  exact ⟨mpsCs_len D, .inr ⟨g, cap, cur, rfl, hb, h1, h3, h4, h2, h5⟩⟩

set_option maxHeartbeats 2000000 in
theorem delf_any (g0 : Nat) (lb : Array Value) (p : Mp → Bool) (cb : Nat) (o : Obj) (hp : PredC g0 lb p cb o) (eg : ∀ args w, (callFunc g0 args).run Try.prog w = .ok (.enter g0 args) w) (B : Nat) (v : Value) (L : List Mp) (w : World) (hR : w.ownsRow B 39 4 v L.length (mpsCs L)) (hL : L.length ≤ 1000) (hc : w.heap[cb]? = some o) (hne : v.ownBlock ≠ some cb) :
    Calls Try.prog 51 #[v, .func (.func g0) #[] lb] w fun e w' => ∃ v', e = .returned v' ∧ w'.ownsRow B 39 4 v' (L.filter (fun x => !p x)).length (mpsCs (L.filter (fun x => !p x))) ∧ Apart (fun k => some k = v.ownBlock) w w' ∧ v'.ownBlock = v.ownBlock := by
  cases hk : L.findIdx? p with
  | some k0 =>
    have hn : L ≠ [] := fun e => by subst e; cases hk
    obtain ⟨g, cap, rfl, hb, hr⟩ := own_row hR hn
    refine (delf_some g0 lb p cb o hp eg g cap L w k0 hr hL hc (fun e => hne (by rw [e]; rfl)) hk).mono ?_
    rintro e w' ⟨rfl, h1, h2⟩
    exact ⟨_, rfl, row_own h1 hb, h2.wide (fun i _ e => by rw [e]; rfl), rfl⟩
  | none =>
    have hf : L.filter (fun x => !p x) = L := filter_none p L (fun j hj => idx_none hk j hj)
    have hIF := idxf_any g0 lb p cb o hp eg v L w (Mps.of_own hR) hL hc
    have e2 : idxI p L = -1 := by unfold idxI; rw [hk]
    rw [e2] at hIF
    rw [hf]
    have HR : Hid (w.ownsRow B 39 4 v L.length (mpsCs L)) := hR
    clear hR hc hp hk hf e2 hne
    go_enter Try.func51, Try.ntmps51
    go_wp2_with (go_at_call 74; refine hIF.mono ?_; rintro e W1 ⟨rfl, hB1⟩)
    go_ret
    exact ⟨v, rfl, Apart.own HR.out (Apart.of_below (X := fun _ => False) hB1) (fun _ _ => id), Apart.of_below hB1, rfl⟩

/-- What a step does to an object: it holds other mappings, in its own row or a new one. -/
structure Stp (B : Nat) (t : TypeId) (w w' : World) (b : Nat) (v v' : Value) (L' : List Mp) : Prop where
  ob : Ob B t w' b v' L'
  ap : Apart (fun k => k = b ∨ some k = v.ownBlock) w w'
  own : v'.ownBlock = v.ownBlock ∨ ∃ g, w.heap.size ≤ g ∧ v'.ownBlock = some g
theorem Stp.pre {B : Nat} {t : TypeId} {w W w' : World} {b : Nat} {v v' : Value} {L' : List Mp} (h : Stp B t W w' b v v' L') (k : Below w.heap.size w W) : Stp B t w w' b v v' L' :=
  ⟨h.ob, (Apart.of_below k).trans h.ap, h.own.imp id (fun ⟨g, hg, e⟩ => ⟨g, Nat.le_trans k.size hg, e⟩)⟩
theorem Stp.post {B : Nat} {t : TypeId} {w W w' : World} {b : Nat} {v v' : Value} {L' : List Mp} (h : Stp B t w W b v v' L') (k : Below W.heap.size W w') : Stp B t w w' b v v' L' :=
  ⟨h.ob.below k, h.ap.trans (Apart.of_below k), h.own⟩
theorem heap_set_one {w : World} {b : Nat} {v v' : Value} {t : TypeId} (h : w.heap[b]? = some (.cells #[v] t)) : (w.setCell ⟨b, 0, none⟩ v').heap[b]? = some (.cells #[v'] t) := by
  simp [World.setCell, Array.getElem?_modify, h]
theorem Stp.of_set {B : Nat} {t : TypeId} {w W : World} {b : Nat} {v v' : Value} {L L' : List Mp} (h : Ob B t w b v L) (ht : t ≠ 39) (hA : Apart (fun k => some k = v.ownBlock) w W) (hr : W.ownsRow B 39 4 v' L'.length (mpsCs L')) (hown : v'.ownBlock = v.ownBlock ∨ ∃ g, w.heap.size ≤ g ∧ v'.ownBlock = some g) : Stp B t w (W.setCell ⟨b, 0, none⟩ v') b v v' L' := by
  have hblk : W.heap[b]? = some (.cells #[v] t) := (hA.block b h.lt (fun e => h.ne ht b e.symm rfl)).trans h.blk
  have hl := h.lt
  refine ⟨⟨h.ge, heap_set_one hblk, Apart.own hr (Apart.set W ⟨b, 0, none⟩ v') (fun g hg e => ?_)⟩, hA.wide (fun i _ e => .inr e) |>.then (Apart.set W ⟨b, 0, none⟩ v') (fun i _ e => .inl e), hown⟩
  have e' : g = b := e
  rcases hown with k | ⟨g', hg', k⟩
  · exact h.ne ht g (k ▸ hg) e'
  · rw [k] at hg
    injection hg with hg
    omega
theorem tT : (80 : TypeId) ≠ 39 := by decide
theorem tR : (108 : TypeId) ≠ 39 := by decide

set_option maxHeartbeats 2000000 in
theorem out_any (g0 : Nat) (lb : Array Value) (p : Mp → Bool) (cb : Nat) (o : Obj) (hp : PredC g0 lb p cb o) (eg : ∀ args w, (callFunc g0 args).run Try.prog w = .ok (.enter g0 args) w) (B tb : Nat) (v : Value) (L : List Mp) (w : World) (h : Ob B 80 w tb v L) (hL : L.length ≤ 1000) (hc : w.heap[cb]? = some o) (hne : v.ownBlock ≠ some cb) :
    Calls Try.prog 27 #[.pointer (some ⟨tb, 0, none⟩), .func (.func g0) #[] lb] w fun e w' => e = .returned (.int .i64 ((L.length : Int) - ((L.filter (fun x => !p x)).length : Int))) ∧ ∃ v', Stp B 80 w w' tb v v' (L.filter (fun x => !p x)) ∧ v'.ownBlock = v.ownBlock := by
  have hcon := delf_any g0 lb p cb o hp eg B v L w h.row hL hc hne
  obtain ⟨a, cap, rfl⟩ := h.form
  have hcell := h.cell
  have hlf : (L.filter (fun x => !p x)).length ≤ L.length := List.length_filter_le _ _
  have HO : Hid (Ob B 80 w tb (.slice a L.length cap) L) := h
  have hlt := h.lt
  clear h hp hc
  generalize L.filter (fun x => !p x) = M at *
  go_enter Try.func27, Try.ntmps27
  go_wp2_with fail
  refine hcon.mono ?_
  rintro e W1 ⟨v', rfl, hr, hA, hown⟩
  have hS := Stp.of_set HO.out tT hA hr (.inl hown)
  obtain ⟨a', cap', rfl⟩ := hS.ob.form
  have hb1 := hA.block tb hlt (fun e => HO.out.ne tT tb e.symm rfl)
  have k1 : W1.cell? ⟨tb, 0, none⟩ = some (.slice a L.length cap) := (World.cell?_of_block (w := w) hb1).trans hcell
  have k2 : W1.frozen? ⟨tb, 0, none⟩ = false := (World.frozen?_of_block (w := w) hb1).trans HO.out.thaw
  have HS : Hid (Stp B 80 w (W1.setCell ⟨tb, 0, none⟩ (.slice a' M.length cap')) tb (.slice a L.length cap) (.slice a' M.length cap') M) := hS
  have Hown : Hid (Value.ownBlock (.slice a' M.length cap') = Value.ownBlock (.slice a L.length cap)) := hown
  clear hS hr hA hb1 hown
  go_wp2
  go_ret
  exact ⟨rfl, _, HS.out, Hown.out⟩

set_option maxHeartbeats 2000000 in
theorem at_any (B tb : Nat) (v : Value) (L : List Mp) (a p : Int) (w : World) (h : Ob B 80 w tb v L) (hL : L.length ≤ 1000) :
    Calls Try.prog 50 #[.pointer (some ⟨tb, 0, none⟩), .int .u8 a, .int .u8 p] w fun e w' => e = .returned (.int .i64 (idxI (ofB a p) L)) ∧ Below w.heap.size w w' := by
  have hcell := h.cell
  have hlt := h.lt
  have cO := fun W => of_any a p W
  have cI := fun (W : World) (hm : Mps W v L) => idxf_any 84 #[.pointer (some ⟨W.heap.size, 0, none⟩)] (ofB a p) W.heap.size _ (of_pred a p W.heap.size) (enters_of Try.func84 (by kernel_rfl) rfl) v L (W.alloc (.cells #[.int .u8 a, .int .u8 p, .int .u8 0, .bool false] 39)) (hm.below ((Below.refl _ W).alloc (Nat.le_refl _) _)) hL (heap_alloc_new W _)
  have HM : Hid (Mps w.drew v L) := (Mps.of_own h.row).below (Below.refl _ w).drew
  clear h
  go_enter Try.func50, Try.ntmps50
  go_wp2_with fail
  have hS : Hid (∀ W', Below w.heap.size w W' → W'.cell? ⟨tb, 0, none⟩ = some v) := fun W' hB => (hB.cell (p := ⟨tb, 0, none⟩) hlt).trans hcell
  go_region_held3 (fun w' => w'.cell? ⟨tb, 0, none⟩ = some v) (first | exact hS.out _ (Below.refl _ _).drew | exact hS.out _ ((Below.refl _ _).alloc (Nat.le_refl _) _).drew | exact hS.out _ ((Below.refl _ _).drew.alloc (Nat.le_refl _) _) | exact hS.out _ (((Below.refl _ _).drew.alloc (Nat.le_refl _) _).trans (hb'.mono (by simp)))) ((first | (go_at_call 75; refine (cO _).mono ?_; rintro e w' ⟨rfl, rfl⟩) | (go_at_call 74; refine (cI _ HM.out).mono ?_; rintro e w' ⟨rfl, hb'⟩)))
  go_wp2
  go_ret
  exact ⟨rfl, ((Below.refl _ w).drew.alloc (Nat.le_refl _) _).trans (hb'.mono (by simp))⟩
end Go.Proofs.Ytdmahmolhdbegaa.Tb
