/- A thing is laid in behind a link; the next one is taken out. A list that is changed at one link. -/
import Derived.Test.YtdegjmceeggldaaExA
namespace Go.Proofs.Ytdegjmceeggldaa
open Go.RowKit Go.Shelf Go.Maps
set_option linter.unusedVariables false
set_option maxRecDepth 100000
/-- What a link leads to. -/
def ptO : Option Nat → Value
  | none => .pointer none
  | some d => .pointer (some ⟨d, 0, none⟩)
/-- A link that leads to another one. -/
theorem lk_next (x : Ex) (r r' : List Ln) : (lkCs x r).set 6 (nxP r') = lkCs x r' := rfl
theorem nxP_pt (r : List Ln) : nxP r = ptO (r.head?.map Prod.fst) := by cases r <;> rfl
theorem cut_any (b d : Nat) (y x : Ex) (r : List Ln) (w : World) (h : Lks w ((b, y) :: (d, x) :: r)) :
    Calls Try.prog 19 #[.pointer (some ⟨b, 0, none⟩)] w fun e w' => (∃ v, e = .returned v) ∧ w' = w.setCell ⟨b, 6, none⟩ (nxP r) := by
  have c6 := h.c.c6
  have d6 := h.2.c.c6
  have f6 := h.1.thaw 6
  rw [show nxP ((d, x) :: r) = .pointer (some ⟨d, 0, none⟩) from rfl] at c6
  rw [nxP_pt] at d6 ⊢
  clear h
  generalize r.head?.map Prod.fst = o at *
  cases o with
  | none =>
    simp only [ptO] at d6 ⊢
    go_enter Try.func19, Try.ntmps19
    go_wp2
    go_end0
    exact ⟨⟨_, rfl⟩, rfl⟩
  | some k =>
    simp only [ptO] at d6 ⊢
    go_enter Try.func19, Try.ntmps19
    go_wp2
    go_end0
    exact ⟨⟨_, rfl⟩, rfl⟩
/-- What is made of a list by a thing laid in behind a link. -/
structure PutC (w w' : World) (b : Nat) (y x : Ex) (r : List Ln) : Prop where
  ap : Apart (fun k => k = b) w w'
  sz : w'.heap.size = w.heap.size + 2
  n : Cl w' (w.heap.size + 1) 41 (lkCs x r)
  o : Cl w' b 41 (lkCs y ((w.heap.size + 1, x) :: r))
theorem PutC.of {w : World} {b : Nat} {y x : Ex} {r : List Ln} (h : Cl w b 41 (lkCs y r)) (o : Obj) :
    PutC w ((((w.setCell ⟨b, 6, none⟩ (.pointer (some ⟨w.heap.size + 1, 0, none⟩))).alloc o).alloc (.cells (lkCs x r).toArray 41)).drew) b y x r := by
  have hs := h.set 6 (.pointer (some ⟨w.heap.size + 1, 0, none⟩))
  have hz := size_setCell w ⟨b, 6, none⟩ (.pointer (some ⟨w.heap.size + 1, 0, none⟩))
  have a1 := Apart.at (X := fun k => k = b) w b 6 (.pointer (some ⟨w.heap.size + 1, 0, none⟩)) rfl
  generalize w.setCell ⟨b, 6, none⟩ (.pointer (some ⟨w.heap.size + 1, 0, none⟩)) = W at *
  have hn := Cl.new (W.alloc o) 41 (lkCs x r)
  simp only [World.size_alloc, hz] at hn
  refine ⟨(a1.trans (Apart.of_below (((Below.refl _ W).alloc (Nat.le_refl _) _).alloc (by simp) _))).drew, ?_, hn.drew, ?_⟩
  · show ((W.alloc o).alloc _).heap.size = _
    simp [hz]
  · exact ((hs.alloc _).alloc _).drew
set_option maxHeartbeats 1000000 in
theorem put_any (b : Nat) (y x : Ex) (r : List Ln) (w : World) (h : Lks w ((b, y) :: r)) :
    Calls Try.prog 23 #[.pointer (some ⟨b, 0, none⟩), exV x] w fun e w' => (∃ v, e = .returned v) ∧ PutC w w' b y x r := by
  have c6 := h.c.c6
  have f6 := h.1.thaw 6
  have hl := h.1.lt
  have hP := PutC.of (x := x) h.1 (.cells #[.int .u32 x.id, .int .i64 x.st, .int .i64 x.ln, .int .u8 x.ow, .string x.nm, .int .u8 x.rt.toNat] 37)
  have hT : (lkCs x r).toArray = #[.int .u32 x.id, .int .i64 x.st, .int .i64 x.ln, .int .u8 x.ow, .string x.nm, .int .u8 x.rt.toNat, nxP r] := rfl
  have HP : Hid (PutC w _ b y x r) := hP
  rw [hT, nxP_pt] at HP
  rw [nxP_pt] at c6
  clear hP hT h
  unfold exV
  generalize r.head?.map Prod.fst = o at *
  cases o with
  | none =>
    simp only [ptO] at c6 HP
    go_enter Try.func23, Try.ntmps23
    go_wp2
    go_region
    go_end0
    exact ⟨⟨_, rfl⟩, HP.out⟩
  | some k =>
    simp only [ptO] at c6 HP
    go_enter Try.func23, Try.ntmps23
    go_wp2
    go_region
    go_end0
    exact ⟨⟨_, rfl⟩, HP.out⟩
end Go.Proofs.Ytdegjmceeggldaa
namespace Go.Proofs.Ytdegjmceeggldaa
open Go.RowKit Go.Shelf Go.Maps
set_option linter.unusedVariables false
set_option maxRecDepth 100000
theorem nxP_same (b : Nat) (y y' : Ex) (r r' : List Ln) : ∀ pre : List Ln, nxP (pre ++ (b, y) :: r) = nxP (pre ++ (b, y') :: r')
  | [] => rfl
  | _ :: _ => rfl
theorem lkCs_same (x : Ex) (r r' : List Ln) (h : nxP r = nxP r') : lkCs x r = lkCs x r' := by unfold lkCs; rw [h]
/-- One link is another one, and what lies behind it. -/
theorem Lks.change {w w' : World} {b : Nat} {y y' : Ex} {r r' : List Ln} (hb : Cl w' b 41 (lkCs y' r')) (hr : Lks w' r') :
    ∀ {pre : List Ln}, Lks w (pre ++ (b, y) :: r) → (∀ k ∈ pre.map Prod.fst, w'.heap[k]? = w.heap[k]?) → Lks w' (pre ++ (b, y') :: r')
  | [], _, _ => ⟨hb, hr⟩
  | q :: pre, h, hk => ⟨by
      have h1 : Cl w' q.1 _ (lkCs q.2 (pre ++ (b, y) :: r)) := (hk q.1 (by simp)).trans h.1
      rw [lkCs_same q.2 _ _ (nxP_same b y y' r r' pre)] at h1
      exact h1, Lks.change hb hr h.2 (fun k hm => hk k (List.mem_cons_of_mem _ hm))⟩
theorem Lks.stay {w w' : World} : ∀ {r : List Ln}, Lks w r → (∀ k ∈ r.map Prod.fst, w'.heap[k]? = w.heap[k]?) → Lks w' r
  | [], _, _ => trivial
  | q :: r, h, hk => ⟨(hk q.1 (by simp)).trans h.1, Lks.stay h.2 (fun k hm => hk k (List.mem_cons_of_mem _ hm))⟩
/-- A thing has been laid in behind a link. -/
theorem PutC.lks {w w' : World} {b : Nat} {y x : Ex} {pre r : List Ln} (p : PutC w w' b y x r) (h : Lks w (pre ++ (b, y) :: r)) (hu : ((pre ++ (b, y) :: r).map Prod.fst).Nodup) :
    Lks w' (pre ++ (b, y) :: (w.heap.size + 1, x) :: r) := by
  rw [List.map_append, List.map_cons, List.nodup_append] at hu
  have hlt := h.lt
  have hr : Lks w' r := Lks.stay (h.drop).2 (fun k hm => p.ap.block k (by
    obtain ⟨q, hq, rfl⟩ := List.mem_map.1 hm
    exact hlt q (List.mem_append_right _ (List.mem_cons_of_mem _ hq))) (fun e => (List.nodup_cons.1 hu.2.1).1 (by rw [← e]; exact hm)))
  exact Lks.change p.o ⟨p.n, hr⟩ h (fun k hm => p.ap.block k (by
    obtain ⟨q, hq, rfl⟩ := List.mem_map.1 hm
    exact hlt q (List.mem_append_left _ hq)) (fun e => hu.2.2 k hm b (List.mem_cons_self ..) e))
/-- The next one has been taken out. -/
theorem cut_lks {w : World} {b d : Nat} {y x : Ex} {pre r : List Ln} (h : Lks w (pre ++ (b, y) :: (d, x) :: r)) (hu : ((pre ++ (b, y) :: (d, x) :: r).map Prod.fst).Nodup) :
    Lks (w.setCell ⟨b, 6, none⟩ (nxP r)) (pre ++ (b, y) :: r) := by
  rw [List.map_append, List.map_cons, List.nodup_append] at hu
  have hb := (h.drop).1.set 6 (nxP r)
  rw [lk_next] at hb
  have hr : Lks (w.setCell ⟨b, 6, none⟩ (nxP r)) r := Lks.stay (h.drop).2.2 (fun k hm => Below.heap_setCell _ _ _ k (fun e => (List.nodup_cons.1 hu.2.1).1 (by rw [show b = k from e.symm]; exact List.mem_cons_of_mem _ hm)))
  exact Lks.change hb hr h (fun k hm => Below.heap_setCell _ _ _ k (fun e => hu.2.2 k hm b (List.mem_cons_self ..) e))
/-- One of a link's numbers is another one: where it begins, how long it is, whose it is. -/
theorem set_lks {w : World} {b : Nat} {y y' : Ex} {pre r : List Ln} (j : Nat) (v : Value) (he : (lkCs y r).set j v = lkCs y' r) (h : Lks w (pre ++ (b, y) :: r)) (hu : ((pre ++ (b, y) :: r).map Prod.fst).Nodup) :
    Lks (w.setCell ⟨b, j, none⟩ v) (pre ++ (b, y') :: r) := by
  rw [List.map_append, List.map_cons, List.nodup_append] at hu
  have hb := (h.drop).1.set j v
  rw [he] at hb
  have hr : Lks (w.setCell ⟨b, j, none⟩ v) r := Lks.stay (h.drop).2 (fun k hm => Below.heap_setCell _ _ _ k (fun e => (List.nodup_cons.1 hu.2.1).1 (by rw [show b = k from e.symm]; exact hm)))
  exact Lks.change hb hr h (fun k hm => Below.heap_setCell _ _ _ k (fun e => hu.2.2 k hm b (List.mem_cons_self ..) e))
end Go.Proofs.Ytdegjmceeggldaa
