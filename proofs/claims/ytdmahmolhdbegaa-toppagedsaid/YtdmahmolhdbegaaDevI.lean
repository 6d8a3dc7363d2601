/- A disk: what is asked, delivered, set, whatever it is; both states as plain data. -/
import Derived.Test.YtdmahmolhdbegaaDevH
namespace Go.Proofs.Ytdmahmolhdbegaa
open Go.RowKit Go.Maps
set_option linter.unusedVariables false
set_option maxRecDepth 100000
/-- What waits can be: sectors and frames are there, numbers rise. -/
structure Wq (n : Nat) (last : Int) (Q : List Rq) : Prop where
  s : ∀ r ∈ Q, 0 ≤ r.2.2.1 ∧ r.2.2.1 < n
  f : ∀ r ∈ Q, 0 ≤ r.2.2.2.1 ∧ r.2.2.2.1 < 64
  i : ∀ r ∈ Q, 1 ≤ r.1 ∧ r.1 ≤ last
  p : Q.Pairwise fun a b => a.1 < b.1
theorem Wq.nil (n : Nat) (last : Int) : Wq n last [] := ⟨fun _ h => (by cases h), fun _ h => (by cases h), fun _ h => (by cases h), List.Pairwise.nil⟩
theorem Wq.sub {n : Nat} {last : Int} {Q Q' : List Rq} (h : Wq n last Q) (hs : Q'.Sublist Q) : Wq n last Q' :=
  ⟨fun r hr => h.s r (hs.subset hr), fun r hr => h.f r (hs.subset hr), fun r hr => h.i r (hs.subset hr), h.p.sublist hs⟩
theorem Wq.snoc {n : Nat} {last : Int} {Q : List Rq} (h : Wq n last Q) (r : Rq) (h0 : 0 ≤ last) (hr : r.1 = last + 1) (hs : 0 ≤ r.2.2.1 ∧ r.2.2.1 < n) (hf : 0 ≤ r.2.2.2.1 ∧ r.2.2.2.1 < 64) : Wq n (last + 1) (Q ++ [r]) := by
  refine ⟨fun x hx => ?_, fun x hx => ?_, fun x hx => ?_, ?_⟩
  · rcases List.mem_append.1 hx with hx | hx
    · exact h.s x hx
    · rw [List.mem_singleton.1 hx]; exact hs
  · rcases List.mem_append.1 hx with hx | hx
    · exact h.f x hx
    · rw [List.mem_singleton.1 hx]; exact hf
  · rcases List.mem_append.1 hx with hx | hx
    · have := h.i x hx; omega
    · rw [List.mem_singleton.1 hx]; omega
  · refine List.pairwise_append.2 ⟨h.p, List.pairwise_singleton _ _, fun a ha b hb => ?_⟩
    rw [List.mem_singleton.1 hb, hr]
    have := h.i a ha
    omega
theorem cut_sub (Q : List Rq) (i : Nat) : (Q.take i ++ Q.drop (i + 1)).Sublist Q := by
  have h1 : (Q.take i ++ Q.drop i) = Q := List.take_append_drop i Q
  have h2 : (Q.drop (i + 1)).Sublist (Q.drop i) := by
    rw [← List.drop_drop]
    exact List.drop_sublist 1 _
  conv => rhs; rw [← h1]
  exact (List.Sublist.refl _).append h2
theorem cut_len (Q : List Rq) (i : Nat) : (Q.take i ++ Q.drop (i + 1)).length ≤ Q.length := (cut_sub Q i).length_le
/-- All that a disk and a memory are. -/
structure Sd where
  S : List Int
  L : List Int
  last : Int
  Q : List Rq
def askE (n ql : Nat) (s f : Int) : Int := if 0 ≤ s ∧ s < n ∧ 0 ≤ f ∧ f < 64 then (if ql < 8 then 0 else 4) else 2
def askN (n : Nat) (z : Sd) (s f : Int) : Int := if askE n z.Q.length s f = 0 then z.last + 1 else 0
def askS (n : Nat) (z : Sd) (r : Bool × Int × Int × Int) : Sd := if askE n z.Q.length r.2.1 r.2.2.1 = 0 then { z with last := z.last + 1, Q := z.Q ++ [(z.last + 1, r)] } else z
def qAt (Q : List Rq) (i : Int) : Option Rq := if 0 ≤ i then Q[i.toNat]? else none
def dlS (N : Nat) (z : Sd) (i : Int) : Sd :=
  match qAt z.Q i with
  | none => z
  | some r => ⟨mvS z.S z.L r.2.1 r.2.2.1.toNat r.2.2.2.1 N, mvL z.S z.L r.2.1 r.2.2.1.toNat r.2.2.2.1 N, z.last, z.Q.take i.toNat ++ z.Q.drop (i.toNat + 1)⟩
def dlR (z : Sd) (i : Int) : Rq := (qAt z.Q i).getD zR
def dlE (N : Nat) (z : Sd) (i : Int) : Int :=
  match qAt z.Q i with
  | none => 2
  | some r => if r.2.2.2.1 < N then 0 else 10
/-- Who is out, who stays. -/
def outI (p : Rq → Bool) (Q : List Rq) : List Int := (Q.filter p).map (·.1)
def outQ (p : Rq → Bool) (Q : List Rq) : List Rq := Q.filter (fun r => !p r)
def stE (n : Nat) (i : Int) (l : Nat) : Int := if 0 ≤ i ∧ i < n then (if l = 32 then 0 else 3) else 2
def stS (n : Nat) (z : Sd) (i : Int) (vs : List Int) : Sd := if stE n i vs.length = 0 then { z with S := putL z.S (i.toNat * 32) vs } else z
/-- The program's disk and memory. -/
structure PSt (B : Nat) (w : World) (db sb n mb N : Nat) (v : Value) (z : Sd) : Prop where
  d : Dk B w db sb n z.S v z.last z.Q
  m : Mem w mb N z.L
  mB : B ≤ mb
  n1 : mb ≠ db
  n2 : mb ≠ sb
  n3 : some mb ≠ v.ownBlock
def PX (db sb mb : Nat) (v : Value) (k : Nat) : Prop := k = db ∨ k = sb ∨ k = mb ∨ some k = v.ownBlock
/-- What a call on them comes to. -/
def PStp (B : Nat) (w w' : World) (db sb n mb N : Nat) (v : Value) (z : Sd) : Prop :=
  ∃ v', PSt B w' db sb n mb N v' z ∧ Apart (PX db sb mb v) w w' ∧ ∀ g, v'.ownBlock = some g → v.ownBlock = some g ∨ w.heap.size ≤ g
theorem PSt.below {B : Nat} {w w' : World} {db sb n mb N : Nat} {v : Value} {z : Sd} (h : PSt B w db sb n mb N v z) (k : Below w.heap.size w w') : PSt B w' db sb n mb N v z := ⟨h.d.below k, h.m.below k, h.mB, h.n1, h.n2, h.n3⟩
theorem PSt.still {B : Nat} {w w' : World} {db sb n mb N : Nat} {v : Value} {z : Sd} (h : PSt B w db sb n mb N v z) (k : Below w.heap.size w w') : PStp B w w' db sb n mb N v z := ⟨v, h.below k, Apart.of_below k, fun g hg => .inl hg⟩
theorem Dk.mem_ne {B : Nat} {w : World} {db sb n mb : Nat} {N : Int} {S L : List Int} {v : Value} {last : Int} {Q : List Rq} (h : Dk B w db sb n S v last Q) (hM : Mem w mb N L) : mb ≠ db ∧ mb ≠ sb ∧ some mb ≠ v.ownBlock := by
  have eM := hM.blk
  refine ⟨fun e => ?_, fun e => ?_, fun e => ?_⟩
  · obtain ⟨C, _, e2⟩ := h.blk
    rw [e, e2] at eM
    injection eM with eM
    injection eM with _ eM
    exact absurd eM (by decide)
  · obtain ⟨r, e2⟩ := h.row
    rw [e, e2] at eM
    injection eM with eM
    injection eM with _ eM
    exact absurd eM (by decide)
  · obtain ⟨cur, e2⟩ := own_kind h.own mb e.symm
    rw [e2] at eM
    injection eM with eM
    injection eM with _ eM
    exact absurd eM (by decide)
theorem PSt.mk' {B : Nat} {w : World} {db sb n mb N : Nat} {v : Value} {z : Sd} (h : Dk B w db sb n z.S v z.last z.Q) (hM : Mem w mb N z.L) (hB : B ≤ mb) : PSt B w db sb n mb N v z :=
  ⟨h, hM, hB, (h.mem_ne hM).1, (h.mem_ne hM).2.1, (h.mem_ne hM).2.2⟩
/-- But for its own blocks all that is older stays. -/
theorem PStp.bel {B : Nat} {w w' : World} {db sb n mb N : Nat} {v : Value} {z z' : Sd} (h0 : PSt B w db sb n mb N v z') (h : PStp B w w' db sb n mb N v z) (hB : B ≤ w.heap.size) : Below B w w' := by
  obtain ⟨_, _, a, _⟩ := h
  refine a.below B (fun k hk => ?_) hB
  rcases hk with rfl | rfl | rfl | hk
  · exact h0.d.ge
  · exact h0.d.gs
  · exact h0.mB
  · exact (h0.d.own.lt k hk.symm).1
set_option maxHeartbeats 2000000 in
theorem ask_bad (B db sb n : Nat) (S : List Int) (v : Value) (last : Int) (Q : List Rq) (r0 : Int) (r1 : Bool) (r2 r3 r4 : Int) (w : World) (h : Dk B w db sb n S v last Q) (hs : r2 < 0 ∨ (n : Int) ≤ r2) : Calls Try.prog 10 #[.pointer (some ⟨db, 0, none⟩), .agg #[.int .u32 r0, .bool r1, .int .i64 r2, .int .i64 r3, .int .u8 r4]] w fun e w' => e = .returned (.tuple #[.int .u32 0, .int .i64 2]) ∧ Below w.heap.size w w' := by
  have hb0 : Below w.heap.size w (w.alloc (.cells #[.int .u32 r0, .bool r1, .int .i64 r2, .int .i64 r3, .int .u8 r4] 37)) := (Below.refl _ w).alloc (Nat.le_refl _) _
  have c1 := dthere_any B db sb n S v last Q r2 (w.alloc (.cells #[.int .u32 r0, .bool r1, .int .i64 r2, .int .i64 r3, .int .u8 r4] 37)) (h.below hb0)
  rw [show thE n r2 = 2 by unfold thE; rw [if_neg (by omega)]] at c1
  have HB0 := Hid3.mk hb0
  clear h hb0 hs
  go_enter Try.func10, Try.ntmps10
  go_wp2_with fail
  refine c1.mono ?_
  rintro e W1 ⟨rfl, rfl⟩
  clear c1
  go_wp2
  go_ret2
  exact ⟨rfl, HB0.out⟩
set_option maxHeartbeats 2000000 in
theorem ask_frame (B db sb n : Nat) (S : List Int) (v : Value) (last : Int) (Q : List Rq) (r0 : Int) (r1 : Bool) (r2 r3 r4 : Int) (w : World) (h : Dk B w db sb n S v last Q) (hs : 0 ≤ r2 ∧ r2 < n) (hf : r3 < 0 ∨ 64 ≤ r3) : Calls Try.prog 10 #[.pointer (some ⟨db, 0, none⟩), .agg #[.int .u32 r0, .bool r1, .int .i64 r2, .int .i64 r3, .int .u8 r4]] w fun e w' => e = .returned (.tuple #[.int .u32 0, .int .i64 2]) ∧ Below w.heap.size w w' := by
  have hb0 : Below w.heap.size w (w.alloc (.cells #[.int .u32 r0, .bool r1, .int .i64 r2, .int .i64 r3, .int .u8 r4] 37)) := (Below.refl _ w).alloc (Nat.le_refl _) _
  have c1 := dthere_any B db sb n S v last Q r2 (w.alloc (.cells #[.int .u32 r0, .bool r1, .int .i64 r2, .int .i64 r3, .int .u8 r4] 37)) (h.below hb0)
  rw [show thE n r2 = 0 by unfold thE; rw [if_pos (by omega)]] at c1
  have HB0 := Hid3.mk hb0
  clear h hb0 hs
  by_cases h1 : r3 < 0
  · clear hf
    go_enter Try.func10, Try.ntmps10
    go_wp2_with fail
    refine c1.mono ?_
    rintro e W1 ⟨rfl, rfl⟩
    clear c1
    go_wp2
    go_ret2
    exact ⟨rfl, HB0.out⟩
  · have h2 : (64 : Int) ≤ r3 := by omega
    clear hf
    go_enter Try.func10, Try.ntmps10
    go_wp2_with fail
    refine c1.mono ?_
    rintro e W1 ⟨rfl, rfl⟩
    clear c1
    go_wp2
    go_ret2
    exact ⟨rfl, HB0.out⟩
set_option maxHeartbeats 4000000 in
theorem ask_full (B db sb n : Nat) (S : List Int) (v : Value) (last : Int) (Q : List Rq) (r0 : Int) (r1 : Bool) (r2 r3 r4 : Int) (w : World) (h : Dk B w db sb n S v last Q) (hq : Q.length = 8) (hs : 0 ≤ r2 ∧ r2 < n) (hf : 0 ≤ r3 ∧ r3 < 64) : Calls Try.prog 10 #[.pointer (some ⟨db, 0, none⟩), .agg #[.int .u32 r0, .bool r1, .int .i64 r2, .int .i64 r3, .int .u8 r4]] w fun e w' => e = .returned (.tuple #[.int .u32 0, .int .i64 4]) ∧ Below w.heap.size w w' := by
  have hb0 : Below w.heap.size w (w.alloc (.cells #[.int .u32 r0, .bool r1, .int .i64 r2, .int .i64 r3, .int .u8 r4] 37)) := (Below.refl _ w).alloc (Nat.le_refl _) _
  have hb1 : Below w.heap.size w (w.alloc (.cells #[.int .u32 r0, .bool r1, .int .i64 r2, .int .i64 r3, .int .u8 r4] 37)).drew := hb0.drew
  have c1 := dthere_any B db sb n S v last Q r2 (w.alloc (.cells #[.int .u32 r0, .bool r1, .int .i64 r2, .int .i64 r3, .int .u8 r4] 37)) (h.below hb0)
  rw [show thE n r2 = 0 by unfold thE; rw [if_pos (by omega)]] at c1
  have cA := add_full B db sb n S v last Q (r0, r1, r2, r3, r4) (w.alloc (.cells #[.int .u32 r0, .bool r1, .int .i64 r2, .int .i64 r3, .int .u8 r4] 37)).drew (h.below hb1) hq
  unfold rqV at cA
  simp only at cA
  have hbx : (w.alloc (.cells #[.int .u32 r0, .bool r1, .int .i64 r2, .int .i64 r3, .int .u8 r4] 37)).drew.heap[w.heap.size]? = some (.cells #[.int .u32 r0, .bool r1, .int .i64 r2, .int .i64 r3, .int .u8 r4] 37) := heap_alloc_last w _
  have hS0 : Hid3 ((w.alloc (.cells #[.int .u32 r0, .bool r1, .int .i64 r2, .int .i64 r3, .int .u8 r4] 37)).drew.cell? ⟨w.heap.size, 0, none⟩ = some (.int .u32 r0) ∧ (w.alloc (.cells #[.int .u32 r0, .bool r1, .int .i64 r2, .int .i64 r3, .int .u8 r4] 37)).drew.cell? ⟨w.heap.size, 1, none⟩ = some (.bool r1) ∧ (w.alloc (.cells #[.int .u32 r0, .bool r1, .int .i64 r2, .int .i64 r3, .int .u8 r4] 37)).drew.cell? ⟨w.heap.size, 2, none⟩ = some (.int .i64 r2) ∧ (w.alloc (.cells #[.int .u32 r0, .bool r1, .int .i64 r2, .int .i64 r3, .int .u8 r4] 37)).drew.cell? ⟨w.heap.size, 3, none⟩ = some (.int .i64 r3) ∧ (w.alloc (.cells #[.int .u32 r0, .bool r1, .int .i64 r2, .int .i64 r3, .int .u8 r4] 37)).drew.cell? ⟨w.heap.size, 4, none⟩ = some (.int .u8 r4)) := ⟨b5m hbx⟩
  have hS1 : Hid3 (∀ W1, Below (w.alloc (.cells #[.int .u32 r0, .bool r1, .int .i64 r2, .int .i64 r3, .int .u8 r4] 37)).drew.heap.size (w.alloc (.cells #[.int .u32 r0, .bool r1, .int .i64 r2, .int .i64 r3, .int .u8 r4] 37)).drew W1 → W1.cell? ⟨w.heap.size, 0, none⟩ = some (.int .u32 r0) ∧ W1.cell? ⟨w.heap.size, 1, none⟩ = some (.bool r1) ∧ W1.cell? ⟨w.heap.size, 2, none⟩ = some (.int .i64 r2) ∧ W1.cell? ⟨w.heap.size, 3, none⟩ = some (.int .i64 r3) ∧ W1.cell? ⟨w.heap.size, 4, none⟩ = some (.int .u8 r4)) := ⟨fun W1 ha => b5m ((ha.block w.heap.size (Array.getElem?_eq_some_iff.1 hbx).1).trans hbx)⟩
  have HB1 : Hid3 (Below w.heap.size w (w.alloc (.cells #[.int .u32 r0, .bool r1, .int .i64 r2, .int .i64 r3, .int .u8 r4] 37)).drew) := ⟨hb1⟩
  have f1 : ¬ r3 < 0 := by omega
  have f2 : ¬ (64 : Int) ≤ r3 := by omega
  clear h hb0 hb1 hbx
  go_enter Try.func10, Try.ntmps10
  go_wp2_with fail
  refine c1.mono ?_
  rintro e W1 ⟨rfl, rfl⟩
  clear c1
  go_wp2_with fail
  go_region_held3 (fun w' => w'.cell? ⟨w.heap.size, 0, none⟩ = some (.int .u32 r0) ∧ w'.cell? ⟨w.heap.size, 1, none⟩ = some (.bool r1) ∧ w'.cell? ⟨w.heap.size, 2, none⟩ = some (.int .i64 r2) ∧ w'.cell? ⟨w.heap.size, 3, none⟩ = some (.int .i64 r3) ∧ w'.cell? ⟨w.heap.size, 4, none⟩ = some (.int .u8 r4)) (with_reducible (first | exact hS0.out | exact hS1.out _ hA)) ((go_at_call 25; refine (cA).mono ?_; rintro e W2 ⟨rfl, hA⟩))
  have H2 : Hid3 (Below w.heap.size w W2) := ⟨HB1.out.trans (hA.mono HB1.out.size)⟩
  clear hA cA hS0 hS1
  go_wp2
  go_ret2
  exact ⟨rfl, H2.out⟩
theorem askp_any (B db sb n mb N : Nat) (v : Value) (z : Sd) (r0 : Int) (r1 : Bool) (r2 r3 r4 : Int) (w : World) (h : PSt B w db sb n mb N v z) (hla : z.last < 1000000) (hB : B ≤ w.heap.size) : Calls Try.prog 10 #[.pointer (some ⟨db, 0, none⟩), .agg #[.int .u32 r0, .bool r1, .int .i64 r2, .int .i64 r3, .int .u8 r4]] w fun e w' => e = .returned (.tuple #[.int .u32 (askN n z r2 r3), .int .i64 (askE n z.Q.length r2 r3)]) ∧ PStp B w w' db sb n mb N v (askS n z (r1, r2, r3, r4)) := by
  unfold askN askS
  have hfew := h.d.few
  by_cases hc : 0 ≤ r2 ∧ r2 < n ∧ 0 ≤ r3 ∧ r3 < 64
  · by_cases hq : z.Q.length < 8
    · have e : askE n z.Q.length r2 r3 = 0 := by unfold askE; rw [if_pos hc, if_pos hq]
      simp only [e, if_true]
      refine (ask_ok B db sb n z.S v z.last z.Q r0 r1 r2 r3 r4 w h.d hq hla hB ⟨hc.1, hc.2.1⟩ ⟨hc.2.2.1, hc.2.2.2⟩).mono ?_
      rintro e w' ⟨rfl, v', hD, hA, hV⟩
      refine ⟨rfl, v', PSt.mk' hD (h.m.stay hA (fun e => e.elim h.n1 h.n3)) h.mB, hA.wide (fun k _ e => e.elim .inl (fun e => .inr (.inr (.inr e)))), fun g hg => ?_⟩
      rcases hV with e | ⟨g', h1, h2⟩
      · exact .inl (by rw [← e]; exact hg)
      · right
        rw [h2] at hg
        injection hg with hg
        omega
    · have e : askE n z.Q.length r2 r3 = 4 := by unfold askE; rw [if_pos hc, if_neg hq]
      simp only [e, show ((4 : Int) = 0) = False from by simp, if_false]
      refine (ask_full B db sb n z.S v z.last z.Q r0 r1 r2 r3 r4 w h.d (by omega) ⟨hc.1, hc.2.1⟩ ⟨hc.2.2.1, hc.2.2.2⟩).mono ?_
      rintro e w' ⟨rfl, hb⟩
      exact ⟨rfl, h.still hb⟩
  · have e : askE n z.Q.length r2 r3 = 2 := by unfold askE; rw [if_neg hc]
    simp only [e, show ((2 : Int) = 0) = False from by simp, if_false]
    by_cases hs : 0 ≤ r2 ∧ r2 < n
    · refine (ask_frame B db sb n z.S v z.last z.Q r0 r1 r2 r3 r4 w h.d hs (by omega)).mono ?_
      rintro e w' ⟨rfl, hb⟩
      exact ⟨rfl, h.still hb⟩
    · refine (ask_bad B db sb n z.S v z.last z.Q r0 r1 r2 r3 r4 w h.d (by omega)).mono ?_
      rintro e w' ⟨rfl, hb⟩
      exact ⟨rfl, h.still hb⟩
theorem qAt_some {Q : List Rq} {i : Int} {r : Rq} (h : qAt Q i = some r) : ∃ j : Nat, i = (j : Int) ∧ Q[j]? = some r := by
  unfold qAt at h
  split at h
  · exact ⟨i.toNat, by omega, h⟩
  · cases h
theorem qAt_none {Q : List Rq} {i : Int} (h : qAt Q i = none) : i < 0 ∨ (Q.length : Int) ≤ i := by
  unfold qAt at h
  split at h
  · have := List.getElem?_eq_none_iff.1 h
    omega
  · omega
theorem dlvp_any (B db sb n mb N : Nat) (v : Value) (z : Sd) (i : Int) (w : World) (h : PSt B w db sb n mb N v z) (hW : Wq n z.last z.Q) : Calls Try.prog 12 #[.pointer (some ⟨db, 0, none⟩), .int .i64 i, .pointer (some ⟨mb, 0, none⟩)] w fun e w' => e = .returned (.tuple #[rqV (dlR z i), .int .i64 (dlE N z i)]) ∧ PStp B w w' db sb n mb N v (dlS N z i) := by
  unfold dlR dlE dlS
  cases hq : qAt z.Q i with
  | none =>
    refine (deliver_no B db sb n mb z.S v z.last z.Q i w h.d (qAt_none hq)).mono ?_
    rintro e w' ⟨rfl, hb⟩
    exact ⟨rfl, h.still hb⟩
  | some r =>
    obtain ⟨j, rfl, hj⟩ := qAt_some hq
    have hmem := List.mem_of_getElem? hj
    have hs := hW.s r hmem
    have hf := hW.f r hmem
    have hjl := (List.getElem?_eq_some_iff.1 hj).1
    obtain ⟨r0, r1, r2, r3, r4⟩ := r
    obtain ⟨s, rfl⟩ := Int.eq_ofNat_of_zero_le hs.1
    simp only at hs hf
    rw [Int.toNat_natCast]
    simp only [Option.getD_some, Int.toNat_natCast]
    refine (deliver_gen B db sb n mb N j (z.Q.length - j - 1) s r1 r3 (mvE N r3) z.S z.L (mvS z.S z.L r1 s r3 N) (mvL z.S z.L r1 s r3 N) v z.last z.Q r0 r4 w h.d h.m hj (by omega) h.n1 h.n2 h.n3 (fun W v' hD hM hv => ?_) (if r3 < (N : Int) then 0 else 10) ?_).mono ?_
    · exact move_any B db sb n mb N s r1 r3 z.S z.L v' z.last _ r0 r4 W hD hM (by omega) hf.1 h.n1 h.n2 (by rw [hv]; exact h.n3)
    · unfold mvE
      by_cases hN : r3 < (N : Int)
      · rw [if_pos hN, if_pos hN]; exact .inl ⟨rfl, rfl⟩
      · rw [if_neg hN, if_neg hN]; exact .inr ⟨by decide, rfl⟩
    · rintro e w' ⟨rfl, v', hD, hM, hA, hv⟩
      exact ⟨rfl, v', PSt.mk' hD hM h.mB, hA, fun g hg => .inl (by rw [← hv]; exact hg)⟩
set_option maxHeartbeats 1000000 in
theorem dset_out (B db sb n : Nat) (S : List Int) (u v : Value) (last : Int) (Q : List Rq) (i : Int) (w : World) (h : Dk B w db sb n S v last Q) (hi : i < 0 ∨ (n : Int) ≤ i) : Calls Try.prog 9 #[.pointer (some ⟨db, 0, none⟩), .int .i64 i, u] w fun e w' => e = .returned (.int .i64 2) ∧ w' = w := by
  have c1 := dthere_any B db sb n S v last Q i w h
  rw [show thE n i = 2 by unfold thE; rw [if_neg (by omega)]] at c1
  clear h hi
  go_enter Try.func9, Try.ntmps9
  go_wp2_with fail
  refine c1.mono ?_
  rintro e W1 ⟨rfl, rfl⟩
  go_wp2
  go_ret
  exact ⟨rfl, rfl⟩
set_option maxHeartbeats 1000000 in
theorem dset_form (B db sb n : Nat) (S : List Int) (v : Value) (last : Int) (Q : List Rq) (i : Int) (a : Option Addr) (l cap : Nat) (w : World) (h : Dk B w db sb n S v last Q) (hi : 0 ≤ i ∧ i < n) (hl : l ≠ 32) : Calls Try.prog 9 #[.pointer (some ⟨db, 0, none⟩), .int .i64 i, .slice a l cap] w fun e w' => e = .returned (.int .i64 3) ∧ w' = w := by
  have c1 := dthere_any B db sb n S v last Q i w h
  rw [show thE n i = 0 by unfold thE; rw [if_pos (by omega)]] at c1
  have hl2 : ¬ (l : Int) = 32 := by omega
  have hl3 : ((l : Int) != 32) = true := by simpa using hl2
  clear h hi
  go_enter Try.func9, Try.ntmps9
  go_wp2_with fail
  refine c1.mono ?_
  rintro e W1 ⟨rfl, rfl⟩
  go_wp2
  go_ret
  exact ⟨rfl, rfl⟩
theorem dsetp_any (B B0 db sb n mb N : Nat) (v : Value) (z : Sd) (i : Int) (u : Value) (bs : List Int) (w : World) (h : PSt B w db sb n mb N v z) (hu : Byts B0 w u bs) (hB0 : B0 ≤ B) : Calls Try.prog 9 #[.pointer (some ⟨db, 0, none⟩), .int .i64 i, u] w fun e w' => e = .returned (.int .i64 (stE n i bs.length)) ∧ PStp B w w' db sb n mb N v (stS n z i bs) := by
  unfold stS
  obtain ⟨a, cap, rfl, hcap, hby, hcell⟩ := hu
  by_cases hi : 0 ≤ i ∧ i < n
  · by_cases hl : bs.length = 32
    · have e : stE n i bs.length = 0 := by unfold stE; rw [if_pos hi, if_pos hl]
      simp only [e, if_true]
      obtain ⟨j, rfl⟩ := Int.eq_ofNat_of_zero_le hi.1
      obtain ⟨g, p, rfl, hg, _⟩ := hcell 0 bs[0] (List.getElem?_eq_getElem (by omega))
      have hs := h.d.gs
      rw [hl, Int.toNat_natCast]
      refine (dset_ok B db sb n j z.S bs v z.last z.Q g p cap w h.d (by omega) hl ⟨by omega, by have := h.d.lts; omega, fun k x hk => ?_⟩).mono ?_
      · obtain ⟨g', p', e, _, c⟩ := hcell k x hk
        injection e with e
        injection e with e1 e2
        subst e1
        subst e2
        exact c
      · rintro e w' ⟨rfl, hD, hO⟩
        exact ⟨rfl, v, PSt.mk' hD (h.m.stay (Apart.of_only hO) h.n2) h.mB, (Apart.of_only hO).wide (fun k _ e => .inr (.inl e)), fun g hg => .inl hg⟩
    · have e : stE n i bs.length = 3 := by unfold stE; rw [if_pos hi, if_neg hl]
      simp only [e, show ((3 : Int) = 0) = False from by simp, if_false]
      refine (dset_form B db sb n z.S v z.last z.Q i a bs.length cap w h.d hi hl).mono ?_
      rintro e w' ⟨rfl, rfl⟩
      exact ⟨rfl, h.still (Below.refl _ _)⟩
  · have e : stE n i bs.length = 2 := by unfold stE; rw [if_neg hi]
    simp only [e, show ((2 : Int) = 0) = False from by simp, if_false]
    refine (dset_out B db sb n z.S _ v z.last z.Q i w h.d (by omega)).mono ?_
    rintro e w' ⟨rfl, rfl⟩
    exact ⟨rfl, h.still (Below.refl _ _)⟩
def scE (n : Nat) (i : Int) : Int := if 0 ≤ i ∧ i < n then 0 else 2
def scT (n : Nat) (S : List Int) (i : Int) : ByteArray := if 0 ≤ i ∧ i < n then strOfNums (frL S i.toNat) else ByteArray.empty
set_option maxHeartbeats 1000000 in
theorem sectorp_any (B db sb n : Nat) (S : List Int) (v : Value) (last : Int) (Q : List Rq) (i : Int) (w : World) (h : Dk B w db sb n S v last Q) : Calls Try.prog 37 #[.pointer (some ⟨db, 0, none⟩), .int .i64 i] w fun e w' => (∃ u, e = .returned (.tuple #[u, .int .i64 (scE n i)]) ∧ Txt w' u (scT n S i)) ∧ Below w.heap.size w w' := by
  unfold scE scT
  by_cases hi : 0 ≤ i ∧ i < n
  · rw [if_pos hi, if_pos hi]
    obtain ⟨j, rfl⟩ := Int.eq_ofNat_of_zero_le hi.1
    rw [Int.toNat_natCast]
    refine (sector_ok B db sb n j S v last Q w h (by omega)).mono ?_
    rintro e w' ⟨⟨u, rfl, hu⟩, hb⟩
    exact ⟨⟨u, rfl, Txt.of_own hu⟩, hb⟩
  · rw [if_neg hi, if_neg hi]
    have c1 := dthere_any B db sb n S v last Q i w h
    rw [show thE n i = 2 by unfold thE; rw [if_neg (by omega)]] at c1
    clear h hi
    go_enter Try.func37, Try.ntmps37
    go_wp2_with fail
    refine c1.mono ?_
    rintro e W1 ⟨rfl, rfl⟩
    go_wp2
    go_ret2
    exact ⟨⟨_, rfl, Txt.nil _⟩, Below.refl _ _⟩
theorem dsize_any (B db sb n : Nat) (S : List Int) (v : Value) (last : Int) (Q : List Rq) (w : World) (h : Dk B w db sb n S v last Q) : Calls Try.prog 46 #[.pointer (some ⟨db, 0, none⟩)] w fun e w' => e = .returned (.int .i64 n) ∧ w' = w := by
  obtain ⟨C, hC, c0, c1, c2⟩ := h.c
  clear h
  go_enter Try.func46, Try.ntmps46
  go_wp2
  go_ret
  exact ⟨rfl, rfl⟩
end Go.Proofs.Ytdmahmolhdbegaa
