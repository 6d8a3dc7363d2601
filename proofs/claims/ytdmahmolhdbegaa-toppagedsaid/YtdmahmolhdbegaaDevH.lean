/- A disk: a request is delivered, whichever it is. -/
import Derived.Test.YtdmahmolhdbegaaDevG
namespace Go.Proofs.Ytdmahmolhdbegaa
open Go.RowKit Go.Maps
set_option linter.unusedVariables false
set_option maxRecDepth 100000
set_option maxHeartbeats 4000000 in
theorem deliver_gen (B db sb n mb N i m s : Nat) (r1 : Bool) (f er : Int) (S L S' L' : List Int) (v : Value) (last : Int) (Q : List Rq) (r0 r4 : Int) (w : World) (h : Dk B w db sb n S v last Q) (hM : Mem w mb N L) (hi : Q[i]? = some (r0, r1, (s : Int), f, r4)) (hm : Q.length = i + 1 + m) (hn1 : mb ≠ db) (hn2 : mb ≠ sb) (hn3 : some mb ≠ v.ownBlock)
    (cMv : ∀ W v', Dk B W db sb n S v' last (Q.take i ++ Q.drop (i + 1)) → Mem W mb N L → v'.ownBlock = v.ownBlock → Calls Try.prog 30 #[.pointer (some ⟨db, 0, none⟩), .agg #[.int .u32 r0, .bool r1, .int .i64 s, .int .i64 f, .int .u8 r4], .pointer (some ⟨mb, 0, none⟩)] W fun e w' => e = .returned (.int .i64 er) ∧ Dk B w' db sb n S' v' last (Q.take i ++ Q.drop (i + 1)) ∧ Mem w' mb N L' ∧ Apart (fun k => k = sb ∨ k = mb) W w') (e2 : Int) (he : (er = 0 ∧ e2 = 0) ∨ (er ≠ 0 ∧ e2 = 10)) :
    Calls Try.prog 12 #[.pointer (some ⟨db, 0, none⟩), .int .i64 i, .pointer (some ⟨mb, 0, none⟩)] w fun e w' => e = .returned (.tuple #[.agg #[.int .u32 r0, .bool r1, .int .i64 s, .int .i64 f, .int .u8 r4], .int .i64 e2]) ∧ ∃ v', Dk B w' db sb n S' v' last (Q.take i ++ Q.drop (i + 1)) ∧ Mem w' mb N L' ∧ Apart (fun k => k = db ∨ k = sb ∨ k = mb ∨ some k = v.ownBlock) w w' ∧ v'.ownBlock = v.ownBlock := by
  have hb0 : Below w.heap.size w (w.alloc (.cells #[.int .u32 0, .bool false, .int .i64 0, .int .i64 0, .int .u8 0] 37)) := (Below.refl _ w).alloc (Nat.le_refl _) _
  have c1 := take_ok B db sb n i m S v last Q (r0, r1, (s : Int), f, r4) (w.alloc (.cells #[.int .u32 0, .bool false, .int .i64 0, .int .i64 0, .int .u8 0] 37)) (h.below hb0) (by omega) hi hm
  unfold rqV at c1
  simp only at c1
  have HM0 : Hid3 (Mem (w.alloc (.cells #[.int .u32 0, .bool false, .int .i64 0, .int .i64 0, .int .u8 0] 37)) mb N L) := ⟨hM.below hb0⟩
  have HZ0 : Hid3 ((w.alloc (.cells #[.int .u32 0, .bool false, .int .i64 0, .int .i64 0, .int .u8 0] 37)).heap[w.heap.size]? = some (.cells #[.int .u32 0, .bool false, .int .i64 0, .int .i64 0, .int .u8 0] 37)) := ⟨heap_alloc_last w _⟩
  have HB0 : Hid3 (Below w.heap.size w (w.alloc (.cells #[.int .u32 0, .bool false, .int .i64 0, .int .i64 0, .int .u8 0] 37))) := ⟨hb0⟩
  have hdl := h.lt
  have hsl := h.lts
  have hml := hM.lt
  have hown : Hid3 (∀ g, v.ownBlock = some g → g < w.heap.size) := ⟨fun g hg => (h.own.lt g hg).2⟩
  have HMv := Hid3.mk cMv
  clear h hM hb0 hi cMv
  go_enter Try.func12, Try.ntmps12
  go_wp2_with fail
  refine c1.mono ?_
  rintro e W1 ⟨rfl, v', hD1, hA1, hV1⟩
  clear c1
  have hz1 := hA1.size
  simp only [World.size_alloc] at hz1
  have hx1 : W1.heap[w.heap.size]? = some (.cells #[.int .u32 0, .bool false, .int .i64 0, .int .i64 0, .int .u8 0] 37) := (hA1.block w.heap.size (by simp) (fun e => by
    rcases e with e | e
    · omega
    · have := hown.out _ e.symm
      omega)).trans HZ0.out
  have hM1 : Mem W1 mb N L := HM0.out.stay hA1 (fun e => by
    rcases e with e | e
    · exact hn1 e
    · exact hn3 e)
  have hb2 : Below W1.heap.size W1 (W1.alloc (.cells #[.int .u32 r0, .bool r1, .int .i64 s, .int .i64 f, .int .u8 r4] 37)) := (Below.refl _ W1).alloc (Nat.le_refl _) _
  have c2 := HMv.out (W1.alloc (.cells #[.int .u32 r0, .bool r1, .int .i64 s, .int .i64 f, .int .u8 r4] 37)) v' (hD1.below hb2) (hM1.below hb2) hV1
  have HX2 : Hid3 ((W1.alloc (.cells #[.int .u32 r0, .bool r1, .int .i64 s, .int .i64 f, .int .u8 r4] 37)).heap[w.heap.size]? = some (.cells #[.int .u32 0, .bool false, .int .i64 0, .int .i64 0, .int .u8 0] 37) ∧ (W1.alloc (.cells #[.int .u32 r0, .bool r1, .int .i64 s, .int .i64 f, .int .u8 r4] 37)).heap[W1.heap.size]? = some (.cells #[.int .u32 r0, .bool r1, .int .i64 s, .int .i64 f, .int .u8 r4] 37)) := ⟨(hb2.block _ (by omega)).trans hx1, heap_alloc_last W1 _⟩
  have HA1 : Hid3 (Apart (fun k => k = db ∨ k = sb ∨ some k = v.ownBlock) w (W1.alloc (.cells #[.int .u32 r0, .bool r1, .int .i64 s, .int .i64 f, .int .u8 r4] 37)) ∧ v'.ownBlock = v.ownBlock) := ⟨((Apart.of_below HB0.out).trans (hA1.wide (fun k _ e => e.imp id .inr))).trans (Apart.of_below hb2), hV1⟩
  have n1 : w.heap.size ≠ W1.heap.size := by omega
  clear hD1 hA1 hV1 hx1 hM1 hb2 HM0 HZ0 HB0 HMv
  rcases he with ⟨he1, rfl⟩ | ⟨he1, rfl⟩
  all_goals
    (try subst he1)
    (try (have he2 : (er != 0) = true := by simpa using he1))
    go_wp2_with fail
    refine c2.mono ?_
    rintro e W2 ⟨rfl, hD2, hM2, hO2⟩
    clear c2
    have hz2 : W1.heap.size + 1 ≤ W2.heap.size := by have := hO2.size; simpa using this
    have kz := (hO2.block w.heap.size (by simp; omega) (fun e => by omega)).trans HX2.out.1
    have kr := (hO2.block W1.heap.size (by simp) (fun e => by omega)).trans HX2.out.2
    have H2 : Hid3 (Dk B W2 db sb n S' v' last (Q.take i ++ Q.drop (i + 1)) ∧ Apart (fun k => k = db ∨ k = sb ∨ k = mb ∨ some k = v.ownBlock) w W2 ∧ Mem W2 mb N L') := ⟨hD2, (HA1.out.1.wide (fun k _ e => e.elim .inl (fun e => e.elim (fun e => .inr (.inl e)) (fun e => .inr (.inr (.inr e)))))).then hO2 (fun k _ e => e.elim (fun e => .inr (.inl e)) (fun e => .inr (.inr (.inl e)))), hM2⟩
    obtain ⟨z0, z1, z2, z3, z4⟩ := b5m kz
    obtain ⟨x0, x1, x2, x3, x4⟩ := b5m kr
    have zf : ∀ j, W2.frozen? ⟨w.heap.size, j, none⟩ = false := fun j => Lib.frozen_of_heap kz j
    clear hD2 hM2 hO2 kz kr HX2
    go_wp2
    have a5 := apart_set5 W2 w.heap.size (.int .u32 r0) (.bool r1) (.int .i64 s) (.int .i64 f) (.int .u8 r4)
    have HF : Hid3 (Dk B (((((W2.setCell ⟨w.heap.size, 0, none⟩ (.int .u32 r0)).setCell ⟨w.heap.size, 1, none⟩ (.bool r1)).setCell ⟨w.heap.size, 2, none⟩ (.int .i64 s)).setCell ⟨w.heap.size, 3, none⟩ (.int .i64 f)).setCell ⟨w.heap.size, 4, none⟩ (.int .u8 r4)) db sb n S' v' last (Q.take i ++ Q.drop (i + 1)) ∧ Mem (((((W2.setCell ⟨w.heap.size, 0, none⟩ (.int .u32 r0)).setCell ⟨w.heap.size, 1, none⟩ (.bool r1)).setCell ⟨w.heap.size, 2, none⟩ (.int .i64 s)).setCell ⟨w.heap.size, 3, none⟩ (.int .i64 f)).setCell ⟨w.heap.size, 4, none⟩ (.int .u8 r4)) mb N L' ∧ Apart (fun k => k = db ∨ k = sb ∨ k = mb ∨ some k = v.ownBlock) w (((((W2.setCell ⟨w.heap.size, 0, none⟩ (.int .u32 r0)).setCell ⟨w.heap.size, 1, none⟩ (.bool r1)).setCell ⟨w.heap.size, 2, none⟩ (.int .i64 s)).setCell ⟨w.heap.size, 3, none⟩ (.int .i64 f)).setCell ⟨w.heap.size, 4, none⟩ (.int .u8 r4)) ∧ v'.ownBlock = v.ownBlock) := ⟨H2.out.1.stay a5 (by omega) (by omega) (fun k hk e => by
      rw [HA1.out.2] at hk
      have := hown.out k hk
      omega), H2.out.2.2.stay a5 (by omega), H2.out.2.1.then a5 (fun k hk e => absurd e (by omega)), HA1.out.2⟩
    clear a5
    refine bodyPost_ret (v := .tuple #[.agg #[.int .u32 r0, .bool r1, .int .i64 s, .int .i64 f, .int .u8 r4], .int .i64 _]) (by simp [results, Try.results12, go_sem, *]) rfl ⟨rfl, v', HF.out⟩
set_option maxHeartbeats 2000000 in
theorem deliver_no (B db sb n mb : Nat) (S : List Int) (v : Value) (last : Int) (Q : List Rq) (i : Int) (w : World) (h : Dk B w db sb n S v last Q) (hi : i < 0 ∨ (Q.length : Int) ≤ i) : Calls Try.prog 12 #[.pointer (some ⟨db, 0, none⟩), .int .i64 i, .pointer (some ⟨mb, 0, none⟩)] w fun e w' => e = .returned (.tuple #[rqV zR, .int .i64 2]) ∧ Below w.heap.size w w' := by
  have hb0 : Below w.heap.size w (w.alloc (.cells #[.int .u32 0, .bool false, .int .i64 0, .int .i64 0, .int .u8 0] 37)) := (Below.refl _ w).alloc (Nat.le_refl _) _
  have c1 := take_no B db sb n S v last Q i (w.alloc (.cells #[.int .u32 0, .bool false, .int .i64 0, .int .i64 0, .int .u8 0] 37)) (h.below hb0) hi
  unfold rqV zR at c1
  simp only at c1
  have HZ0 : Hid3 ((w.alloc (.cells #[.int .u32 0, .bool false, .int .i64 0, .int .i64 0, .int .u8 0] 37)).heap[w.heap.size]? = some (.cells #[.int .u32 0, .bool false, .int .i64 0, .int .i64 0, .int .u8 0] 37)) := ⟨heap_alloc_last w _⟩
  have HB0 := Hid3.mk hb0
  clear h hb0 hi
  go_enter Try.func12, Try.ntmps12
  go_wp2_with fail
  refine c1.mono ?_
  rintro e W1 ⟨rfl, hB1⟩
  clear c1
  have hz1 := hB1.size
  simp only [World.size_alloc] at hz1
  have hb2 : Below W1.heap.size W1 (W1.alloc (.cells #[.int .u32 0, .bool false, .int .i64 0, .int .i64 0, .int .u8 0] 37)) := (Below.refl _ W1).alloc (Nat.le_refl _) _
  have kz := (hb2.block w.heap.size (by omega)).trans ((hB1.block w.heap.size (by simp)).trans HZ0.out)
  have HB : Hid3 (Below w.heap.size w (W1.alloc (.cells #[.int .u32 0, .bool false, .int .i64 0, .int .i64 0, .int .u8 0] 37))) := ⟨(HB0.out.trans (hB1.mono HB0.out.size)).trans (hb2.mono (by omega))⟩
  obtain ⟨z0, z1, z2, z3, z4⟩ := b5m kz
  have zf : ∀ j, (W1.alloc (.cells #[.int .u32 0, .bool false, .int .i64 0, .int .i64 0, .int .u8 0] 37)).frozen? ⟨w.heap.size, j, none⟩ = false := fun j => Lib.frozen_of_heap kz j
  clear hB1 hb2 kz HZ0
  go_wp2
  have a5 := apart_set5 (W1.alloc (.cells #[.int .u32 0, .bool false, .int .i64 0, .int .i64 0, .int .u8 0] 37)) w.heap.size (.int .u32 0) (.bool false) (.int .i64 0) (.int .i64 0) (.int .u8 0)
  refine bodyPost_ret (v := .tuple #[.agg #[.int .u32 0, .bool false, .int .i64 0, .int .i64 0, .int .u8 0], .int .i64 2]) (by simp [results, Try.results12, go_sem, *]) rfl ⟨rfl, HB.out.trans (a5.below w.heap.size (fun k e => by rw [e]; exact Nat.le_refl _) HB.out.size)⟩
end Go.Proofs.Ytdmahmolhdbegaa
