/- A disk: a request is moved, whichever way. -/
import Derived.Test.YtdmahmolhdbegaaDevF
namespace Go.Proofs.Ytdmahmolhdbegaa
open Go.RowKit Go.Maps
set_option linter.unusedVariables false
set_option maxRecDepth 100000
theorem fill_out (b : Nat) (n f o : Int) (L : List Int) (v : Value) (w : World) (h : Mem w b n L) (hf : f < 0 ∨ n ≤ f) : Calls Try.prog 52 #[.pointer (some ⟨b, 0, none⟩), .int .i64 f, .int .i64 o, v] w fun e w' => e = .returned (.int .i64 2) ∧ w' = w := by
  have c1 := there_out b n L f w h hf
  clear hf h
  go_enter Try.func52, Try.ntmps52
  go_wp2_with fail
  refine c1.mono ?_
  rintro e W1 ⟨rfl, rfl⟩
  go_wp2
  go_ret
  exact ⟨rfl, rfl⟩
set_option maxHeartbeats 2000000 in
theorem move_wb (B db sb n mb N : Nat) (s f : Int) (S L : List Int) (v : Value) (last : Int) (Q : List Rq) (r0 r4 : Int) (w : World) (h : Dk B w db sb n S v last Q) (hM : Mem w mb N L) (hf : (N : Int) ≤ f) : Calls Try.prog 30 #[.pointer (some ⟨db, 0, none⟩), .agg #[.int .u32 r0, .bool true, .int .i64 s, .int .i64 f, .int .u8 r4], .pointer (some ⟨mb, 0, none⟩)] w fun e w' => e = .returned (.int .i64 2) ∧ Below w.heap.size w w' := by
  have hb0 : Below w.heap.size w (w.alloc (.cells #[.int .u32 r0, .bool true, .int .i64 s, .int .i64 f, .int .u8 r4] 37)) := (Below.refl _ w).alloc (Nat.le_refl _) _
  have c1 := frame_any mb N f L _ (hM.below hb0)
  rw [show inE (N : Int) f 0 1 = 2 by
    unfold inE
    rw [if_neg (fun q => by have := (inB_t q).2.1; omega)]] at c1
  have HB0 := Hid3.mk hb0
  clear h hM hb0 hf
  go_enter Try.func30, Try.ntmps30
  go_wp2_with fail
  refine c1.mono ?_
  rintro e W1 ⟨⟨u, rfl, _⟩, hB1⟩
  have HB1 : Hid3 (Below w.heap.size w W1) := ⟨HB0.out.trans (hB1.mono HB0.out.size)⟩
  clear c1 hB1
  go_wp2
  go_ret
  exact ⟨rfl, HB1.out⟩
theorem b5c {w : World} {b : Nat} {r0 r2 r3 r4 : Int} {r1 : Bool} (h : w.heap[b]? = some (.cells #[.int .u32 r0, .bool r1, .int .i64 r2, .int .i64 r3, .int .u8 r4] 37)) : w.cell? ⟨b, 1, none⟩ = some (.bool r1) ∧ w.cell? ⟨b, 2, none⟩ = some (.int .i64 r2) ∧ w.cell? ⟨b, 3, none⟩ = some (.int .i64 r3) := by
  obtain ⟨_, a, b, c, _⟩ := b5m h
  exact ⟨a, b, c⟩
set_option maxHeartbeats 4000000 in
theorem move_ra (B db sb n mb N s : Nat) (f : Int) (S L L' : List Int) (v : Value) (last : Int) (Q : List Rq) (r0 r4 e0 : Int) (w : World) (h : Dk B w db sb n S v last Q) (hM : Mem w mb N L) (hs : s < n) (hn1 : mb ≠ db) (hn2 : mb ≠ sb) (hn3 : some mb ≠ v.ownBlock)
    (hFill : ∀ W, Mem W mb N L → W.heap.size > sb → (∀ j x, (frL S s)[j]? = some x → W.cell? ⟨sb, s * 32 + j, none⟩ = some (.int .u8 x)) → Calls Try.prog 52 #[.pointer (some ⟨mb, 0, none⟩), .int .i64 f, .int .i64 0, .slice (some ⟨sb, s * 32, none⟩) 32 32] W fun e w' => e = .returned (.int .i64 e0) ∧ Mem w' mb N L' ∧ Only mb W w') :
    Calls Try.prog 30 #[.pointer (some ⟨db, 0, none⟩), .agg #[.int .u32 r0, .bool false, .int .i64 s, .int .i64 f, .int .u8 r4], .pointer (some ⟨mb, 0, none⟩)] w fun e w' => e = .returned (.int .i64 e0) ∧ Dk B w' db sb n S v last Q ∧ Mem w' mb N L' ∧ Apart (fun k => k = mb) w w' := by
  obtain ⟨W0, hW0⟩ : ∃ W0 : World, W0 = (w.alloc (.cells #[.int .u32 r0, .bool false, .int .i64 s, .int .i64 f, .int .u8 r4] 37)).drew := ⟨_, rfl⟩
  have hb0 : Below w.heap.size w W0 := by rw [hW0]; exact ((Below.refl _ w).alloc (Nat.le_refl _) _).drew
  have hx0 : W0.heap[w.heap.size]? = some (.cells #[.int .u32 r0, .bool false, .int .i64 s, .int .i64 f, .int .u8 r4] 37) := by rw [hW0]; exact heap_alloc_last w _
  have hD0 := h.below hb0
  have hM0 := hM.below hb0
  obtain ⟨C, hC, _, _, d2⟩ := hD0.c
  have c1 := hFill W0 hM0 hD0.lts (fun j x hj => hD0.byte (s * 32 + j) x (by
    rw [frL, List.getElem?_take] at hj
    split at hj
    · rw [List.getElem?_drop] at hj
      exact hj
    · cases hj))
  have hdl := h.lt
  have hml := hM.lt
  obtain ⟨b1, b2, b3⟩ := b5c hx0
  have hS0 : Hid3 (W0.cell? ⟨w.heap.size, 1, none⟩ = some (.bool false) ∧ W0.cell? ⟨w.heap.size, 2, none⟩ = some (.int .i64 s) ∧ W0.cell? ⟨w.heap.size, 3, none⟩ = some (.int .i64 f) ∧ W0.cell? ⟨db, 2, none⟩ = some (.slice (some ⟨sb, 0, none⟩) n C)) := ⟨⟨b1, b2, b3, d2⟩⟩
  have hS1 : Hid3 (∀ W1, Only mb W0 W1 → W1.cell? ⟨w.heap.size, 1, none⟩ = some (.bool false) ∧ W1.cell? ⟨w.heap.size, 2, none⟩ = some (.int .i64 s) ∧ W1.cell? ⟨w.heap.size, 3, none⟩ = some (.int .i64 f) ∧ W1.cell? ⟨db, 2, none⟩ = some (.slice (some ⟨sb, 0, none⟩) n C)) := ⟨fun W1 hO => by
    have e1 := (hO.block w.heap.size (Array.getElem?_eq_some_iff.1 hx0).1 (by omega)).trans hx0
    obtain ⟨p1, p2, p3⟩ := b5c e1
    refine ⟨p1, p2, p3, ?_⟩
    rw [World.cell?_of_block (w := W0) (hO.block db hD0.lt (fun e => hn1 e.symm))]
    exact d2⟩
  have HE : Hid3 (∀ W1, Only mb W0 W1 → Dk B W1 db sb n S v last Q ∧ Apart (fun k => k = mb) w W1) := ⟨fun W1 hO => ⟨hD0.stay (Apart.of_only hO) (fun e => hn1 e.symm) (fun e => hn2 e.symm) (fun g hg e => hn3 (by rw [hg, e])), (Apart.of_below hb0).trans (Apart.of_only hO)⟩⟩
  have hsn : (s : Int) < (n : Int) := by omega
  have hs0 : (0 : Int) ≤ (s : Int) := by omega
  rw [hW0] at c1 hS0 hS1
  rw [hW0] at HE
  clear h hM hD0 hM0 hFill hb0 hx0 hn1 hn2 hn3 d2 b1 b2 b3 hW0
  go_enter Try.func30, Try.ntmps30
  go_wp2_with fail
  go_region_held3 (fun w' => w'.cell? ⟨w.heap.size, 1, none⟩ = some (.bool false) ∧ w'.cell? ⟨w.heap.size, 2, none⟩ = some (.int .i64 s) ∧ w'.cell? ⟨w.heap.size, 3, none⟩ = some (.int .i64 f) ∧ w'.cell? ⟨db, 2, none⟩ = some (.slice (some ⟨sb, 0, none⟩) n C)) (with_reducible (first | exact hS0.out | exact hS1.out _ hO)) ((go_at_call 52; refine c1.mono ?_; rintro e W2 ⟨rfl, hM2, hO⟩))
  have H2 := Hid3.mk (HE.out _ hO)
  have HM2 := Hid3.mk hM2
  clear hM2 hO hS0 hS1 HE c1
  go_wp2
  go_ret
  exact ⟨rfl, H2.out.1, HM2.out, H2.out.2⟩
def mvE (N : Nat) (f : Int) : Int := if f < N then 0 else 2
def mvS (S L : List Int) (r1 : Bool) (s : Nat) (f : Int) (N : Nat) : List Int := if f < N ∧ r1 = true then putL S (s * 32) (frL L f.toNat) else S
def mvL (S L : List Int) (r1 : Bool) (s : Nat) (f : Int) (N : Nat) : List Int := if f < N ∧ r1 = false then putL L (f.toNat * 32) (frL S s) else L
theorem frL_lenS {S : List Int} {n s : Nat} (h : S.length = n * 32) (hs : s < n) : (frL S s).length = 32 := by
  rw [frL, List.length_take, List.length_drop]
  omega
theorem move_any (B db sb n mb N s : Nat) (r1 : Bool) (f : Int) (S L : List Int) (v : Value) (last : Int) (Q : List Rq) (r0 r4 : Int) (w : World) (h : Dk B w db sb n S v last Q) (hM : Mem w mb N L) (hs : s < n) (hf : 0 ≤ f) (hn1 : mb ≠ db) (hn2 : mb ≠ sb) (hn3 : some mb ≠ v.ownBlock) : Calls Try.prog 30 #[.pointer (some ⟨db, 0, none⟩), .agg #[.int .u32 r0, .bool r1, .int .i64 s, .int .i64 f, .int .u8 r4], .pointer (some ⟨mb, 0, none⟩)] w fun e w' => e = .returned (.int .i64 (mvE N f)) ∧ Dk B w' db sb n (mvS S L r1 s f N) v last Q ∧ Mem w' mb N (mvL S L r1 s f N) ∧ Apart (fun k => k = sb ∨ k = mb) w w' := by
  obtain ⟨f, rfl⟩ := Int.eq_ofNat_of_zero_le hf
  unfold mvE mvS mvL
  rw [Int.toNat_natCast]
  by_cases hN : (f : Int) < N
  · rw [if_pos hN]
    cases r1 with
    | true =>
      rw [if_pos ⟨hN, rfl⟩, if_neg (fun c => by cases c.2)]
      refine (move_w B db sb n mb f s N S L v last Q r0 r4 w h hM (by omega) hs hn2).mono ?_
      rintro e w' ⟨rfl, k1, k2⟩
      exact ⟨rfl, k1, hM.stay (Apart.of_only k2) hn2, (Apart.of_only k2).wide (fun _ _ e => .inl e)⟩
    | false =>
      rw [if_neg (fun c => by cases c.2), if_pos ⟨hN, rfl⟩]
      refine (move_ra B db sb n mb N s (f : Int) S L (putL L (f * 32) (frL S s)) v last Q r0 r4 0 w h hM hs hn1 hn2 hn3 (fun W hMW hW hc => ?_)).mono ?_
      · have := fill_ok mb f 0 sb (s * 32) 32 32 N L (frL S s) W hMW (frL_lenS h.len hs) (by omega) ⟨fun e => hn2 e.symm, hW, hc⟩ hN (by omega) (by omega)
        rw [Nat.add_zero] at this
        exact this
      · rintro e w' ⟨rfl, k1, k2, k3⟩
        exact ⟨rfl, k1, k2, k3.wide (fun _ _ e => .inr e)⟩
  · rw [if_neg hN, if_neg (fun c => hN c.1), if_neg (fun c => hN c.1)]
    cases r1 with
    | true =>
      refine (move_wb B db sb n mb N s f S L v last Q r0 r4 w h hM (by omega)).mono ?_
      rintro e w' ⟨rfl, k⟩
      exact ⟨rfl, h.below k, hM.below k, Apart.of_below k⟩
    | false =>
      refine (move_ra B db sb n mb N s (f : Int) S L L v last Q r0 r4 2 w h hM hs hn1 hn2 hn3 (fun W hMW _ _ => ?_)).mono ?_
      · refine (fill_out mb N f 0 L _ W hMW (.inr (by omega))).mono ?_
        rintro e w' ⟨rfl, rfl⟩
        exact ⟨rfl, hMW, Only.refl _ _⟩
      · rintro e w' ⟨rfl, k1, k2, k3⟩
        exact ⟨rfl, k1, k2, k3.wide (fun _ _ e => .inr e)⟩
end Go.Proofs.Ytdmahmolhdbegaa
