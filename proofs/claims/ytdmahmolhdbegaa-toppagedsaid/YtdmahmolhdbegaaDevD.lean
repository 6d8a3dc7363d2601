/- A disk's queue: a request is taken out. -/
import Derived.Test.YtdmahmolhdbegaaDevC
import Derived.Deep.RegionHeld3
namespace Go.Proofs.Ytdmahmolhdbegaa
open Go.RowKit Go.Maps
set_option linter.unusedVariables false
set_option maxRecDepth 100000
theorem run_copy5 (w : World) (ty : TypeId) (g o dLen dCap : Nat) (a : Addr) (sLen sCap n : Nat) (cur : Array Value) (t : TypeId) (cs : List Value)
    (hg : w.heap[g]? = some (.cells cur t (0, 0))) (hn : n = Nat.min sLen dLen) (hcs : cs.length = n * 5)
    (hsrc : ∀ j v, cs[j]? = some v → w.cell? (a.add j) = some v) (hfit : o + cs.length ≤ cur.size) (h1 : ∀ v ∈ cs, v.oneCell' = true) :
    (Builtin.copy_ #[70, 70] ty #[.slice (some ⟨g, o, none⟩) dLen dCap, .slice (some a) sLen sCap]).run Try.prog w =
      .ok (goInt n) (w.setRow g (cur.toList.take o ++ cs ++ cur.toList.drop (o + cs.length)).toArray) := by
  have hl := run_loadCells_list (P := Try.prog) w a cs hsrc
  have hst := run_storeCells_at Try.prog g o t cs 0 cur w hg (by simpa using hfit) h1
  obtain ⟨i, hi, _, hs, _⟩ := info_parts infoR
  rw [hcs] at hl
  simp [Builtin.copy_, run_underlying Try.underlying70, Builtin.lenOf, Builtin.firstCells, sizeOf, typeInfo, hi, hs, ← hn, hl, hst]
theorem step_copy5 {w : World} {ops : Array Oper} {o : Oper} {a : Act} {K : Act → World → Prop} {Q0 : Exit → Act → World → Prop} {E : Prop} (hgd : o.guard = none) (d s : Operand)
    (ho : o.op = .call { callee := .builtin .copy, args := #[d, s], argTypes := #[70, 70] })
    (g off dLen dCap : Nat) (ad : Addr) (sLen sCap n : Nat) (cur : Array Value) (t : TypeId) (cs : List Value) (hd : a.eval d = .slice (some ⟨g, off, none⟩) dLen dCap) (hs : a.eval s = .slice (some ad) sLen sCap)
    (hg : w.heap[g]? = some (.cells cur t (0, 0))) (hn : n = Nat.min sLen dLen) (hcs : cs.length = n * 5)
    (hsrc : ∀ j v, cs[j]? = some v → w.cell? (ad.add j) = some v) (hfit : off + cs.length ≤ cur.size) (h1 : ∀ v ∈ cs, v.oneCell' = true)
    (h : K (a.put o.dst (goInt n)) (w.setRow g (cur.toList.take off ++ cs ++ cur.toList.drop (off + cs.length)).toArray)) :
    if Region.wanted o (yielded ops a.tmps) = true then Oper.wp Try.prog o a w K Q0 else E := by
  have hw : Region.wanted o (yielded ops a.tmps) = true := by simp [Region.wanted, hgd]
  have hr := run_copy5 w o.type g off dLen dCap ad sLen sCap n cur t cs hg hn hcs hsrc hfit h1
  rw [if_pos hw]
  unfold Oper.wp execOp
  simp only [ho, resolve, invoke, builtin, Sem.run_bind, Sem.run_pure, Result.andThen_ok, List.map_toArray, List.map_cons, List.map_nil, hd, hs, hr]
  exact h
theorem Dk.stay {B : Nat} {X : Nat → Prop} {w w' : World} {db sb n : Nat} {S : List Int} {v : Value} {last : Int} {Q : List Rq} (h : Dk B w db sb n S v last Q) (k : Apart X w w') (h1 : ¬ X db) (h2 : ¬ X sb) (h3 : ∀ g, v.ownBlock = some g → ¬ X g) : Dk B w' db sb n S v last Q := by
  obtain ⟨C, hC, e⟩ := h.blk
  obtain ⟨r, e2⟩ := h.row
  exact ⟨⟨C, hC, (k.block db h.lt h1).trans e⟩, ⟨r, (k.block sb h.lts h2).trans e2⟩, h.len, Apart.own h.own k h3, h.n1, h.n64, h.few, h.ge, h.gs, h.la⟩
theorem apart_set5 (w : World) (b : Nat) (x0 x1 x2 x3 x4 : Value) : Apart (fun k => k = b) w (((((w.setCell ⟨b, 0, none⟩ x0).setCell ⟨b, 1, none⟩ x1).setCell ⟨b, 2, none⟩ x2).setCell ⟨b, 3, none⟩ x3).setCell ⟨b, 4, none⟩ x4) :=
  ((((Apart.set w ⟨b, 0, none⟩ x0).trans (Apart.set _ ⟨b, 1, none⟩ x1)).trans (Apart.set _ ⟨b, 2, none⟩ x2)).trans (Apart.set _ ⟨b, 3, none⟩ x3)).trans (Apart.set _ ⟨b, 4, none⟩ x4)
theorem drop_split (cur : List Value) (Q : List Rq) (i : Nat) (hi : i < Q.length) (h : cur.take (Q.length * 5) = rqsCs Q) : (cur.take (i * 5) ++ rqsCs (Q.drop (i + 1)) ++ cur.drop (i * 5 + (rqsCs (Q.drop (i + 1))).length)).take ((Q.length - 1) * 5) = rqsCs (Q.take i ++ Q.drop (i + 1)) := by
  have e1 : cur.take (i * 5) = rqsCs (Q.take i) := by
    rw [rqsCs_take, ← h, List.take_take]
    congr 1
    omega
  have l1 : (rqsCs (Q.take i)).length = i * 5 := by rw [rqsCs_len, List.length_take]; omega
  have l2 : (rqsCs (Q.drop (i + 1))).length = (Q.length - (i + 1)) * 5 := by rw [rqsCs_len, List.length_drop]
  rw [e1, rqsCs_append, List.take_append_of_le_length (by rw [List.length_append, l1, l2]; omega), List.take_of_length_le (by rw [List.length_append, l1, l2]; omega)]
set_option maxHeartbeats 2000000 in
theorem take_no (B db sb n : Nat) (S : List Int) (v : Value) (last : Int) (Q : List Rq) (i : Int) (w : World) (h : Dk B w db sb n S v last Q) (hi : i < 0 ∨ (Q.length : Int) ≤ i) : Calls Try.prog 29 #[.pointer (some ⟨db, 0, none⟩), .int .i64 i] w fun e w' => e = .returned (.tuple #[rqV zR, .bool false]) ∧ Below w.heap.size w w' := by
  obtain ⟨C, hC, c0, c1, c2⟩ := h.c
  obtain ⟨a0, cap0, rfl⟩ := form5 h.own
  have hlt := h.lt
  unfold rqV zR
  clear h
  by_cases h1 : i < 0
  · clear hi
    go_enter Try.func29, Try.ntmps29
    go_wp2
    refine bodyPost_ret (v := .tuple #[.agg #[.int .u32 0, .bool false, .int .i64 0, .int .i64 0, .int .u8 0], .bool false]) (by simp [results, Try.results29, go_sem]) rfl ⟨rfl, (Below.refl _ w).alloc (Nat.le_refl _) _⟩
  · have h2 : (Q.length : Int) ≤ i := by omega
    clear hi
    go_enter Try.func29, Try.ntmps29
    go_wp2
    refine bodyPost_ret (v := .tuple #[.agg #[.int .u32 0, .bool false, .int .i64 0, .int .i64 0, .int .u8 0], .bool false]) (by simp [results, Try.results29, go_sem]) rfl ⟨rfl, (Below.refl _ w).alloc (Nat.le_refl _) _⟩
set_option maxHeartbeats 4000000 in
theorem take_ok (B db sb n i m : Nat) (S : List Int) (v : Value) (last : Int) (Q : List Rq) (r : Rq) (w : World) (h : Dk B w db sb n S v last Q) (hi : i < Q.length) (hr : Q[i]? = some r) (hm : Q.length = i + 1 + m) : Calls Try.prog 29 #[.pointer (some ⟨db, 0, none⟩), .int .i64 i] w fun e w' => e = .returned (.tuple #[rqV r, .bool true]) ∧ ∃ v', Dk B w' db sb n S v' last (Q.take i ++ Q.drop (i + 1)) ∧ Apart (fun k => k = db ∨ some k = v.ownBlock) w w' ∧ v'.ownBlock = v.ownBlock := by
  obtain ⟨C, hC, c0, c1, c2⟩ := h.c
  have hlt := h.lt
  have hfew := h.few
  have HD : Hid3 (Dk B w db sb n S v last Q) := ⟨h⟩
  rcases h.own.2 with ⟨_, h0⟩ | ⟨g, cap, cur, rfl, hg, hblk, hk, hmx, hsz, htk⟩
  · omega
  have hgdb : g ≠ db := (h.apart g rfl).2
  have hgl : g < w.heap.size := (Array.getElem?_eq_some_iff.1 hblk).1
  have hat := rqsCs_at Q i r hr
  have hcl : ∀ j x, (rqsCs Q)[j]? = some x → w.cell? ⟨g, j, none⟩ = some x := fun j x hj => by
    rw [cell_of_row w g j _ _ _ hblk]
    have hj2 : j < Q.length * 5 := by have := (List.getElem?_eq_some_iff.1 hj).1; rw [rqsCs_len] at this; exact this
    rw [← htk, List.getElem?_take, if_pos hj2] at hj
    simpa using hj
  have e0 := hcl _ _ hat.1
  have e1 := hcl _ _ hat.2.1
  have e2 := hcl _ _ hat.2.2.1
  have e3 := hcl _ _ hat.2.2.2.1
  have e4 := hcl _ _ hat.2.2.2.2
  obtain ⟨r0, r1, r2, r3, r4⟩ := r
  simp only at e0 e1 e2 e3 e4
  unfold rqV
  have hi1 : ¬ (i : Int) < 0 := by omega
  have hi2 : ¬ (Q.length : Int) ≤ (i : Int) := by omega
  have hi3 : (i : Int) + 1 ≤ (Q.length : Int) := by omega
  have hi4 : (i : Int) < (Q.length : Int) := by omega
  have HQ : Hid3 (Q.length = i + 1 + m) := ⟨hm⟩
  have HC : Hid3 (∀ j x, (rqsCs Q)[j]? = some x → w.cell? ⟨g, j, none⟩ = some x) := ⟨hcl⟩
  have HB : Hid3 (w.heap[g]? = some (.cells cur 37 (0, 0)) ∧ cur.size = cap * 5 ∧ cur.toList.take (Q.length * 5) = rqsCs Q ∧ B ≤ g ∧ cap ≤ maxLen) := ⟨hblk, hsz, htk, hg, hmx⟩
  have hne : db ≠ w.heap.size := by omega
  clear h hr hat hcl hblk hsz htk hm
  go_enter Try.func29, Try.ntmps29
  go_upto_region 4 with fail
  have hX : Below w.heap.size w ((w.alloc (.cells #[.int .u32 0, .bool false, .int .i64 0, .int .i64 0, .int .u8 0] 37)).alloc (.cells #[.int .u32 r0, .bool r1, .int .i64 r2, .int .i64 r3, .int .u8 r4] 37)) := ((Below.refl _ w).alloc (Nat.le_refl _) _).alloc (by simp) _
  have hbz : ((w.alloc (.cells #[.int .u32 0, .bool false, .int .i64 0, .int .i64 0, .int .u8 0] 37)).alloc (.cells #[.int .u32 r0, .bool r1, .int .i64 r2, .int .i64 r3, .int .u8 r4] 37)).heap[w.heap.size]? = some (.cells #[.int .u32 0, .bool false, .int .i64 0, .int .i64 0, .int .u8 0] 37) := (Lib.alloc_old _ _ _ (by simp)).trans (heap_alloc_last w _)
  have hbr : ((w.alloc (.cells #[.int .u32 0, .bool false, .int .i64 0, .int .i64 0, .int .u8 0] 37)).alloc (.cells #[.int .u32 r0, .bool r1, .int .i64 r2, .int .i64 r3, .int .u8 r4] 37)).heap[w.heap.size + 1]? = some (.cells #[.int .u32 r0, .bool r1, .int .i64 r2, .int .i64 r3, .int .u8 r4] 37) := by
    have := heap_alloc_last (w.alloc (.cells #[.int .u32 0, .bool false, .int .i64 0, .int .i64 0, .int .u8 0] 37)) (.cells #[.int .u32 r0, .bool r1, .int .i64 r2, .int .i64 r3, .int .u8 r4] 37)
    rw [World.size_alloc] at this
    exact this
  have k0 : ((w.alloc (.cells #[.int .u32 0, .bool false, .int .i64 0, .int .i64 0, .int .u8 0] 37)).alloc (.cells #[.int .u32 r0, .bool r1, .int .i64 r2, .int .i64 r3, .int .u8 r4] 37)).cell? ⟨db, 0, none⟩ = some (.slice (some ⟨g, 0, none⟩) Q.length cap) := (hX.cell (p := ⟨db, 0, none⟩) hlt).trans c0
  have kg := (hX.block g hgl).trans HB.out.1
  have HX : Hid3 (Below w.heap.size w ((w.alloc (.cells #[.int .u32 0, .bool false, .int .i64 0, .int .i64 0, .int .u8 0] 37)).alloc (.cells #[.int .u32 r0, .bool r1, .int .i64 r2, .int .i64 r3, .int .u8 r4] 37))) := ⟨hX⟩
  have hz2 : w.heap.size + 2 ≤ ((w.alloc (.cells #[.int .u32 0, .bool false, .int .i64 0, .int .i64 0, .int .u8 0] 37)).alloc (.cells #[.int .u32 r0, .bool r1, .int .i64 r2, .int .i64 r3, .int .u8 r4] 37)).heap.size := by simp
  clear c0 c1 c2 e0 e1 e2 e3 e4 hne hX
  generalize ((w.alloc (.cells #[.int .u32 0, .bool false, .int .i64 0, .int .i64 0, .int .u8 0] 37)).alloc (.cells #[.int .u32 r0, .bool r1, .int .i64 r2, .int .i64 r3, .int .u8 r4] 37)) = W2 at *
  have f0 : W2.frozen? ⟨db, 0, none⟩ = false := by
    obtain ⟨C2, _, e⟩ := (HD.out.below HX.out).blk
    simp [World.frozen?, e]
  have HG : Hid3 (W2.heap[g]? = some (.cells cur 37 (0, 0))) := ⟨kg⟩
  have HC2 : Hid3 (∀ j x, (rqsCs (Q.drop (i + 1)))[j]? = some x → W2.drew.cell? ((⟨g, (i + 1) * 5, none⟩ : Addr).add j) = some x) := ⟨fun j x hj => by
    rw [Addr.add_mid]
    rw [rqsCs_drop, List.getElem?_drop] at hj
    have hcx := HC.out _ _ hj
    exact (HX.out.cell (p := ⟨g, (i + 1) * 5 + j, none⟩) hgl).trans hcx⟩
  have HL : Hid3 ((rqsCs (Q.drop (i + 1))).length = m * 5) := ⟨by rw [rqsCs_len, List.length_drop, HQ.out]; congr 1; omega⟩
  have Hone : Hid3 (∀ u ∈ rqsCs (Q.drop (i + 1)), u.oneCell' = true) := ⟨rqsCs_one _⟩
  have HS : Hid3 ((cur.toList.take (i * 5) ++ rqsCs (Q.drop (i + 1)) ++ cur.toList.drop (i * 5 + (rqsCs (Q.drop (i + 1))).length)).take ((Q.length - 1) * 5) = rqsCs (Q.take i ++ Q.drop (i + 1))) := ⟨drop_split cur.toList Q i hi HB.out.2.2.1⟩
  have Hsz : Hid3 (i * 5 + (rqsCs (Q.drop (i + 1))).length ≤ cur.size) := ⟨by rw [HL.out, HB.out.2.1]; have := HQ.out; omega⟩
  generalize rqsCs (Q.drop (i + 1)) = cs at *
  have HZ : Hid3 (W2.heap[w.heap.size]? = some (.cells #[.int .u32 0, .bool false, .int .i64 0, .int .i64 0, .int .u8 0] 37) ∧ W2.heap[w.heap.size + 1]? = some (.cells #[.int .u32 r0, .bool r1, .int .i64 r2, .int .i64 r3, .int .u8 r4] 37)) := ⟨hbz, hbr⟩
  clear hbz hbr kg
  have hb1 : (i : Int) ≤ (Q.length : Int) := by omega
  have hb2 : (Q.length : Int) ≤ (cap : Int) := by omega
  have hb0 : (0 : Int) ≤ (i : Int) := by omega
  have hb4 : (i : Int) ≤ (cap : Int) := by omega
  have hb5 : (i : Int) + 1 ≤ (cap : Int) := by omega
  have HK : Hid3 (∀ c, (W2.drew.setRow g c).cell? ⟨db, 0, none⟩ = some (.slice (some ⟨g, 0, none⟩) Q.length cap)) := ⟨fun c => by
    rw [← k0]
    unfold World.cell?
    rw [setRow_other W2.drew g db c (Ne.symm hgdb)]
    rfl⟩
  obtain ⟨p, hp⟩ : ∃ p, p = i + m := ⟨_, rfl⟩
  have HP : Hid3 (p = Q.length - 1) := ⟨by rw [hp, HQ.out]; omega⟩
  have hpm : (i : Int) + (m : Int) = (p : Int) := by omega
  have hp0 : (0 : Int) ≤ (p : Int) := by omega
  have hp8 : (p : Int) ≤ 8 := by have := HQ.out; omega
  have hpc : (p : Int) ≤ (cap : Int) := by have := HQ.out; omega
  have hpw : IntKind.i64.wrap (p : Int) = (p : Int) := by rw [IntKind.wrap_i64]; omega
  have Hm : Hid3 (p = i + m) := ⟨hp⟩
  clear hp
  have HF : Hid3 (∀ W3, W3 = W2.drew.setRow g (cur.toList.take (i * 5) ++ cs ++ cur.toList.drop (i * 5 + cs.length)).toArray → W3.cell? ⟨db, 0, none⟩ = some (.slice (some ⟨g, 0, none⟩) Q.length cap) ∧ W3.frozen? ⟨db, 0, none⟩ = false ∧ W3.heap[w.heap.size]? = some (.cells #[.int .u32 0, .bool false, .int .i64 0, .int .i64 0, .int .u8 0] 37) ∧ W3.heap[w.heap.size + 1]? = some (.cells #[.int .u32 r0, .bool r1, .int .i64 r2, .int .i64 r3, .int .u8 r4] 37) ∧ Dk B (W3.setCell ⟨db, 0, none⟩ (.slice (some ⟨g, 0, none⟩) p cap)) db sb n S (.slice (some ⟨g, 0, none⟩) p cap) last (Q.take i ++ Q.drop (i + 1)) ∧ Apart (fun k => k = db ∨ some k = Value.ownBlock (.slice (some ⟨g, 0, none⟩) Q.length cap)) w (W3.setCell ⟨db, 0, none⟩ (.slice (some ⟨g, 0, none⟩) p cap))) := ⟨by
    rintro W3 rfl
    have hD2 := HD.out.below HX.out
    obtain ⟨C2, hC2, eb⟩ := hD2.blk
    obtain ⟨rest, er⟩ := hD2.row
    have oth : ∀ k, k ≠ g → (W2.drew.setRow g (cur.toList.take (i * 5) ++ cs ++ cur.toList.drop (i * 5 + cs.length)).toArray).heap[k]? = W2.heap[k]? := fun k hk => setRow_other W2.drew g k _ hk
    have sbg : sb ≠ g := Ne.symm (HD.out.apart g rfl).1
    have kdb := (oth db (Ne.symm hgdb)).trans eb
    have kg : (W2.drew.setRow g (cur.toList.take (i * 5) ++ cs ++ cur.toList.drop (i * 5 + cs.length)).toArray).heap[g]? = some (.cells (cur.toList.take (i * 5) ++ cs ++ cur.toList.drop (i * 5 + cs.length)).toArray 37 (0, 0)) := setRow_heap W2.drew g _ _ _ _ HG.out
    have hA : Apart (fun k => k = db ∨ some k = Value.ownBlock (.slice (some ⟨g, 0, none⟩) Q.length cap)) w (W2.drew.setRow g (cur.toList.take (i * 5) ++ cs ++ cur.toList.drop (i * 5 + cs.length)).toArray) := by
      refine (Apart.of_below HX.out).trans ⟨rfl, rfl, rfl, by simp, fun k _ hk => oth k (fun e => hk (.inr (by rw [e]; rfl)))⟩
    have hA2 : Apart (fun k => k = db ∨ some k = Value.ownBlock (.slice (some ⟨g, 0, none⟩) Q.length cap)) w ((W2.drew.setRow g (cur.toList.take (i * 5) ++ cs ++ cur.toList.drop (i * 5 + cs.length)).toArray).setCell ⟨db, 0, none⟩ (.slice (some ⟨g, 0, none⟩) p cap)) := hA.trans ((Apart.set _ ⟨db, 0, none⟩ _).wide (fun k _ e => .inl e))
    have ll : (Q.take i ++ Q.drop (i + 1)).length = p := by rw [List.length_append, List.length_take, List.length_drop, HP.out]; omega
    refine ⟨HK.out _, Lib.frozen_of_heap kdb 0, (oth _ (by omega)).trans HZ.out.1, (oth _ (by omega)).trans HZ.out.2, ⟨⟨C2, hC2, (set3 kdb).1⟩, ⟨rest, ?_⟩, HD.out.len, ?_, HD.out.n1, HD.out.n64, by rw [ll]; omega, HD.out.ge, HD.out.gs, HD.out.la⟩, hA2⟩
    · rw [Below.heap_setCell _ ⟨db, 0, none⟩ _ sb (Ne.symm HD.out.ne), oth sb sbg]
      exact er
    · refine Apart.own ?_ (Apart.set (W2.drew.setRow g (cur.toList.take (i * 5) ++ cs ++ cur.toList.drop (i * 5 + cs.length)).toArray) ⟨db, 0, none⟩ (.slice (some ⟨g, 0, none⟩) p cap)) (fun k hk e => hgdb ((Option.some.inj hk).trans e))
      refine ⟨by rw [rqsCs_len], .inr ⟨g, cap, _, by rw [ll], HB.out.2.2.2.1, kg, by rw [ll]; omega, HB.out.2.2.2.2, ?_, ?_⟩⟩
      · have h1 := HL.out
        have h2 := HB.out.2.1
        have h3 := Hsz.out
        simp only [List.size_toArray, List.length_append, List.length_take, List.length_drop, Array.length_toList]
        omega
      · rw [ll, HP.out]
        exact HS.out⟩
  by_cases hcap : cap = i + 1
  · obtain ⟨k, hk2⟩ : ∃ k, k = i + 1 := ⟨_, rfl⟩
    have hks : (i : Int) + 1 = (k : Int) := by omega
    have hk0 : (0 : Int) ≤ (k : Int) := by omega
    have hi8 : (i : Int) < 8 := by omega
    have hk8 : (k : Int) ≤ 8 := by omega
    have hwk : IntKind.i64.wrap (k : Int) = (k : Int) := by rw [IntKind.wrap_i64]; omega
    have hk1 : (k : Int) ≤ (Q.length : Int) := by omega
    have hk3 : (k : Int) ≤ (cap : Int) := by omega
    have hk5 : k = cap := by omega
    have hm0 : m = 0 := by have := HQ.out; omega
    have hcs0 : cs = [] := List.eq_nil_of_length_eq_zero (by rw [HL.out, hm0])
    have HC3 : Hid3 (∀ j x, cs[j]? = some x → W2.drew.cell? ((⟨g, 0, none⟩ : Addr).add j) = some x) := ⟨fun j x hj => by rw [hcs0] at hj; cases hj⟩
    subst hk5
    have hc2 : ¬ k = i := by omega
    have hc3 : ¬ k - i = 0 := by omega
    rw [← hk2] at HC2
    have HK2 : Hid3 (k = i + 1) := ⟨hk2⟩
    clear hk2 hb5 hi3 hm0 hcs0 hcap
    go_region_held3 (fun w' => w'.cell? ⟨db, 0, none⟩ = some (.slice (some ⟨g, 0, none⟩) Q.length k)) (first | exact k0 | exact HK.out _) ((refine step_copy5 (by rfl) _ _ (by rfl) g (i * 5) _ _ ⟨g, 0, none⟩ _ _ m cur _ cs (by rfl) (by rfl) (by exact HG.out) (by have := HQ.out; have := HK2.out; simp only [Nat.min_def]; split <;> omega) (by exact HL.out) (by exact HC3.out) (by exact Hsz.out) (by exact Hone.out) ?_))
    generalize hW3 : W2.drew.setRow g (cur.toList.take (i * 5) ++ cs ++ cur.toList.drop (i * 5 + cs.length)).toArray = W3
    obtain ⟨y0, yf, yz, yr, HD3, HA3⟩ := HF.out W3 hW3.symm
    have H3 : Hid3 (Dk B (W3.setCell ⟨db, 0, none⟩ (.slice (some ⟨g, 0, none⟩) p k)) db sb n S (.slice (some ⟨g, 0, none⟩) p k) last (Q.take i ++ Q.drop (i + 1)) ∧ Apart (fun k => k = db ∨ some k = Value.ownBlock (.slice (some ⟨g, 0, none⟩) Q.length k)) w (W3.setCell ⟨db, 0, none⟩ (.slice (some ⟨g, 0, none⟩) p k))) := ⟨HD3, HA3⟩
    obtain ⟨z0, z1, z2, z3, z4⟩ := b5m yz
    obtain ⟨x0, x1, x2, x3, x4⟩ := b5m yr
    have zf : ∀ j, W3.frozen? ⟨w.heap.size, j, none⟩ = false := fun j => by simp [World.frozen?, yz]
    have n1 : db ≠ w.heap.size := by omega
    have n2 : db ≠ w.heap.size + 1 := by omega
    have n3 : w.heap.size ≠ w.heap.size + 1 := by omega
    clear hW3 HF HD3 HA3 yz yr HG HC2 HL Hone HS Hsz HK HX HZ
    go_wp2
    refine bodyPost_ret (v := .tuple #[.agg #[.int .u32 r0, .bool r1, .int .i64 r2, .int .i64 r3, .int .u8 r4], .bool true]) (by simp [results, Try.results29, go_sem, *]) rfl ⟨rfl, (.slice (some ⟨g, 0, none⟩) p k), ?_⟩
    have a5 := apart_set5 (W3.setCell ⟨db, 0, none⟩ (.slice (some ⟨g, 0, none⟩) p k)) w.heap.size (.int .u32 r0) (.bool r1) (.int .i64 r2) (.int .i64 r3) (.int .u8 r4)
    have hsl := HD.out.lts
    exact ⟨H3.out.1.stay a5 n1 (by omega) (fun k hk e => by have e2 : g = k := Option.some.inj hk; omega), H3.out.2.then a5 (fun k hk e => absurd e (by omega)), rfl⟩
  · obtain ⟨k, hk2⟩ : ∃ k, k = i + 1 := ⟨_, rfl⟩
    have hks : (i : Int) + 1 = (k : Int) := by omega
    have hk0 : (0 : Int) ≤ (k : Int) := by omega
    have hi8 : (i : Int) < 8 := by omega
    have hk8 : (k : Int) ≤ 8 := by omega
    have hwk : IntKind.i64.wrap (k : Int) = (k : Int) := by rw [IntKind.wrap_i64]; omega
    have hk1 : (k : Int) ≤ (Q.length : Int) := by omega
    have hk3 : (k : Int) ≤ (cap : Int) := by omega
    have hk4 : ¬ cap - k = 0 := by omega
    have hk5 : ¬ cap = k := by omega
    have hc2 : ¬ cap = i := by omega
    have hc3 : ¬ cap - i = 0 := by omega
    rw [← hk2] at HC2
    have HK2 : Hid3 (k = i + 1) := ⟨hk2⟩
    clear hk2 hb5 hi3
    go_region_held3 (fun w' => w'.cell? ⟨db, 0, none⟩ = some (.slice (some ⟨g, 0, none⟩) Q.length cap)) (first | exact k0 | exact HK.out _) ((refine step_copy5 (by rfl) _ _ (by rfl) g (i * 5) _ _ ⟨g, k * 5, none⟩ _ _ m cur _ cs (by rfl) (by rfl) (by exact HG.out) (by have := HQ.out; have := HK2.out; simp only [Nat.min_def]; split <;> omega) (by exact HL.out) (by exact HC2.out) (by exact Hsz.out) (by exact Hone.out) ?_))
    generalize hW3 : W2.drew.setRow g (cur.toList.take (i * 5) ++ cs ++ cur.toList.drop (i * 5 + cs.length)).toArray = W3
    obtain ⟨y0, yf, yz, yr, HD3, HA3⟩ := HF.out W3 hW3.symm
    have H3 : Hid3 (Dk B (W3.setCell ⟨db, 0, none⟩ (.slice (some ⟨g, 0, none⟩) p cap)) db sb n S (.slice (some ⟨g, 0, none⟩) p cap) last (Q.take i ++ Q.drop (i + 1)) ∧ Apart (fun k => k = db ∨ some k = Value.ownBlock (.slice (some ⟨g, 0, none⟩) Q.length cap)) w (W3.setCell ⟨db, 0, none⟩ (.slice (some ⟨g, 0, none⟩) p cap))) := ⟨HD3, HA3⟩
    obtain ⟨z0, z1, z2, z3, z4⟩ := b5m yz
    obtain ⟨x0, x1, x2, x3, x4⟩ := b5m yr
    have zf : ∀ j, W3.frozen? ⟨w.heap.size, j, none⟩ = false := fun j => by simp [World.frozen?, yz]
    have n1 : db ≠ w.heap.size := by omega
    have n2 : db ≠ w.heap.size + 1 := by omega
    have n3 : w.heap.size ≠ w.heap.size + 1 := by omega
    clear hW3 HF HD3 HA3 yz yr HG HC2 HL Hone HS Hsz HK HX HZ
    go_wp2
    refine bodyPost_ret (v := .tuple #[.agg #[.int .u32 r0, .bool r1, .int .i64 r2, .int .i64 r3, .int .u8 r4], .bool true]) (by simp [results, Try.results29, go_sem, *]) rfl ⟨rfl, (.slice (some ⟨g, 0, none⟩) p cap), ?_⟩
    have a5 := apart_set5 (W3.setCell ⟨db, 0, none⟩ (.slice (some ⟨g, 0, none⟩) p cap)) w.heap.size (.int .u32 r0) (.bool r1) (.int .i64 r2) (.int .i64 r3) (.int .u8 r4)
    have hsl := HD.out.lts
    exact ⟨H3.out.1.stay a5 n1 (by omega) (fun k hk e => by have e2 : g = k := Option.some.inj hk; omega), H3.out.2.then a5 (fun k hk e => absurd e (by omega)), rfl⟩
end Go.Proofs.Ytdmahmolhdbegaa
