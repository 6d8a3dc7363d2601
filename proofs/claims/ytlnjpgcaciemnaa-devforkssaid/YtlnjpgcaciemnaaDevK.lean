/- A disk: Cancel, Drop, Waiting, Fork. -/
import Derived.Test.YtlnjpgcaciemnaaDevJ
namespace Go.Proofs.Ytlnjpgcaciemnaa
open Go.RowKit Go.Maps
set_option linter.unusedVariables false
set_option maxRecDepth 100000
set_option maxHeartbeats 2000000 in
theorem cancelp_any (B db sb n mb N : Nat) (v : Value) (z : Sd) (f : Int) (w : World) (h : PSt B w db sb n mb N v z) (hB : B ≤ w.heap.size) : Calls Try.prog 18 #[.pointer (some ⟨db, 0, none⟩), .int .i64 f] w fun e w' => (∃ u, e = .returned u ∧ w'.ownsRow w.heap.size 43 1 u (outI (fun r => decide (r.2.2.2.1 = f)) z.Q).length (idCs (outI (fun r => decide (r.2.2.2.1 = f)) z.Q))) ∧ PStp B w w' db sb n mb N v { z with Q := outQ (fun r => decide (r.2.2.2.1 = f)) z.Q } := by
  have hX : Below w.heap.size w (w.alloc (.cells #[.int .i64 f] 3)) := (Below.refl _ w).alloc (Nat.le_refl _) _
  have cO := out_any 45 #[.pointer (some ⟨w.heap.size, 0, none⟩)] (fun r => decide (r.2.2.2.1 = f)) w.heap.size _ (cancel_pred f w.heap.size) (enters_of Try.func45 (by kernel_rfl) rfl) B db sb n mb N v z (w.alloc (.cells #[.int .i64 f] 3)) (h.below hX) (heap_alloc_new w _) (Nat.le_trans hB hX.size)
  have HX := Hid3.mk hX
  have hdl := h.d.lt
  have HP := Hid3.mk h
  clear h hX
  generalize (fun r : Rq => decide (r.2.2.2.1 = f)) = p at *
  go_enter Try.func18, Try.ntmps18
  go_wp2_with fail
  refine cO.mono ?_
  rintro e W1 ⟨⟨u, rfl, hu⟩, hS⟩
  clear cO
  have HU : Hid3 (W1.ownsRow w.heap.size 43 1 u (outI p z.Q).length (idCs (outI p z.Q))) := ⟨by
    refine ⟨hu.1, ?_⟩
    rcases hu.2 with h0 | ⟨g, cap, cur, a1, a2, a3⟩
    · exact .inl h0
    · rw [World.size_alloc] at a2
      exact .inr ⟨g, cap, cur, a1, by omega, a3⟩⟩
  have HS : Hid3 (PStp B w W1 db sb n mb N v { z with Q := outQ p z.Q }) := ⟨by
    obtain ⟨v', q1, q2, q3⟩ := hS
    exact ⟨v', q1, (Apart.of_below HX.out).trans q2, fun g hg => (q3 g hg).imp id (fun e => Nat.le_trans HX.out.size e)⟩⟩
  clear hu hS
  go_wp2
  go_ret
  exact ⟨⟨_, rfl, HU.out⟩, HS.out⟩
set_option maxHeartbeats 2000000 in
theorem dropp_any (B db sb n mb N : Nat) (v : Value) (z : Sd) (f : Int) (w : World) (h : PSt B w db sb n mb N v z) (hB : B ≤ w.heap.size) : Calls Try.prog 14 #[.pointer (some ⟨db, 0, none⟩), .int .u8 f] w fun e w' => (∃ u, e = .returned u ∧ w'.ownsRow w.heap.size 43 1 u (outI (fun r => decide (r.2.2.2.2 = f)) z.Q).length (idCs (outI (fun r => decide (r.2.2.2.2 = f)) z.Q))) ∧ PStp B w w' db sb n mb N v { z with Q := outQ (fun r => decide (r.2.2.2.2 = f)) z.Q } := by
  have hX : Below w.heap.size w (w.alloc (.cells #[.int .u8 f] 5)) := (Below.refl _ w).alloc (Nat.le_refl _) _
  have cO := out_any 39 #[.pointer (some ⟨w.heap.size, 0, none⟩)] (fun r => decide (r.2.2.2.2 = f)) w.heap.size _ (drop_pred f w.heap.size) (enters_of Try.func39 (by kernel_rfl) rfl) B db sb n mb N v z (w.alloc (.cells #[.int .u8 f] 5)) (h.below hX) (heap_alloc_new w _) (Nat.le_trans hB hX.size)
  have HX := Hid3.mk hX
  have hdl := h.d.lt
  have HP := Hid3.mk h
  clear h hX
  generalize (fun r : Rq => decide (r.2.2.2.2 = f)) = p at *
  go_enter Try.func14, Try.ntmps14
  go_wp2_with fail
  refine cO.mono ?_
  rintro e W1 ⟨⟨u, rfl, hu⟩, hS⟩
  clear cO
  have HU : Hid3 (W1.ownsRow w.heap.size 43 1 u (outI p z.Q).length (idCs (outI p z.Q))) := ⟨by
    refine ⟨hu.1, ?_⟩
    rcases hu.2 with h0 | ⟨g, cap, cur, a1, a2, a3⟩
    · exact .inl h0
    · rw [World.size_alloc] at a2
      exact .inr ⟨g, cap, cur, a1, by omega, a3⟩⟩
  have HS : Hid3 (PStp B w W1 db sb n mb N v { z with Q := outQ p z.Q }) := ⟨by
    obtain ⟨v', q1, q2, q3⟩ := hS
    exact ⟨v', q1, (Apart.of_below HX.out).trans q2, fun g hg => (q3 g hg).imp id (fun e => Nat.le_trans HX.out.size e)⟩⟩
  clear hu hS
  go_wp2
  go_ret
  exact ⟨⟨_, rfl, HU.out⟩, HS.out⟩
theorem madeR_any (n : Nat) (hn : n ≤ 8) (W : World) : ∃ Z : Array Value, Z.size = n * 5 ∧ (Instr.makeSlice 39 (.int .i64 n) (.int .i64 n)).run Try.prog W = .ok (.slice (some ⟨W.heap.size, 0, none⟩) n n) (W.alloc (.cells Z 45)) := by
  obtain ⟨i, hi, hz, hs, hb⟩ := info_parts infoR
  refine ⟨madeCells (Value.agg #[.int .u32 0, .bool false, .int .i64 0, .int .i64 0, .int .u8 0]).cells (n * 5), ?_, ?_⟩
  · simp [madeCells]
  · rw [run_make W 39 45 i _ Try.underlying39 hi hz .i64 .i64 n n (by omega) (Int.le_refl _) (by rw [hb]; omega) (by omega), hs]
    simp only [Int.toNat_natCast]
theorem run_copy5_none (w : World) (ty : TypeId) (dp : Option Addr) (dCap : Nat) : (Builtin.copy_ #[39, 39] ty #[.slice dp 0 dCap, .slice none 0 0]).run Try.prog w = .ok (goInt 0) w := by
  obtain ⟨i, hi, _, hs, _⟩ := info_parts infoR
  cases dp <;> simp [Builtin.copy_, run_underlying Try.underlying39, Builtin.lenOf, Builtin.firstCells, sizeOf, typeInfo, hi, storeCells, Result.andThen]
theorem wpList_copy5 {w : World} {ops : Array Oper} {rest0 : List Oper} {o : Oper} {a : Act} {Q0 : Exit → Act → World → Prop} (hgd : o.guard = none) (d s : Operand)
    (ho : o.op = .call { callee := .builtin .copy, args := #[d, s], argTypes := #[39, 39] })
    (g off dLen dCap : Nat) (ad : Addr) (sLen sCap n : Nat) (cur : Array Value) (t : TypeId) (cs : List Value) (hd : a.eval d = .slice (some ⟨g, off, none⟩) dLen dCap) (hs : a.eval s = .slice (some ad) sLen sCap)
    (hg : w.heap[g]? = some (.cells cur t (0, 0))) (hn : n = Nat.min sLen dLen) (hcs : cs.length = n * 5)
    (hsrc : ∀ j v, cs[j]? = some v → w.cell? (ad.add j) = some v) (hfit : off + cs.length ≤ cur.size) (h1 : ∀ v ∈ cs, v.oneCell' = true)
    (h : wpList Try.prog ops Q0 rest0 (a.put o.dst (goInt n)) (w.setRow g (cur.toList.take off ++ cs ++ cur.toList.drop (off + cs.length)).toArray)) : wpList Try.prog ops Q0 (o :: rest0) a w := by
  refine wpList_plain hgd fun K hK => ?_
  have hr := run_copy5 w o.type g off dLen dCap ad sLen sCap n cur t cs hg hn hcs hsrc hfit h1
  unfold Oper.wp execOp
  simp only [ho, resolve, invoke, builtin, Sem.run_bind, Sem.run_pure, Result.andThen_ok, List.map_toArray, List.map_cons, List.map_nil, hd, hs, hr]
  exact hK _ _ h
theorem wpList_copy5_none {w : World} {ops : Array Oper} {rest0 : List Oper} {o : Oper} {a : Act} {Q0 : Exit → Act → World → Prop} (hgd : o.guard = none) (d s : Operand)
    (ho : o.op = .call { callee := .builtin .copy, args := #[d, s], argTypes := #[39, 39] })
    (dp : Option Addr) (dCap : Nat) (hd : a.eval d = .slice dp 0 dCap) (hs : a.eval s = .slice none 0 0)
    (h : wpList Try.prog ops Q0 rest0 (a.put o.dst (goInt 0)) w) : wpList Try.prog ops Q0 (o :: rest0) a w := by
  refine wpList_plain hgd fun K hK => ?_
  have hr := run_copy5_none w o.type dp dCap
  unfold Oper.wp execOp
  simp only [ho, resolve, invoke, builtin, Sem.run_bind, Sem.run_pure, Result.andThen_ok, List.map_toArray, List.map_cons, List.map_nil, hd, hs, hr]
  exact hK _ _ h
set_option maxHeartbeats 2000000 in
theorem requests_any (B db sb n : Nat) (S : List Int) (v : Value) (last : Int) (Q : List Rq) (w : World) (h : Dk B w db sb n S v last Q) : Calls Try.prog 37 #[.pointer (some ⟨db, 0, none⟩)] w fun e w' => (∃ u, e = .returned u ∧ w'.ownsRow w.heap.size 45 5 u Q.length (rqsCs Q)) ∧ Below w.heap.size w w' := by
  obtain ⟨C, hC, c0, c1, c2⟩ := h.c
  have hlt := h.lt
  have hfew := h.few
  obtain ⟨Z, hZ, hmk⟩ := madeR_any Q.length hfew w
  have hX : Below w.heap.size w (w.alloc (.cells Z 45)) := (Below.refl _ w).alloc (Nat.le_refl _) _
  have hne : db ≠ w.heap.size := by omega
  have HX := Hid3.mk hX
  rcases h.own.2 with ⟨rfl, h0⟩ | ⟨g, cap, cur, rfl, hg, hblk, hk, hmx, hsz, htk⟩
  · obtain rfl : Q = [] := List.eq_nil_of_length_eq_zero h0
    simp only [List.length_nil] at *
    have hmk0 : (Instr.makeSlice 39 (.int .i64 0) (.int .i64 0)).run Try.prog w = .ok (.slice (some ⟨w.heap.size, 0, none⟩) 0 0) (w.alloc (.cells Z 45)) := hmk
    have HU : Hid3 ((w.alloc (.cells Z 45)).ownsRow w.heap.size 45 5 (.slice (some ⟨w.heap.size, 0, none⟩) 0 0) 0 (rqsCs [])) := ⟨⟨rfl, .inr ⟨w.heap.size, 0, Z, rfl, Nat.le_refl _, heap_alloc_last w _, Nat.le_refl _, by unfold maxLen; omega, by rw [hZ], rfl⟩⟩⟩
    clear h hX hmk h0
    go_enter Try.func37, Try.ntmps37
    go_wp2_with (refine wpList_copy5_none rfl _ _ rfl _ _ rfl rfl ?_)
    go_ret
    exact ⟨⟨_, rfl, HU.out⟩, HX.out⟩
  · have hgl : g < w.heap.size := (Array.getElem?_eq_some_iff.1 hblk).1
    have hcl : Hid3 (∀ j x, (rqsCs Q)[j]? = some x → (w.alloc (.cells Z 45)).cell? ((⟨g, 0, none⟩ : Addr).add j) = some x) := ⟨fun j x hj => by
      rw [Addr.add_mid, Nat.zero_add]
      refine (hX.cell (p := ⟨g, j, none⟩) hgl).trans ?_
      rw [cell_of_row w g j _ _ _ hblk]
      have hj2 : j < Q.length * 5 := by have := (List.getElem?_eq_some_iff.1 hj).1; rw [rqsCs_len] at this; exact this
      rw [← htk, List.getElem?_take, if_pos hj2] at hj
      simpa using hj⟩
    have hb : Hid3 ((w.alloc (.cells Z 45)).heap[w.heap.size]? = some (.cells Z 45 (0, 0))) := ⟨heap_alloc_last w _⟩
    have hlen := Hid3.mk (rqsCs_len Q)
    have hone := Hid3.mk (rqsCs_one Q)
    have HZ := Hid3.mk hZ
    have HF : Hid3 (∀ W2, W2 = (w.alloc (.cells Z 45)).setRow w.heap.size (Z.toList.take 0 ++ rqsCs Q ++ Z.toList.drop (0 + (rqsCs Q).length)).toArray → W2.ownsRow w.heap.size 45 5 (.slice (some ⟨w.heap.size, 0, none⟩) Q.length Q.length) Q.length (rqsCs Q) ∧ Below w.heap.size w W2) := ⟨by
      rintro W2 rfl
      have hd : Z.toList.drop (0 + (rqsCs Q).length) = [] := by rw [List.drop_eq_nil_iff, Array.length_toList, hZ, rqsCs_len]; omega
      have e0 : Z.toList.take 0 ++ rqsCs Q ++ Z.toList.drop (0 + (rqsCs Q).length) = rqsCs Q := by rw [hd, List.take_zero, List.nil_append, List.append_nil]
      rw [e0]
      refine ⟨⟨rqsCs_len Q, .inr ⟨w.heap.size, Q.length, _, rfl, Nat.le_refl _, setRow_heap _ _ _ _ _ _ hb.out, Nat.le_refl _, by unfold maxLen; omega, by simp [rqsCs_len], by rw [List.take_of_length_le (by rw [rqsCs_len]; exact Nat.le_refl _)]⟩⟩, hX.trans ⟨rfl, rfl, rfl, by simp, fun k hk => setRow_other _ w.heap.size k _ (by omega)⟩⟩⟩
    have hsrc0 := HZ
    clear h hX hblk hsz htk hZ
    generalize rqsCs Q = cs at *
    go_enter Try.func37, Try.ntmps37
    go_wp2_with (refine wpList_copy5 rfl _ _ rfl w.heap.size 0 Q.length Q.length ⟨g, 0, none⟩ Q.length cap Q.length Z _ cs rfl rfl hb.out (by simp) hlen.out hcl.out (by have := HZ.out; have := hlen.out; omega) hone.out ?_; generalize hW : World.setRow _ _ _ = W2; have HW := Hid3.mk (HF.out W2 hW.symm); clear hW)
    go_ret
    exact ⟨⟨_, rfl, HW.out.1⟩, HW.out.2⟩
set_option maxHeartbeats 1000000 in
theorem waiting_any (B db sb n : Nat) (S : List Int) (v : Value) (last : Int) (Q : List Rq) (w : World) (h : Dk B w db sb n S v last Q) : Calls Try.prog 13 #[.pointer (some ⟨db, 0, none⟩)] w fun e w' => (∃ u, e = .returned u ∧ w'.ownsRow w.heap.size 45 5 u Q.length (rqsCs Q)) ∧ Below w.heap.size w w' := by
  have c1 := requests_any B db sb n S v last Q w h
  have hlt := h.lt
  clear h
  generalize rqsCs Q = cs at *
  generalize Q.length = k at *
  go_enter Try.func13, Try.ntmps13
  go_wp2_with fail
  refine c1.mono ?_
  rintro e W1 ⟨⟨u, rfl, hu⟩, hB⟩
  have HU := Hid3.mk hu
  clear c1 hu
  go_wp2
  go_ret
  exact ⟨⟨_, rfl, HU.out⟩, hB⟩
end Go.Proofs.Ytlnjpgcaciemnaa
