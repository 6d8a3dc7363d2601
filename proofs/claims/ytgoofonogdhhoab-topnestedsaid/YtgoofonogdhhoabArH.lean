/- The program's area: Return; what stands against an upcall; what is put off. -/
import Derived.Test.YtgoofonogdhhoabArG
import Derived.Defers
namespace Go.Proofs.Ytgoofonogdhhoab
open Go.RowKit Go.Maps
set_option linter.unusedVariables false
set_option maxRecDepth 100000
set_option maxHeartbeats 1000000 in
theorem ret_none (B b : Nat) (q : Ar) (w : World) (h : Ac B w b q) (hk : q.kp = []) : Calls Try.prog 9 #[.pointer (some ⟨b, 0, none⟩)] w fun r w' => r = .returned (.int .i64 9) ∧ Below w.heap.size w w' := by
  have cL := living_any B b q w h
  have HA := Hid3.mk h
  by_cases hal : q.al = true
  · rw [if_pos hal] at cL
    clear h
    go_enter Try.func9, Try.ntmps9
    go_wp2_with fail
    refine cL.mono ?_
    rintro r W ⟨rfl, hB⟩
    have hA2 := HA.out.below hB
    have c1 : W.cell? ⟨b, 46, none⟩ = some (.int .i64 0) := by have := hA2.k.cd; rw [hk] at this; exact this
    have hl := hA2.lt
    clear hA2 cL
    go_wp2
    go_ret
    exact ⟨rfl, hB⟩
  · rw [if_neg hal] at cL
    clear h
    go_enter Try.func9, Try.ntmps9
    go_wp2_with fail
    refine cL.mono ?_
    rintro r W ⟨rfl, hB⟩
    go_wp2
    go_ret
    exact ⟨rfl, hB⟩
def popQ (r : List Rg) (t : Rg) (q : Ar) : Ar := { q with kp := r, s := t }
set_option maxHeartbeats 1000000 in
theorem ret_some (B b : Nat) (q : Ar) (r : List Rg) (t : Rg) (w : World) (h : Ac B w b q) (hk : q.kp = r ++ [t]) : Calls Try.prog 9 #[.pointer (some ⟨b, 0, none⟩)] w fun e w' => e = .returned (.int .i64 0) ∧ AStp B w w' b (popQ r t q) := by
  have cL := living_any B b q w h
  have HA := Hid3.mk h
  have hal : q.al = true := by
    cases e : q.al with
    | true => rfl
    | false =>
      have := (h.ok.2 e).2
      rw [hk] at this
      cases r <;> cases this
  rw [if_pos hal] at cL
  have hr4 : r.length < 4 := by have := h.ok.1; rw [hk] at this; simp at this; omega
  have hok : (popQ r t q).Ok := ⟨by show r.length ≤ 4; omega, fun e => by rw [show q.al = false from e] at hal; cases hal⟩
  clear h hal
  go_enter Try.func9, Try.ntmps9
  go_wp2_with fail
  refine cL.mono ?_
  rintro e W ⟨rfl, hB⟩
  have hA2 := HA.out.below hB
  have c1 : W.cell? ⟨b, 46, none⟩ = some (.int .i64 (r.length + 1)) := by have := hA2.k.cd; rw [hk] at this; simpa using this
  have hl := hA2.lt
  have hz : ¬ ((r.length : Int) + 1 = 0) := by omega
  have cT := last_any B b q r t W hA2 hk
  clear hA2 cL
  go_wp2_with fail
  refine cT.mono ?_
  rintro e W2 ⟨rfl, hS⟩
  have HS := (AStp.row (q' := popQ r t q) hS.a hok)
  have HS2 := Hid3.mk ((AStp.pre hB hS).trans HS)
  have hs := store_regs hS.a t
  change (Instr.storeAt 26 _ t.V).run _ _ = .ok () (W2.setRow b (aCs (popQ r t q)).toArray) at hs
  clear hS HS cT c1 hB
  unfold Rg.V at *
  generalize t.vs.toArray = R at *
  go_wp2_with (refine wpList_stores rfl 26 _ _ rfl _ (.agg R) rfl rfl hs ?_)
  go_ret
  exact ⟨rfl, HS2.out⟩
def readyE (k : Fin 5) (q : Ar) : Int := if q.al then (if (q.en k).isSome then (if q.kp.length = 4 then 4 else 0) else 5) else 9
set_option maxHeartbeats 2000000 in
theorem ready_ok (B b : Nat) (q : Ar) (k : Fin 5) (w : World) (h : Ac B w b q) : Calls Try.prog 11 #[.pointer (some ⟨b, 0, none⟩), .int .u8 k.1] w fun r w' => r = .returned (.int .i64 (readyE k q)) ∧ Below w.heap.size w w' := by
  have cT := there_ok b k w
  have cL := living_any B b q w h
  have HA := Hid3.mk h
  have HC : Hid3 (∀ W, Below w.heap.size w W → W.cell? ⟨b, 47 + k.1 * 2 + 1, none⟩ = some (.bool (q.en k).isSome) ∧ W.cell? ⟨b, 46, none⟩ = some (.int .i64 q.kp.length)) := ⟨fun W hB => ⟨(h.below hB).k.ch k, (h.below hB).k.cd⟩⟩
  have hl := h.lt
  unfold readyE
  generalize (q.en k).isSome = z at *
  obtain ⟨k, hk⟩ := k
  have h2 : (k : Int) < 5 := by omega
  simp only at *
  by_cases hal : q.al = true
  · rw [if_pos hal] at cL
    rw [if_pos hal]
    clear h hal
    by_cases h4 : q.kp.length = 4
    · rw [if_pos h4]
      have h4' : (q.kp.length : Int) = 4 := by omega
      rw [h4'] at HC
      clear h4 h4'
      cases z
      all_goals (
        go_enter Try.func11, Try.ntmps11
        go_wp2_with fail
        refine cT.mono ?_
        rintro r W ⟨rfl, rfl⟩
        go_wp2_with fail
        refine cL.mono ?_
        rintro r W2 ⟨rfl, hB⟩
        obtain ⟨c1, c2⟩ := HC.out W2 hB
        have hl2 := Nat.lt_of_lt_of_le hl hB.size
        go_wp2
        go_ret
        exact ⟨rfl, hB⟩)
    · rw [if_neg h4]
      have h4' : ¬ ((q.kp.length : Int) = 4) := by omega
      generalize ((q.kp.length : Nat) : Int) = n at *
      clear h4
      cases z
      all_goals (
        go_enter Try.func11, Try.ntmps11
        go_wp2_with fail
        refine cT.mono ?_
        rintro r W ⟨rfl, rfl⟩
        go_wp2_with fail
        refine cL.mono ?_
        rintro r W2 ⟨rfl, hB⟩
        obtain ⟨c1, c2⟩ := HC.out W2 hB
        have hl2 := Nat.lt_of_lt_of_le hl hB.size
        go_wp2
        go_ret
        exact ⟨rfl, hB⟩)
  · rw [if_neg hal] at cL
    rw [if_neg hal]
    clear h hal
    go_enter Try.func11, Try.ntmps11
    go_wp2_with fail
    refine cT.mono ?_
    rintro r W ⟨rfl, rfl⟩
    go_wp2_with fail
    refine cL.mono ?_
    rintro r W2 ⟨rfl, hB⟩
    go_wp2
    go_ret
    exact ⟨rfl, hB⟩
set_option maxHeartbeats 1000000 in
theorem ready_bad (b : Nat) (k : Int) (w : World) (h1 : 5 ≤ k) : Calls Try.prog 11 #[.pointer (some ⟨b, 0, none⟩), .int .u8 k] w fun r w' => r = .returned (.int .i64 2) ∧ w' = w := by
  have cT := there_bad b k w h1
  go_enter Try.func11, Try.ntmps11
  go_wp2_with fail
  refine cT.mono ?_
  rintro r W ⟨rfl, rfl⟩
  go_wp2
  go_ret
  exact ⟨rfl, rfl⟩
set_option maxHeartbeats 1000000 in
theorem put_off (B b p x : Nat) (q : Ar) (s : Rg) (u : FrameMode) (w : World) (h : Ac B w b q) (h4 : q.kp.length < 4) (hal : q.al = true) (hp : w.cell? ⟨p, 0, none⟩ = some (.pointer (some ⟨b, 0, none⟩))) (hx : Cl w x 26 s.vs) :
    CallsD Try.prog 12 #[.pointer (some ⟨p, 0, none⟩), .pointer (some ⟨x, 0, none⟩)] u w fun e u' w' => u' = u ∧ (e = .returned (.tuple #[]) ∧ AStp B w w' b (keepQ s q)) := by
  have hl := Hid3.mk (load_box hx.drew)
  have cK := keep_any B b q s w.drew (h.below (below_drew w)) h4 hal
  have hb := h.lt
  have hpl := World.block_lt_of_cell? w _ hp
  have hxl := hx.lt
  have HP := Hid3.mk (below_drew w)
  clear h hx h4 hal
  unfold Rg.V at *
  generalize s.vs.toArray = R at *
  go_enter_d Try.func12, Try.ntmps12
  refine still_tail 4 (by kernel_rfl) (by kernel_rfl) ?_
  simp only [List.take_succ_cons, List.take_zero, List.drop_succ_cons, List.drop_zero]
  repeat (first | (refine wpStill_loads (by rfl) 26 _ rfl _ (.agg R) rfl hl.out ?_) | still_step)
  refine wpStill_nil ?_
  go_wp2_with fail
  refine cK.mono ?_
  rintro e W ⟨rfl, hS⟩
  go_wp2
  go_end0
  exact ⟨rfl, AStp.pre HP.out hS⟩
end Go.Proofs.Ytgoofonogdhhoab
