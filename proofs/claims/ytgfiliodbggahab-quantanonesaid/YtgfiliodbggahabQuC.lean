/- The program's vector: Give, Over, New. -/
import Derived.Test.YtgfiliodbggahabQuB
namespace Go.Proofs.Ytgfiliodbggahab
open Go.RowKit Go.Maps
set_option linter.unusedVariables false
set_option maxRecDepth 100000
set_option maxHeartbeats 1000000 in
theorem give_ok (B vb pb : Nat) (q : Qs) (e t : Fin 6) (k : Fin 8) (w : World) (h : Vec B w vb pb q) : Calls Try.prog 8 #[.pointer (some ⟨vb, 0, none⟩), .int .u8 e.1, .int .i64 k.1, .int .u8 t.1] w fun r w' => r = .returned (.int .i64 (handE e k q)) ∧ VStp B w w' vb pb (handQ e k (some t) q) := by
  have cE := there_ok vb pb q e k w h.c
  have cT := there_ok vb pb q t k w h.c
  have cH := hand_ok B vb pb q e k (some t) w h
  change Calls _ _ #[_, _, _, .agg #[.int .u8 t.1, .bool true]] _ _ at cH
  generalize handE e k q = z at *
  clear h
  by_cases hh : (e.1 : Int) < (t.1 : Int)
  · go_enter Try.func8, Try.ntmps8
    go_wp2_with fail
    refine cT.mono ?_
    rintro r W ⟨rfl, rfl⟩
    go_wp2_with fail
    refine cH.mono ?_
    rintro r W1 ⟨rfl, hS⟩
    go_wp2
    go_ret
    exact ⟨rfl, hS⟩
  · go_enter Try.func8, Try.ntmps8
    go_wp2_with fail
    refine cE.mono ?_
    rintro r W ⟨rfl, rfl⟩
    go_wp2_with fail
    refine cH.mono ?_
    rintro r W1 ⟨rfl, hS⟩
    go_wp2
    go_ret
    exact ⟨rfl, hS⟩
set_option maxHeartbeats 1000000 in
theorem give_bad (B vb pb : Nat) (q : Qs) (e k t : Int) (w : World) (h : Vec B w vb pb q) (hb : Bad e k ∨ 6 ≤ t) : Calls Try.prog 8 #[.pointer (some ⟨vb, 0, none⟩), .int .u8 e, .int .i64 k, .int .u8 t] w fun r w' => r = .returned (.int .i64 2) ∧ w' = w := by
  have cE := fun hb => there_bad vb pb q e k w h.c hb
  have cT := fun hb => there_bad vb pb q t k w h.c hb
  clear h
  by_cases hh : e < t
  · have cT := cT (by unfold Bad at *; omega)
    clear cE hb
    go_enter Try.func8, Try.ntmps8
    go_wp2_with fail
    refine cT.mono ?_
    rintro r W ⟨rfl, rfl⟩
    go_wp2
    go_ret
    exact ⟨rfl, rfl⟩
  · have cE := cE (by unfold Bad at *; omega)
    clear cT hb
    go_enter Try.func8, Try.ntmps8
    go_wp2_with fail
    refine cE.mono ?_
    rintro r W ⟨rfl, rfl⟩
    go_wp2
    go_ret
    exact ⟨rfl, rfl⟩
def overQ (e : Fin 6) (s : Nat) (q : Qs) : Qs := { q with pen := upd q.pen e (min 1000 (q.pen e + (s - 4))) }
set_option maxHeartbeats 1000000 in
theorem over_ok (B vb pb : Nat) (q : Qs) (e : Fin 6) (s : Nat) (w : World) (h : Vec B w vb pb q) (hq : q.Ok) (hs : s ≤ 1000) : Calls Try.prog 11 #[.pointer (some ⟨vb, 0, none⟩), .int .u8 e.1, .int .i64 s] w fun r w' => r = .returned (.int .i64 0) ∧ VStp B w w' vb pb (overQ e s q) := by
  have c0 := h.c.cp e
  have f0 := h.c.fv (1 + e.1)
  have hlv := h.c.lv
  have HS := fun v => (VStp.pen h e v).drew
  have HQ := hq e
  unfold overQ
  generalize hx : q.pen e = x at *
  clear h hq hx
  obtain ⟨e, he⟩ := e
  have h1 : ¬ (6 : Int) ≤ (e : Int) := by omega
  have h2 : (e : Int) < 6 := by omega
  have h3 : ¬ (s : Int) < 0 := by omega
  have h4 : ¬ (s : Int) > 1000 := by omega
  have h4' : ¬ 1000 < (s : Int) := by omega
  simp only at *
  by_cases h5 : 0 < (s : Int) - 4
  · by_cases h6 : (x : Int) + ((s : Int) - 4) < 1000
    · have e1 : min 1000 (x + (s - 4)) = x + (s - 4) := by omega
      rw [e1]
      have HS' : Hid (VStp B w (w.setCell ⟨vb, 1 + e, none⟩ (.int .i64 ((x + (s - 4) : Nat) : Int))).drew vb pb { q with pen := upd q.pen ⟨e, he⟩ (x + (s - 4)) }) := HS _
      have e2 : ((x + (s - 4) : Nat) : Int) = (x : Int) + ((s : Int) - 4) := by omega
      rw [e2] at HS'
      clear e1 e2 HS
      go_enter Try.func11, Try.ntmps11
      go_wp2
      go_region
      go_wp2
      go_ret
      exact ⟨rfl, HS'.out⟩
    · have e1 : min 1000 (x + (s - 4)) = 1000 := by omega
      rw [e1]
      have HS' : Hid (VStp B w (w.setCell ⟨vb, 1 + e, none⟩ (.int .i64 1000)).drew vb pb { q with pen := upd q.pen ⟨e, he⟩ 1000 }) := HS _
      clear e1 HS
      go_enter Try.func11, Try.ntmps11
      go_wp2
      go_region
      go_wp2
      go_ret
      exact ⟨rfl, HS'.out⟩
  · have e0 : s - 4 = 0 := by omega
    rw [e0, Nat.add_zero]
    by_cases h6 : (x : Int) < 1000
    · have e1 : min 1000 x = x := by omega
      rw [e1]
      have HS' : Hid (VStp B w (w.setCell ⟨vb, 1 + e, none⟩ (.int .i64 x)).drew vb pb { q with pen := upd q.pen ⟨e, he⟩ x }) := HS _
      clear e1 e0 HS
      go_enter Try.func11, Try.ntmps11
      go_wp2
      go_region
      go_wp2
      go_ret
      exact ⟨rfl, HS'.out⟩
    · obtain rfl : x = 1000 := by omega
      have HS' : Hid (VStp B w (w.setCell ⟨vb, 1 + e, none⟩ (.int .i64 1000)).drew vb pb { q with pen := upd q.pen ⟨e, he⟩ 1000 }) := HS _
      clear HS
      go_enter Try.func11, Try.ntmps11
      go_wp2
      go_region
      go_wp2
      go_ret
      exact ⟨rfl, HS'.out⟩
set_option maxHeartbeats 1000000 in
theorem over_bad (vb : Nat) (e s : Int) (w : World) (hb : 6 ≤ e ∨ s < 0 ∨ 1000 < s) : Calls Try.prog 11 #[.pointer (some ⟨vb, 0, none⟩), .int .u8 e, .int .i64 s] w fun r w' => r = .returned (.int .i64 2) ∧ w' = w := by
  by_cases h1 : (6 : Int) ≤ e
  · clear hb
    go_enter Try.func11, Try.ntmps11
    go_wp2
    go_ret
    exact ⟨rfl, rfl⟩
  by_cases h2 : s < 0
  · clear hb
    go_enter Try.func11, Try.ntmps11
    go_wp2
    go_ret
    exact ⟨rfl, rfl⟩
  · have h3 : 1000 < s := by omega
    clear hb
    go_enter Try.func11, Try.ntmps11
    go_wp2
    go_ret
    exact ⟨rfl, rfl⟩
theorem made8 (W : World) : (Instr.makeSlice 42 (.int .i64 8) (.int .i64 8)).run Try.prog W = .ok (.slice (some ⟨W.heap.size, 0, none⟩) 8 8) (W.alloc (.cells (plCs (fun _ => none)).toArray 47)) := by kernel_rfl
set_option maxHeartbeats 1000000 in
theorem new_any (w : World) : Calls Try.prog 17 #[] w fun r w' => r = .returned (.pointer (some ⟨w.heap.size + 1, 0, none⟩)) ∧ Vec w.heap.size w' (w.heap.size + 1) w.heap.size q0 ∧ Below w.heap.size w w' := by
  have hm := made8
  have hV : Vec w.heap.size ((w.alloc (.cells (plCs (fun _ => none)).toArray 47)).alloc (.cells (vCs w.heap.size q0).toArray 45)) (w.heap.size + 1) w.heap.size q0 := by
    refine ⟨by omega, Nat.le_refl _, ?_, (Cl.new w _ _).alloc _⟩
    have := Cl.new (w.alloc (.cells (plCs (fun _ => none)).toArray 47)) 45 (vCs w.heap.size q0)
    rw [World.size_alloc] at this
    exact this
  have hB : Below w.heap.size w ((w.alloc (.cells (plCs (fun _ => none)).toArray 47)).alloc (.cells (vCs w.heap.size q0).toArray 45)) := (below_new w _).alloc (by simp) _
  have HV : Hid (Vec w.heap.size ((w.alloc (.cells (plCs (fun _ => none)).toArray 47)).alloc (.cells #[.slice (some ⟨w.heap.size, 0, none⟩) 8 8, .int .i64 0, .int .i64 0, .int .i64 0, .int .i64 0, .int .i64 0, .int .i64 0, .int .i64 7] 45)) (w.heap.size + 1) w.heap.size q0) := hV
  have HB : Hid (Below w.heap.size w ((w.alloc (.cells (plCs (fun _ => none)).toArray 47)).alloc (.cells #[.slice (some ⟨w.heap.size, 0, none⟩) 8 8, .int .i64 0, .int .i64 0, .int .i64 0, .int .i64 0, .int .i64 0, .int .i64 0, .int .i64 7] 45))) := hB
  clear hV hB
  go_enter Try.func17, Try.ntmps17
  go_wp2
  go_ret
  exact ⟨rfl, HV.out, HB.out⟩
end Go.Proofs.Ytgfiliodbggahab
