/- The program's area: New, Set, Kill, Fork. -/
import Derived.Test.YtgoofonogdhhoaaArD
namespace Go.Proofs.Ytgoofonogdhhoaa
open Go.RowKit Go.Maps
set_option linter.unusedVariables false
set_option maxRecDepth 100000
set_option maxHeartbeats 1000000 in
theorem living_any (B b : Nat) (q : Ar) (w : World) (h : Ac B w b q) : Calls Try.prog 38 #[.pointer (some ⟨b, 0, none⟩)] w fun r w' => r = .returned (.int .i64 (if q.al then 0 else 9)) ∧ Below w.heap.size w w' := by
  have cA := alive_any B b q w h
  generalize q.al = al at *
  clear h
  cases al with
  | true =>
    go_enter Try.func38, Try.ntmps38
    go_wp2_with fail
    refine cA.mono ?_
    rintro r W ⟨rfl, hB⟩
    go_wp2
    go_ret
    exact ⟨rfl, hB⟩
  | false =>
    go_enter Try.func38, Try.ntmps38
    go_wp2_with fail
    refine cA.mono ?_
    rintro r W ⟨rfl, hB⟩
    go_wp2
    go_ret
    exact ⟨rfl, hB⟩
set_option maxHeartbeats 1000000 in
theorem new_any (s : Rg) (w : World) : Calls Try.prog 25 #[s.V] w fun r w' => r = .returned (.pointer (some ⟨w.heap.size + 1, 0, none⟩)) ∧ Ac (w.heap.size + 1) w' (w.heap.size + 1) (ar0 s) ∧ Below w.heap.size w w' := by
  obtain ⟨pc, a0, a1, a2, a3, a4, a5, a6, a7⟩ := s
  have HB := (below_new w (.cells (Rg.vs ⟨pc, a0, a1, a2, a3, a4, a5, a6, a7⟩).toArray 26)).alloc (by simp) (.cells (aCs (ar0 ⟨pc, a0, a1, a2, a3, a4, a5, a6, a7⟩)).toArray 65)
  have HC := Cl.new (w.alloc (.cells (Rg.vs ⟨pc, a0, a1, a2, a3, a4, a5, a6, a7⟩).toArray 26)) 65 (aCs (ar0 ⟨pc, a0, a1, a2, a3, a4, a5, a6, a7⟩))
  rw [World.size_alloc] at HC
  change Calls _ _ #[.agg #[.int .u16 pc, .int .u16 a0, .int .u16 a1, .int .u16 a2, .int .u16 a3, .int .u16 a4, .int .u16 a5, .int .u16 a6, .int .u16 a7]] _ _
  go_enter Try.func25, Try.ntmps25
  go_wp2
  go_ret
  exact ⟨rfl, ⟨Nat.le_refl _, HC, by simp [Ar.Ok, ar0]⟩, HB⟩
def setE (q : Ar) : Int := if q.al then 0 else 9
def setQ (s : Rg) (q : Ar) : Ar := if q.al then { q with s := s } else q
set_option maxHeartbeats 1000000 in
theorem set_any (B b : Nat) (q : Ar) (s : Rg) (w : World) (h : Ac B w b q) : Calls Try.prog 17 #[.pointer (some ⟨b, 0, none⟩), s.V] w fun r w' => r = .returned (.int .i64 (setE q)) ∧ AStp B w w' b (setQ s q) := by
  have hX := below_new w (.cells s.vs.toArray 26)
  have hC := Cl.new w 26 s.vs
  have hA := h.below hX
  have cL := living_any B b q _ hA
  unfold setE setQ
  have hok : q.al = true → ({ q with s := s } : Ar).Ok := fun e => ⟨h.ok.1, fun e' => by rw [show q.al = false from e'] at e; cases e⟩
  have H0 : Hid3 (Ac B w b q) := ⟨h⟩
  by_cases hal : q.al = true
  · rw [if_pos hal] at cL
    rw [if_pos hal, if_pos hal]
    have hok := hok hal
    unfold Rg.V at *
    clear h hal
    go_enter Try.func17, Try.ntmps17
    go_wp2_with fail
    refine cL.mono ?_
    rintro r W ⟨rfl, hB⟩
    have hA2 := hA.below hB
    have hC2 := hC.below hB
    have HS := (AStp.row (q' := { q with s := s }) hA2 hok).pre (hX.trans (hB.mono hX.size))
    have hl := load_box hC2
    have hs := store_regs hA2 s
    unfold Rg.V at *
    clear hA hC cL hB hX hA2 hC2
    go_wp2_with (first | (refine wpList_loads rfl 26 _ rfl _ (.agg s.vs.toArray) rfl hl ?_) | (refine wpList_stores rfl 26 _ _ rfl _ (.agg s.vs.toArray) rfl rfl hs ?_))
    go_ret
    exact ⟨rfl, HS⟩
  · rw [if_neg hal] at cL
    rw [if_neg hal, if_neg hal]
    unfold Rg.V at *
    go_enter Try.func17, Try.ntmps17
    go_wp2_with fail
    refine cL.mono ?_
    rintro r W ⟨rfl, hB⟩
    go_wp2
    go_ret
    exact ⟨rfl, AStp.same H0.out (hX.trans (hB.mono hX.size))⟩
theorem store_life {B : Nat} {w : World} {b : Nat} {q : Ar} (h : Ac B w b q) : (Instr.storeAt 60 (.pointer (some ⟨b, 0, none⟩)) (.agg lz.toArray)).run Try.prog w = .ok () (w.setRow b (aCs ⟨false, rg0, [], q.en⟩).toArray) := by
  have := stores h.c 60 0 47 lz sizL rfl lz_one (by show 0 + 47 ≤ 57; omega)
  exact this
def killQ (q : Ar) : Ar := if q.al then ⟨false, rg0, [], q.en⟩ else q
set_option maxHeartbeats 1000000 in
theorem kill_any (B b : Nat) (q : Ar) (w : World) (h : Ac B w b q) : Calls Try.prog 19 #[.pointer (some ⟨b, 0, none⟩)] w fun r w' => r = .returned (.int .i64 (setE q)) ∧ AStp B w w' b (killQ q) := by
  have cL := living_any B b q w h
  unfold setE killQ
  have hok : (⟨false, rg0, [], q.en⟩ : Ar).Ok := ⟨Nat.zero_le _, fun _ => ⟨rfl, rfl⟩⟩
  have H0 : Hid3 (Ac B w b q) := ⟨h⟩
  by_cases hal : q.al = true
  · rw [if_pos hal] at cL
    rw [if_pos hal, if_pos hal]
    go_enter Try.func19, Try.ntmps19
    go_wp2_with fail
    refine cL.mono ?_
    rintro r W ⟨rfl, hB⟩
    have hA2 := h.below hB
    clear h cL
    go_wp2_with fail
    refine (ended_any W).mono ?_
    rintro r W2 ⟨rfl, hB2⟩
    have hA3 := hA2.below hB2
    have HS := (AStp.row (q' := ⟨false, rg0, [], q.en⟩) hA3 hok).pre (hB.trans (hB2.mono hB.size))
    have hs := store_life hA3
    clear hA2 hA3 hB hB2
    generalize lz.toArray = Z at *
    go_wp2_with (refine wpList_stores rfl 60 _ _ rfl _ (.agg Z) rfl rfl hs ?_)
    go_ret
    exact ⟨rfl, HS⟩
  · rw [if_neg hal] at cL
    rw [if_neg hal, if_neg hal]
    go_enter Try.func19, Try.ntmps19
    go_wp2_with fail
    refine cL.mono ?_
    rintro r W ⟨rfl, hB⟩
    go_wp2
    go_ret
    exact ⟨rfl, AStp.same H0.out hB⟩
theorem aCs_one (q : Ar) : ∀ v ∈ aCs q, v.oneCell' = true := by
  intro v hv
  have e5 : ∀ e, ∀ v ∈ entV e, v.oneCell' = true := fun e v hv => by
    simp only [entV, List.mem_cons, List.not_mem_nil, or_false] at hv
    rcases hv with h | h <;> (subst h; rfl)
  simp only [aCs, lCs, kCs, eCs, List.mem_append, List.mem_cons, List.not_mem_nil, or_false] at hv
  rcases hv with (h | h | (h | h | h | h) | h) | h | h | h | h | h
  all_goals first | (subst h; rfl) | exact vs_one _ v h | exact e5 _ v h
set_option maxHeartbeats 1000000 in
theorem fork_any (B b : Nat) (q : Ar) (w : World) (h : Ac B w b q) : Calls Try.prog 21 #[.pointer (some ⟨b, 0, none⟩)] w fun r w' => r = .returned (.pointer (some ⟨w.heap.size, 0, none⟩)) ∧ Ac w.heap.size w' w.heap.size q ∧ Below w.heap.size w w' := by
  have H : Hid (Ac w.heap.size (w.alloc (.cells (aCs q).toArray 65)) w.heap.size q ∧ Below w.heap.size w (w.alloc (.cells (aCs q).toArray 65))) := ⟨⟨Nat.le_refl _, Cl.new w _ _, h.ok⟩, below_new w _⟩
  have hl := loads h.c 65 0 57 (aCs q) (aggA w) sizA rfl rfl
  have h1 : (aCs q).toArray.all (·.oneCell') = true := by simpa using aCs_one q
  have hi : (Try.prog.info? 65).map (·.size) = some (aCs q).toArray.size := sizA
  have hsz : (aCs q).toArray.size = 57 := rfl
  generalize (aCs q).toArray = C at *
  clear h
  go_enter Try.func21, Try.ntmps21
  go_wp2_with (first | (refine wpList_loads rfl 65 _ rfl _ (.agg C) rfl hl ?_) | (refine wpList_stores rfl 65 _ _ rfl _ (.agg C) rfl rfl (run_storeAt_new w 65 _ C hi (by rw [hsz]; rfl) h1) ?_))
  go_ret
  exact ⟨rfl, H.out⟩
end Go.Proofs.Ytgoofonogdhhoaa
