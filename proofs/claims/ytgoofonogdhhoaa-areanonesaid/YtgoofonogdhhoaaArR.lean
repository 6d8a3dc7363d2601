/- The document's area: what is told; New, Entry, Set, Kill, Fork. -/
import Derived.Test.YtgoofonogdhhoaaArJ
namespace Go.Proofs.Ytgoofonogdhhoaa
open Go.RowKit Go.Maps
set_option linter.unusedVariables false
set_option maxRecDepth 100000
structure RrK (w : World) (b : Nat) (q : Ar) : Prop where
  cs : ∀ j v, j < 9 → q.s.vs[j]? = some v → w.cell? ⟨b, j, none⟩ = some v
  ct : ∀ k : Fin 5, w.cell? ⟨b, 10 + k.1, none⟩ = some (.int .u16 ((q.en k).getD 0))
  ch : ∀ k : Fin 5, w.cell? ⟨b, 15 + k.1, none⟩ = some (.bool (q.en k).isSome)
  cd : w.cell? ⟨b, 20, none⟩ = some (.bool (!q.al))
  ck : ∃ a cap, w.cell? ⟨b, 9, none⟩ = some (.slice a q.kp.length cap)
  f : ∀ j, w.frozen? ⟨b, j, none⟩ = false
theorem form9 {w : World} {B n : Nat} {t : TypeId} {v : Value} {xs : List Value} (h : w.ownsRow B t 9 v n xs) : ∃ a cap, v = .slice a n cap := by
  rcases h.2 with ⟨hv, h0⟩ | ⟨g, cap, cur, hv, _⟩
  · exact ⟨none, 0, by rw [h0]; exact hv⟩
  · exact ⟨_, _, hv⟩
theorem Rr.k {B : Nat} {w : World} {b : Nat} {q : Ar} (h : Rr B w b q) : RrK w b q := by
  obtain ⟨v, hc, ho⟩ := h.c
  refine ⟨fun j x hj e => (hc.cell j).trans ?_, fun k => (hc.cell _).trans (rCs_to v q k), fun k => (hc.cell _).trans (rCs_has v q k), hc.cell 20, ?_, hc.thaw⟩
  · unfold rCs
    rw [List.getElem?_append_left (by exact hj)]
    exact e
  · obtain ⟨a, cap, rfl⟩ := form9 ho
    exact ⟨a, cap, hc.cell 9⟩
set_option maxHeartbeats 1000000 in
theorem rregs_any (B b : Nat) (q : Ar) (w : World) (h : Rr B w b q) : Calls Try.prog 28 #[.pointer (some ⟨b, 0, none⟩)] w fun r w' => r = .returned q.s.V ∧ Below w.heap.size w w' := by
  have c0 := h.k.cs 0 _ (by omega) rfl
  have c1 := h.k.cs 1 _ (by omega) rfl
  have c2 := h.k.cs 2 _ (by omega) rfl
  have c3 := h.k.cs 3 _ (by omega) rfl
  have c4 := h.k.cs 4 _ (by omega) rfl
  have c5 := h.k.cs 5 _ (by omega) rfl
  have c6 := h.k.cs 6 _ (by omega) rfl
  have c7 := h.k.cs 7 _ (by omega) rfl
  have c8 := h.k.cs 8 _ (by omega) rfl
  have hl := h.lt
  clear h
  obtain ⟨al, ⟨pc, a0, a1, a2, a3, a4, a5, a6, a7⟩, kp, en⟩ := q
  simp only at *
  go_enter Try.func28, Try.ntmps28
  go_wp2
  refine bodyPost_ret (v := .agg #[.int .u16 pc, .int .u16 a0, .int .u16 a1, .int .u16 a2, .int .u16 a3, .int .u16 a4, .int .u16 a5, .int .u16 a6, .int .u16 a7]) (by simp [results, Try.results28, go_sem]) rfl ⟨rfl, below_new w _⟩
set_option maxHeartbeats 1000000 in
theorem rdepth_any (B b : Nat) (q : Ar) (w : World) (h : Rr B w b q) : Calls Try.prog 29 #[.pointer (some ⟨b, 0, none⟩)] w fun r w' => r = .returned (.int .i64 q.kp.length) ∧ w' = w := by
  obtain ⟨a, cap, c1⟩ := h.k.ck
  have hl := h.lt
  generalize q.kp.length = n at *
  clear h
  go_enter Try.func29, Try.ntmps29
  go_wp2
  go_ret
  exact ⟨rfl, rfl⟩
set_option maxHeartbeats 1000000 in
theorem ralive_any (B b : Nat) (q : Ar) (w : World) (h : Rr B w b q) : Calls Try.prog 32 #[.pointer (some ⟨b, 0, none⟩)] w fun r w' => r = .returned (.bool q.al) ∧ w' = w := by
  have c1 := h.k.cd
  have hl := h.lt
  cases hal : q.al
  all_goals (
    rw [hal] at c1
    clear h hal
    go_enter Try.func32, Try.ntmps32
    go_wp2
    go_ret
    exact ⟨rfl, rfl⟩)
set_option maxHeartbeats 1000000 in
theorem rwhere_ok (B b : Nat) (q : Ar) (k : Fin 5) (w : World) (h : Rr B w b q) : Calls Try.prog 27 #[.pointer (some ⟨b, 0, none⟩), .int .u8 k.1] w fun r w' => r = .returned (.tuple #[.int .u16 ((q.en k).getD 0), .bool (q.en k).isSome]) ∧ w' = w := by
  have c1 := h.k.ct k
  have c2 := h.k.ch k
  have hl := h.lt
  have hN : (q.en k).isSome = false → (q.en k).getD 0 = 0 := by cases q.en k <;> simp
  generalize (q.en k).getD 0 = a0 at *
  generalize (q.en k).isSome = a1 at *
  clear h
  obtain ⟨k, hk⟩ := k
  have h2 : (k : Int) < 5 := by omega
  have h3 : ¬ (5 : Int) ≤ (k : Int) := by omega
  simp only at *
  cases a1 with
  | true =>
    clear hN
    go_enter Try.func27, Try.ntmps27
    go_wp2
    go_ret2
    exact ⟨rfl, rfl⟩
  | false =>
    have hN := hN rfl
    subst hN
    go_enter Try.func27, Try.ntmps27
    go_wp2
    go_ret2
    exact ⟨rfl, rfl⟩
set_option maxHeartbeats 1000000 in
theorem rwhere_bad (b : Nat) (k : Int) (w : World) (h1 : 5 ≤ k) : Calls Try.prog 27 #[.pointer (some ⟨b, 0, none⟩), .int .u8 k] w fun r w' => r = .returned (.tuple #[.int .u16 0, .bool false]) ∧ w' = w := by
  go_enter Try.func27, Try.ntmps27
  go_wp2
  go_ret2
  exact ⟨rfl, rfl⟩
set_option maxHeartbeats 1000000 in
theorem rnew_any (s : Rg) (w : World) : Calls Try.prog 26 #[s.V] w fun r w' => r = .returned (.pointer (some ⟨w.heap.size + 1, 0, none⟩)) ∧ Rr (w.heap.size + 1) w' (w.heap.size + 1) (ar0 s) ∧ Below w.heap.size w w' := by
  obtain ⟨pc, a0, a1, a2, a3, a4, a5, a6, a7⟩ := s
  have HB := (below_new w (.cells (Rg.vs ⟨pc, a0, a1, a2, a3, a4, a5, a6, a7⟩).toArray 26)).alloc (by simp) (.cells (rCs (.slice none 0 0) (ar0 ⟨pc, a0, a1, a2, a3, a4, a5, a6, a7⟩)).toArray 74)
  have HC := Cl.new (w.alloc (.cells (Rg.vs ⟨pc, a0, a1, a2, a3, a4, a5, a6, a7⟩).toArray 26)) 74 (rCs (.slice none 0 0) (ar0 ⟨pc, a0, a1, a2, a3, a4, a5, a6, a7⟩))
  rw [World.size_alloc] at HC
  change Calls _ _ #[.agg #[.int .u16 pc, .int .u16 a0, .int .u16 a1, .int .u16 a2, .int .u16 a3, .int .u16 a4, .int .u16 a5, .int .u16 a6, .int .u16 a7]] _ _
  go_enter Try.func26, Try.ntmps26
  go_wp2
  go_ret
  exact ⟨rfl, ⟨Nat.le_refl _, ⟨_, HC, World.ownsRow_nil _ _ _ _⟩, by simp [Ar.Ok, ar0]⟩, HB⟩
theorem aggRA (w : World) : (isAgg 74).run Try.prog w = .ok true w := by
  simp [isAgg, run_underlying Try.underlying74]
theorem sizRA : (Try.prog.info? 74).map (·.size) = some 21 := by kernel_rfl
theorem own_le {w : World} {B B' e z n : Nat} {v : Value} {xs : List Value} (h : w.ownsRow B' e z v n xs) (hB : B ≤ B') : w.ownsRow B e z v n xs := by
  refine ⟨h.1, ?_⟩
  rcases h.2 with h0 | ⟨g, cap, cur, h1, h2, h3⟩
  · exact .inl h0
  · exact .inr ⟨g, cap, cur, h1, Nat.le_trans hB h2, h3⟩
theorem RStp.of {B : Nat} {w w' : World} {b : Nat} {q q' : Ar} {v : Value} (h : Rr B w b q) (hc : Cl w' b 74 (rCs v q')) (ho : w.ownsRow B 26 9 v q'.kp.length (rgsCs q'.kp)) (ap : Apart (XB b) w w') (ok : q'.Ok) : RStp B w w' b q' := by
  obtain ⟨v0, hc0, _⟩ := h.c
  exact ⟨⟨h.g, ⟨v, hc, own_stay ho ap (fun g hg e => by
    obtain ⟨cur, hg⟩ := hg
    have e : g = b := e
    subst e
    have := hc0.typ hg
    revert this
    decide)⟩, ok⟩, ap⟩
theorem RStp.ent {B : Nat} {w : World} {b : Nat} {q : Ar} (h : Rr B w b q) (k : Fin 5) (v : Int) : RStp B w ((w.setCell ⟨b, 10 + k.1, none⟩ (.int .u16 v)).setCell ⟨b, 15 + k.1, none⟩ (.bool true)) b (entQ k v q) := by
  obtain ⟨v0, hc, ho⟩ := h.c
  have := (hc.set (10 + k.1) (.int .u16 v)).set (15 + k.1) (.bool true)
  rw [rCs_eset] at this
  exact RStp.of h this ho ((Apart.at (X := XB b) w b _ _ rfl).trans (Apart.at (X := XB b) _ b _ _ rfl)) h.ok
theorem RStp.drew {B : Nat} {a b : World} {x : Nat} {q : Ar} (h : RStp B a b x q) : RStp B a b.drew x q := h.post (below_drew b)
set_option maxHeartbeats 1000000 in
theorem rentry_ok (B b : Nat) (q : Ar) (k : Fin 5) (v : Int) (w : World) (h : Rr B w b q) : Calls Try.prog 40 #[.pointer (some ⟨b, 0, none⟩), .int .u8 k.1, .int .u16 v] w fun r w' => r = .returned (.int .i64 0) ∧ RStp B w w' b (entQ k v q) := by
  have HS := (RStp.ent h k v).drew
  have c1 := h.k.ct k
  have c2 := h.k.ch k
  have f0 := h.k.f (10 + k.1)
  have f1 := h.k.f (15 + k.1)
  have hl := h.lt
  generalize (q.en k).getD 0 = a0 at *
  generalize (q.en k).isSome = a1 at *
  clear h
  obtain ⟨k, hk⟩ := k
  have h2 : (k : Int) < 5 := by omega
  have h3 : ¬ (5 : Int) ≤ (k : Int) := by omega
  simp only at *
  have HS' : Hid (RStp B w ((w.setCell ⟨b, 10 + k, none⟩ (.int .u16 v)).setCell ⟨b, 15 + k, none⟩ (.bool true)).drew b (entQ ⟨k, hk⟩ v q)) := HS
  clear HS
  go_enter Try.func40, Try.ntmps40
  go_wp2
  go_region
  go_wp2
  go_ret
  exact ⟨rfl, HS'.out⟩
set_option maxHeartbeats 1000000 in
theorem rentry_bad (b : Nat) (k v : Int) (w : World) (h1 : 5 ≤ k) : Calls Try.prog 40 #[.pointer (some ⟨b, 0, none⟩), .int .u8 k, .int .u16 v] w fun r w' => r = .returned (.int .i64 2) ∧ w' = w := by
  go_enter Try.func40, Try.ntmps40
  go_wp2
  go_ret
  exact ⟨rfl, rfl⟩
theorem rCs_s (v : Value) (q : Ar) (s : Rg) : (rCs v q).take 0 ++ s.vs ++ (rCs v q).drop 9 = rCs v { q with s := s } := rfl
set_option maxHeartbeats 1000000 in
theorem rset_any (B b : Nat) (q : Ar) (s : Rg) (w : World) (h : Rr B w b q) : Calls Try.prog 43 #[.pointer (some ⟨b, 0, none⟩), s.V] w fun r w' => r = .returned (.int .i64 (setE q)) ∧ RStp B w w' b (setQ s q) := by
  have hX := below_new w (.cells s.vs.toArray 26)
  have hC := Cl.new w 26 s.vs
  have hA := h.below hX
  have c1 := h.k.cd
  have hl0 := h.lt
  have H0 := Hid3.mk h
  unfold setE setQ
  by_cases hal : q.al = true
  · rw [if_pos hal, if_pos hal]
    have hok : ({ q with s := s } : Ar).Ok := ⟨h.ok.1, fun e' => by rw [show q.al = false from e'] at hal; cases hal⟩
    rw [hal] at c1
    obtain ⟨v0, hc, ho⟩ := hA.c
    have hl := load_box hC
    have hs := stores hc 26 0 9 s.vs sizR rfl (vs_one s) (by show 0 + 9 ≤ 21; omega)
    rw [show 0 + 9 = 9 from rfl, rCs_s] at hs
    have HS := Hid3.mk ((RStp.of (q' := { q with s := s }) hA (hc.row (rCs v0 { q with s := s })) ho (Apart.row _ b _) hok).pre hX)
    unfold Rg.V at *
    clear h hal hA hC hc ho hok
    generalize (rCs v0 { q with s := s }).toArray = D at *
    go_enter Try.func43, Try.ntmps43
    go_wp2_with (first | (refine wpList_loads rfl 26 _ rfl _ (.agg s.vs.toArray) rfl hl ?_) | (refine wpList_stores rfl 26 _ _ rfl _ (.agg s.vs.toArray) rfl rfl hs ?_))
    go_ret
    exact ⟨rfl, HS.out⟩
  · rw [if_neg hal, if_neg hal]
    have hal' : q.al = false := by cases e : q.al with | true => exact (hal e).elim | false => rfl
    rw [hal'] at c1
    clear h hA hC
    unfold Rg.V at *
    go_enter Try.func43, Try.ntmps43
    go_wp2
    go_ret
    exact ⟨rfl, RStp.same H0.out hX⟩
set_option maxHeartbeats 1000000 in
theorem rentries_any (B b : Nat) (q : Ar) (w : World) (h : Rr B w b q) : Calls Try.prog 31 #[.pointer (some ⟨b, 0, none⟩)] w fun r w' => ∃ v, r = .returned v ∧ w'.ownsRow w.heap.size 35 1 v (enL q.en 5).length ((enL q.en 5).map natK) ∧ Below w.heap.size w w' := by
  have HV : Hid (Rr B w b q) := h
  have hb := h.lt
  obtain ⟨i0, hi, hz0, hz1, hz2⟩ := info_parts infoK
  clear h
  go_enter Try.func31, Try.ntmps31
  go_wp2_with fail
  go_loopw [3, 4] (fun s5 s6 wr => ∃ k : Nat, k ≤ 5 ∧ s6 = .int .u8 k ∧ wr.ownsRow w.heap.size 35 1 s5 (enL q.en k).length ((enL q.en k).map natK) ∧ Hid (Below w.heap.size w wr)) (fun _ s _ => 6 - (intOf s).toNat)
  case atStart => exact ⟨0, Nat.zero_le _, rfl, World.ownsRow_nil _ _ _ _, Below.refl _ _⟩
  case round =>
    obtain ⟨k, hk, rfl, hown, HB⟩ := hrel
    by_cases hlt : k < 5
    · have hltz : (k : Int) < 5 := by omega
      have HN : Hid (enL q.en (k + 1) = enL q.en k ++ (if (q.en ⟨k, hlt⟩).isSome then [k] else [])) := enL_snoc q.en k hlt
      have hlen := enL_len q.en k
      have hsz := HB.out.size
      have c0 : wr.cell? ⟨b, 15 + k, none⟩ = some (.bool (q.en ⟨k, hlt⟩).isSome) := (HV.out.below HB.out).k.ch ⟨k, hlt⟩
      have hbr : b < wr.heap.size := Nat.lt_of_lt_of_le hb hsz
      generalize hx : enL q.en (k + 1) = N1 at *
      generalize enL q.en k = N0 at *
      generalize (q.en ⟨k, hlt⟩).isSome = z at *
      obtain ⟨a0, cap0, hvf⟩ : ∃ a cap, u3 = .slice a N0.length cap := by
        rcases hown.2 with ⟨hv0, hk0⟩ | ⟨g, cap, cur, hv0, _⟩
        · exact ⟨none, 0, by rw [hk0]; exact hv0⟩
        · exact ⟨_, _, hv0⟩
      subst hvf
      have HX : Hid (enL q.en (k + 1) = N1) := hx
      clear hx
      cases z with
      | true =>
        have HN2 : Hid (N1 = N0 ++ [k]) := by show N1 = _; rw [HN.out]; rfl
        clear HN
        have hownW := hown
        have HBW := HB
        have hszW := hsz
        go_wp2_with (at_builtin; refine wpList_append_own _ rfl _ _ 52 rfl w.heap.size 35 i0 (.int .u8 0) 1 1 Try.underlying52 hi hz0 hz1 hz2 rfl (by decide) _ _ _ rfl (hownW.alloc _) ⟨wr.heap.size, 0, none⟩ 1 1 [natK k] rfl rfl (cell_one_new _ _ _) (by simp [natK, Value.oneCell']) (by unfold maxLen; omega) (by omega) (by simp; omega) ?_; intro v' w1 hown' hgrow _; obtain ⟨g', cap', rfl⟩ := ownsRow_succ hown')
        go_roundw
        case rel => exact ⟨k + 1, by omega, by go_num, by rw [HX.out, HN2.out, List.length_append, List.map_append]; exact hown', (HBW.out.alloc HBW.out.size _).grown hgrow (by have := HBW.out.size; simp; omega) (fun j ej => (hownW.lt j ej).1)⟩
        case measure => simp [intOf]; omega
      | false =>
        have HN2 : Hid (N1 = N0) := by show N1 = _; rw [HN.out]; simp
        clear HN
        have hownW := hown
        have HBW := HB
        have hszW := hsz
        go_wp2
        go_roundw
        case rel => exact ⟨k + 1, by omega, by go_num, by rw [HX.out, HN2.out]; exact hownW, HBW.out⟩
        case measure => simp [intOf]; omega
    · obtain rfl : k = 5 := by omega
      go_wp2
      go_ret
      exact ⟨_, rfl, hown, HB.out⟩
set_option maxHeartbeats 1000000 in
theorem rfork_any (B b : Nat) (q : Ar) (w : World) (h : Rr B w b q) : Calls Try.prog 22 #[.pointer (some ⟨b, 0, none⟩)] w fun r w' => r = .returned (.pointer (some ⟨w.heap.size, 0, none⟩)) ∧ (∀ B', B' ≤ B → B' ≤ w.heap.size → Rr B' w' w.heap.size q) ∧ Below w.heap.size w w' := by
  obtain ⟨v0, hc, ho⟩ := h.c
  have H : Hid ((∀ B', B' ≤ B → B' ≤ w.heap.size → Rr B' (w.alloc (.cells (rCs v0 q).toArray 74)) w.heap.size q) ∧ Below w.heap.size w (w.alloc (.cells (rCs v0 q).toArray 74))) := ⟨fun B' h1 h2 => ⟨h2, ⟨v0, Cl.new w _ _, own_le (own_below ho (below_new w _)) h1⟩, h.ok⟩, below_new w _⟩
  have hl := loads hc 74 0 21 (rCs v0 q) (aggRA w) sizRA rfl rfl
  have h1 : (rCs v0 q).toArray.all (·.oneCell') = true := by
    obtain ⟨a, cap, rfl⟩ := form9 ho
    simp [rCs, Rg.vs, toCs, hasCs, Value.oneCell']
  have hi : (Try.prog.info? 74).map (·.size) = some (rCs v0 q).toArray.size := sizRA
  have hsz : (rCs v0 q).toArray.size = 21 := rfl
  generalize (rCs v0 q).toArray = C at *
  clear h hc ho
  go_enter Try.func22, Try.ntmps22
  go_wp2_with (first | (refine wpList_loads rfl 74 _ rfl _ (.agg C) rfl hl ?_) | (refine wpList_stores rfl 74 _ _ rfl _ (.agg C) rfl rfl (run_storeAt_new w 74 _ C hi (by rw [hsz]; rfl) h1) ?_))
  go_ret
  exact ⟨rfl, H.out⟩
end Go.Proofs.Ytgoofonogdhhoaa
