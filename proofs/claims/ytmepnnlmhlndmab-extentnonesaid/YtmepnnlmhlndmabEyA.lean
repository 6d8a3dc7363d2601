/- A list with the same, in links of its own. A new table; another one with the same; what Room refuses. -/
import Derived.Test.YtmepnnlmhlndmabExY
import Derived.Test.YtmepnnlmhlndmabExT
import Derived.Deep.RegionHeld3
namespace Go.Proofs.Ytmepnnlmhlndmab
open Go.RowKit Go.Shelf Go.Maps
set_option linter.unusedVariables false
set_option maxRecDepth 100000
attribute [local go_sem] Oper.semAt_some
theorem Lks.kept {W W' : World} {row : Option Nat} (hg : W.grownBy W' row) (hr : ∀ r, row = some r → ∃ o : Obj, W.heap[r]? = some o ∧ o.isCells = false) : ∀ {ns : List Ln}, Lks W ns → Lks W' ns
  | [], _ => trivial
  | _ :: _, h => ⟨h.1.kept hg hr, Lks.kept hg hr h.2⟩
theorem Cl.putD {W : World} {b D : Nat} {t : TypeId} {c : List Value} {o : Obj} {x : Option (List Deferred)} (h : Cl W b t c) (hD : W.heap[D]? = some (.deferred x)) : Cl (W.putObj D o) b t c := by
  have hne : b ≠ D := fun e => by
    rw [← e] at hD
    have := h.symm.trans hD
    injection this with this
    cases this
  exact (World.putObj_heap_other hne).trans h
theorem Lks.putD {W : World} {D : Nat} {o : Obj} {x : Option (List Deferred)} (hD : W.heap[D]? = some (.deferred x)) : ∀ {ns : List Ln}, Lks W ns → Lks (W.putObj D o) ns
  | [], _ => trivial
  | _ :: _, h => ⟨h.1.putD hD, Lks.putD hD h.2⟩
/-- A list that is being copied. -/
structure Nw (w V : World) (A B : Nat) (pre : List Ex) : Prop where
  ex : ∃ P b y, Lks V (P ++ [(b, y)]) ∧ (P ++ [(b, y)]).map Prod.snd = zEx :: pre ∧ ((P ++ [(b, y)]).map Prod.fst).Nodup ∧ (∀ p ∈ P ++ [(b, y)], w.heap.size ≤ p.1 ∧ p.1 ≠ B) ∧ (P ++ [(b, y)]).head?.map Prod.fst = some A ∧ Boxed V B 54 (.pointer (some ⟨b, 0, none⟩))
  bl : Below w.heap.size w V
theorem Nw.own {w : World} {A B n : Nat} (hn : w.heap.size ≤ n) : OwnFrom n (fun (pre : List Ex) V => Nw w V A B pre) := fun s V V' row hs hg hr => by
  obtain ⟨P, b, y, h1, h2, h3, h4, h5, h6⟩ := hs.ex
  exact ⟨⟨P, b, y, h1.kept hg (fun r e => (hr r e).2), h2, h3, h4, h5, Cl.kept h6 hg (fun r e => (hr r e).2)⟩, hs.bl.trans ((Below.refl _ V).grown hg hs.bl.size (fun k e => Nat.le_trans hn (hr k e).1))⟩
set_option maxHeartbeats 2000000 in
theorem another_in (n : Nat) (hn : 8 ≤ n) (n₀ hb : Nat) (ns : List Ln) (w : World) (h : Lst n₀ w hb ns) (hn0 : n₀ ≤ w.heap.size) :
    CallsIn Fence.wide n Try.prog 34 #[.pointer (some ⟨hb, 0, none⟩)] w fun e W' => e = .returned (.pointer (some ⟨w.heap.size, 0, none⟩)) ∧ Below w.heap.size w W' ∧
      ∃ q, Lks W' ((w.heap.size, zEx) :: q) ∧ q.map Prod.snd = ns.map Prod.snd ∧ (((w.heap.size, zEx) :: q).map Prod.fst).Nodup ∧ ∀ p ∈ (w.heap.size, zEx) :: q, w.heap.size ≤ p.1 := by
  have hro : Fence.wide.round = none := rfl
  have cG := fun w => all_in (n - 1) hb w
  have hc := h.k.c
  have g0 := hc.c0
  have g1 := hc.c1
  have g2 := hc.c2
  have g3 := hc.c3
  have g4 := hc.c4
  have g5 := hc.c5
  have b1 := Cl.new w 63 (lkCs zEx [])
  have b2 := Boxed.new (w.alloc (.cells (lkCs zEx []).toArray 63)) 54 (.pointer (some ⟨w.heap.size, 0, none⟩))
  have b3 := Boxed.new ((w.alloc (.cells (lkCs zEx []).toArray 63)).alloc (.cells #[.pointer (some ⟨w.heap.size, 0, none⟩)] 54)) 54 (.pointer (some ⟨hb, 0, none⟩))
  have hB0 : Below w.heap.size w (((w.alloc (.cells (lkCs zEx []).toArray 63)).alloc (.cells #[.pointer (some ⟨w.heap.size, 0, none⟩)] 54)).alloc (.cells #[.pointer (some ⟨hb, 0, none⟩)] 54)) := (((Below.refl _ w).alloc (Nat.le_refl _) _).alloc (by simp) _).alloc (by simp; omega) _
  have b1' := (b1.alloc (.cells #[.pointer (some ⟨w.heap.size, 0, none⟩)] 54)).alloc (.cells #[.pointer (some ⟨hb, 0, none⟩)] 54)
  have b2' := b2.alloc (.cells #[.pointer (some ⟨hb, 0, none⟩)] 54)
  have hz : (((w.alloc (.cells (lkCs zEx []).toArray 63)).alloc (.cells #[.pointer (some ⟨w.heap.size, 0, none⟩)] 54)).alloc (.cells #[.pointer (some ⟨hb, 0, none⟩)] 54)).heap.size = w.heap.size + 3 := by simp
  rw [show (lkCs zEx []).toArray = #[.int .u32 zEx.id, .int .i64 zEx.st, .int .i64 zEx.ln, .int .u8 zEx.ow, .string zEx.nm, .int .u8 zEx.rt.toNat, .pointer none] from rfl] at b1' b2' b3 hB0 hz
  simp only [World.size_alloc] at b2' b3
  clear b1 b2 hc
  refine callsIn_of_wp_marks Try.func34 rfl trivial ?_ rfl
  simp only [Try.ntmps34, List.size_toArray, List.length_cons, List.length_nil, Nat.reduceAdd, Nat.reduceSub, Array.replicate_succ, Array.replicate_zero, List.push_toArray, List.append_toArray, List.nil_append, List.cons_append]
  gi_wp2_with (refine ⟨trivial, fun _ => by omega, ?_⟩; refine (cG _).mono ?_; rintro e w' ⟨rfl, rfl⟩)
  generalize (((w.alloc (.cells #[.int .u32 zEx.id, .int .i64 zEx.st, .int .i64 zEx.ln, .int .u8 zEx.ow, .string zEx.nm, .int .u8 zEx.rt.toNat, .pointer none] 63)).alloc (.cells #[.pointer (some ⟨w.heap.size, 0, none⟩)] 54)).alloc (.cells #[.pointer (some ⟨hb, 0, none⟩)] 54)) = W0 at *
  have hL0 : Lst n₀ W0 hb ns := h.below hB0
  refine wpIn_rangeFunc_ownH hro (by omega) (gf := 45) (lb := #[.pointer (some ⟨w.heap.size + 1 + 1, 0, none⟩)]) rfl trivial (enters_of Try.func45 (by kernel_rfl) rfl)
    (all_stops (n - 1) (by omega) n₀ (w.heap.size + 1 + 1) hb ns W0 b3.cell hL0) belowK_t (belowK_b (by omega)) (Below.refl _ _) (fun _ => rfl)
    (fun (pre : List Ex) V => Nw w V w.heap.size (w.heap.size + 1) pre)
    (fun _ _ _ => False) (Nw.own (by omega)) (fun c => Own.from (fun _ _ _ _ h _ _ => h) _)
    ⟨⟨[], w.heap.size, zEx, ⟨b1', trivial⟩, rfl, by simp, by simp, rfl, b2'⟩, hB0⟩
    (fun x a' V => ∃ D, Cl V D 33 (exCs x) ∧ ∃ v6 v7 v8 v9 v10 v11 v12 v13 v14, a' = { tmps := #[.pointer (some ⟨hb, 0, none⟩), undef, .pointer none, .pointer (some ⟨w.heap.size, 0, none⟩), .pointer (some ⟨w.heap.size + 1, 0, none⟩), .pointer (some ⟨D, 0, none⟩), v6, v7, v8, v9, v10, v11, v12, v13, v14, exV x, undef, undef, undef, undef, undef, undef, undef, undef], defers := [] })
    ?hAx ?assign ?body ?done ?stop
  case hAx =>
    rintro x a' _ V V' row ⟨D, hc, he⟩ hg hr
    exact ⟨D, hc.kept hg (fun r e => (hr r e).2), he⟩
  case assign =>
    intro l' pre x V K hI hK
    simp only [exA, exV]
    gi_wp2
    exact hK _ _ (KeepsFrom.of_grownBy (World.grownBy_alloc V _ none) (by intro j e; cases e)) ((Below.refl _ V).alloc (by have := hI.bl.size; omega) _) ((Nw.own (n := W0.heap.size) (by omega)).alloc _ hI) ⟨V.heap.size, Cl.new V _ (exCs x), _, _, _, _, _, _, _, _, _, rfl⟩
  case body =>
    rintro l pre x a' V hl' hrec hI ⟨D, hC, v6, v7, v8, v9, v10, v11, v12, v13, v14, rfl⟩ hlt
    obtain ⟨P, b, y, h1, h2, h3, h4, h5, h6⟩ := hI.ex
    have hbl := hI.bl
    have hb4 := h4 (b, y) (by simp)
    have cB := h6.cell
    have c0 := hC.cell 0
    have c1 := hC.cell 1
    have c2 := hC.cell 2
    have c3 := hC.cell 3
    have c4 := hC.cell 4
    have c5 := hC.cell 5
    simp only [exCs, List.getElem?_cons_zero, List.getElem?_cons_succ] at c0 c1 c2 c3 c4 c5
    have cP := (callsIn_wide (n := n - 1 - 1 - 1)).2 (put_any b y x [] V h1.drop)
    unfold exV at cP ⊢
    clear hI
    gi_wp2_with fail
    refine ⟨trivial, fun _ => by omega, ?_⟩
    refine (CallsIn.inRound l cP).mono ?_
    rintro e V2 ⟨⟨v, rfl⟩, hp⟩
    have s6 := hp.ap.box h6 (fun e => hb4.2 e.symm)
    have hL2 := hp.lks h1 h3
    have d1 := s6.cell
    have f1 := s6.frozen
    have d2 := hp.o.cell 6
    simp only [lkCs, nxP, List.getElem?_cons_zero, List.getElem?_cons_succ] at d2
    have hVs := hbl.size
    have hE : Hid3 (Nw w (V2.setCell ⟨w.heap.size + 1, 0, none⟩ (.pointer (some ⟨V.heap.size + 1, 0, none⟩))) w.heap.size (w.heap.size + 1) (pre ++ [x]) ∧ Below n₀ V (V2.setCell ⟨w.heap.size + 1, 0, none⟩ (.pointer (some ⟨V.heap.size + 1, 0, none⟩))) ∧ KeepsFrom W0.heap.size V (V2.setCell ⟨w.heap.size + 1, 0, none⟩ (.pointer (some ⟨V.heap.size + 1, 0, none⟩)))) := by
      have ap2 : Apart (fun k => k = b ∨ k = w.heap.size + 1) V (V2.setCell ⟨w.heap.size + 1, 0, none⟩ (.pointer (some ⟨V.heap.size + 1, 0, none⟩))) := (hp.ap.wide (fun _ _ e => .inl e)).trans (Apart.at _ _ _ _ (.inr rfl))
      have hne : ∀ k ∈ ((P ++ (b, y) :: [(V.heap.size + 1, x)]).map Prod.fst), k ≠ w.heap.size + 1 := by
        intro k hk
        rw [show P ++ (b, y) :: [(V.heap.size + 1, x)] = (P ++ [(b, y)]) ++ [(V.heap.size + 1, x)] by simp, List.map_append] at hk
        rcases List.mem_append.1 hk with hk | hk
        · obtain ⟨q, hq, rfl⟩ := List.mem_map.1 hk
          exact (h4 q hq).2
        · have : k = V.heap.size + 1 := by simpa using hk
          have := h6.lt
          omega
      refine ⟨⟨⟨P ++ [(b, y)], V.heap.size + 1, x, ?_, ?_, ?_, ?_, ?_, s6.set _⟩, hbl.trans (ap2.below _ (by rintro k (rfl | rfl) <;> omega) hVs)⟩, ap2.below _ (by rintro k (rfl | rfl) <;> omega) (by omega), ⟨ap2.size, fun k o hk ho hoc => ?_⟩⟩
      · rw [show (P ++ [(b, y)]) ++ [(V.heap.size + 1, x)] = P ++ (b, y) :: [(V.heap.size + 1, x)] by simp]
        exact hL2.stay (fun k hk => Below.heap_setCell _ _ _ k (hne k hk))
      · rw [List.map_append, h2]; rfl
      · rw [show (P ++ [(b, y)]) ++ [(V.heap.size + 1, x)] = P ++ (b, y) :: [(V.heap.size + 1, x)] by simp]
        exact ins_nodup h3 (n := V.heap.size) (fun q hq => h1.lt q hq) (Nat.le_succ _)
      · intro p hp2
        rcases List.mem_append.1 hp2 with hq | hq
        · exact h4 p hq
        · rw [List.mem_singleton.1 hq]
          have := h6.lt
          exact ⟨by show w.heap.size ≤ V.heap.size + 1; omega, by show V.heap.size + 1 ≠ w.heap.size + 1; omega⟩
      · cases P with
        | nil => simpa using h5
        | cons p P => simpa using h5
      · refine (ap2.block k (Array.getElem?_eq_some_iff.1 ho).1 ?_).trans ho
        rintro (rfl | rfl)
        · have := (h1.drop).1.symm.trans ho
          injection this with this
          rw [← this] at hoc
          cases hoc
        · have h6' : V.heap[w.heap.size + 1]? = some (.cells #[.pointer (some ⟨b, 0, none⟩)] 54 (0, 0)) := h6
          have := h6'.symm.trans ho
          injection this with this
          rw [← this] at hoc
          cases hoc
    clear cP hp hL2 s6 h1 h2 h3 h4 h5 h6 hb4 c0 c1 c2 c3 c4 c5 hC hbl cB
    gi_wp2
    exact ⟨hE.out.2.2, hE.out.2.1, hE.out.1⟩
  case done =>
    rintro D ys V hD rfl hI hK
    gi_wp2
    obtain ⟨P, b, y, h1, h2, h3, h4, h5, h6⟩ := hI.ex
    refine ⟨by simp, .inl ⟨_, _, rfl, run_takeDeferred hK, ?_⟩⟩
    refine ⟨.pointer (some ⟨w.heap.size, 0, none⟩), by simp [results, Try.f34, go_sem], rfl, hI.bl.trans (below_put _ (by omega)), ?_⟩
    have h1' : Lks (V.putObj D (.deferred none)) (P ++ [(b, y)]) := h1.putD hK
    clear h1
    generalize P ++ [(b, y)] = full at *
    cases full with
    | nil => cases h2
    | cons a q =>
      obtain ⟨k, z⟩ := a
      rw [List.map_cons, List.cons.injEq] at h2
      have hk : k = w.heap.size := by simpa using h5
      have hz2 : z = zEx := h2.1
      subst hz2
      rw [hk] at h1' h3 h4
      exact ⟨q, h1', h2.2, h3, fun p hp => (h4 p hp).1⟩
  case stop =>
    rintro D c pre W hD hpre hf hK
    exact hf.elim
theorem another_any (n₀ hb : Nat) (ns : List Ln) (w : World) (h : Lst n₀ w hb ns) (hn0 : n₀ ≤ w.heap.size) :
    Calls Try.prog 34 #[.pointer (some ⟨hb, 0, none⟩)] w fun e W' => e = .returned (.pointer (some ⟨w.heap.size, 0, none⟩)) ∧ Below w.heap.size w W' ∧
      ∃ q, Lks W' ((w.heap.size, zEx) :: q) ∧ q.map Prod.snd = ns.map Prod.snd ∧ (((w.heap.size, zEx) :: q).map Prod.fst).Nodup ∧ ∀ p ∈ (w.heap.size, zEx) :: q, w.heap.size ≤ p.1 :=
  (callsIn_wide (n := 8)).1 (another_in 8 (by decide) n₀ hb ns w h hn0)
end Go.Proofs.Ytmepnnlmhlndmab
namespace Go.Proofs.Ytmepnnlmhlndmab
open Go.RowKit Go.Shelf Go.Maps
set_option linter.unusedVariables false
set_option maxRecDepth 100000
theorem new_no (n : Int) (w : World) (h : n < 1 ∨ 64 < n) : Calls Try.prog 18 #[.int .i64 n] w fun e w' => e = .returned (.pointer none) ∧ w' = w := by
  by_cases h1 : n < 1
  · clear h
    go_enter Try.func18, Try.ntmps18
    go_wp2
    go_ret
    exact ⟨rfl, rfl⟩
  · have h2 : 64 < n := h.resolve_left h1
    clear h
    go_enter Try.func18, Try.ntmps18
    go_wp2
    go_ret
    exact ⟨rfl, rfl⟩
theorem new_ok (n : Nat) (w : World) (h1 : 1 ≤ n) (h2 : n ≤ 64) : Calls Try.prog 18 #[.int .i64 n] w fun e w' => e = .returned (.pointer (some ⟨w.heap.size + 1, 0, none⟩)) ∧ Pt w.heap.size w' ⟨w.heap.size + 1, w.heap.size, []⟩ (xt0 n) ∧ Below w.heap.size w w' := by
  have z1 : ¬ (n : Int) < 1 := by omega
  have z2 : ¬ (64 : Int) < n := by omega
  have hP : Hid3 (Pt w.heap.size ((w.alloc (.cells (lkCs zEx []).toArray 63)).alloc (.cells #[.int .i64 n, .pointer (some ⟨w.heap.size, 0, none⟩), .int .u32 0] 56)) ⟨w.heap.size + 1, w.heap.size, []⟩ (xt0 n) ∧ Below w.heap.size w ((w.alloc (.cells (lkCs zEx []).toArray 63)).alloc (.cells #[.int .i64 n, .pointer (some ⟨w.heap.size, 0, none⟩), .int .u32 0] 56))) := by
    have b1 := (Cl.new w 63 (lkCs zEx [])).alloc (.cells #[.int .i64 n, .pointer (some ⟨w.heap.size, 0, none⟩), .int .u32 0] 56)
    have b2 := Cl.new (w.alloc (.cells (lkCs zEx []).toArray 63)) 56 [.int .i64 n, .pointer (some ⟨w.heap.size, 0, none⟩), .int .u32 0]
    rw [World.size_alloc] at b2
    refine ⟨⟨⟨b2, b2.lt, ⟨⟨b1, trivial⟩, by simp, ?_⟩⟩, rfl, by simp [Lo.all], ?_, xt0_ok n h1 h2⟩, ((Below.refl _ w).alloc (Nat.le_refl _) _).alloc (by simp) _⟩
    · intro p hp
      rw [List.mem_singleton.1 hp]
      exact b1.lt
    · rintro k (rfl | hk)
      · exact Nat.le_succ _
      · have : k = w.heap.size := by simpa [Lo.all] using hk
        omega
  rw [show (lkCs zEx []).toArray = #[.int .u32 0, .int .i64 0, .int .i64 0, .int .u8 0, .string ⟨#[]⟩, .int .u8 0, .pointer none] from rfl] at hP
  go_enter Try.func18, Try.ntmps18
  go_wp2
  go_ret
  exact ⟨rfl, hP.out⟩
set_option maxHeartbeats 1000000 in
theorem fork_any (B : Nat) (w : World) (L : Lo) (s : Xt) (h : Pt B w L s) :
    Calls Try.prog 17 #[.pointer (some ⟨L.t, 0, none⟩)] w fun e w' => ∃ L' : Lo, e = .returned (.pointer (some ⟨L'.t, 0, none⟩)) ∧ Pt w.heap.size w' L' s ∧ Below w.heap.size w w' := by
  obtain ⟨tb, hb, ns⟩ := L
  have hd : Below w.heap.size w w.drew := (Below.refl _ w).drew
  have hlt := h.t.tl
  have hS : ∀ W, Below w.heap.size w W → W.cell? ⟨tb, 0, none⟩ = some (.int .i64 s.N) ∧ W.cell? ⟨tb, 1, none⟩ = some (.pointer (some ⟨hb, 0, none⟩)) ∧ W.cell? ⟨tb, 2, none⟩ = some (.int .u32 s.last) := fun W k => ⟨(h.t.t.below k).cell 0, (h.t.t.below k).cell 1, (h.t.t.below k).cell 2⟩
  have cA := another_any w.heap.size hb ns w.drew (h.t.l.below hd) (Nat.le_refl _)
  have c0 := (hS w (Below.refl _ w)).1
  have c1 := (hS w (Below.refl _ w)).2.1
  have c2 := (hS w (Below.refl _ w)).2.2
  have hSa : Hid3 (w.drew.cell? ⟨tb, 0, none⟩ = some (.int .i64 s.N) ∧ w.drew.cell? ⟨tb, 1, none⟩ = some (.pointer (some ⟨hb, 0, none⟩)) ∧ w.drew.cell? ⟨tb, 2, none⟩ = some (.int .u32 s.last)) := ⟨hS _ hd⟩
  have HS := Hid3.mk hS
  have HP := Hid3.mk h
  obtain ⟨N, hN⟩ : ∃ N, s.N = N := ⟨_, rfl⟩
  obtain ⟨la, hla⟩ : ∃ la, s.last = la := ⟨_, rfl⟩
  rw [hN, hla] at hSa
  rw [hN] at c0
  rw [hla] at c2
  have HN := Hid3.mk hN
  have HL := Hid3.mk hla
  clear hS h hd hN hla
  simp only at *
  go_enter Try.func17, Try.ntmps17
  go_wp2_with fail
  go_region_held3 (fun w' => w'.cell? ⟨tb, 0, none⟩ = some (.int .i64 N) ∧ w'.cell? ⟨tb, 1, none⟩ = some (.pointer (some ⟨hb, 0, none⟩)) ∧ w'.cell? ⟨tb, 2, none⟩ = some (.int .u32 la)) (with_reducible (first | exact hSa.out | exact hSb.out | exact hSc.out)) ((first | (go_at_call 34; (with_reducible refine cA.mono ?_); rintro e V ⟨rfl, hB, hq⟩; have HB : Hid3 (Below w.heap.size w V) := ⟨(Below.refl _ w).drew.trans hB⟩; have hSb : Hid3 (V.cell? ⟨tb, 0, none⟩ = some (.int .i64 N) ∧ V.cell? ⟨tb, 1, none⟩ = some (.pointer (some ⟨hb, 0, none⟩)) ∧ V.cell? ⟨tb, 2, none⟩ = some (.int .u32 la)) := ⟨by rw [← HN.out, ← HL.out]; exact HS.out V HB.out⟩; have hSc : Hid3 ((V.alloc (.cells #[.int .i64 N, .pointer (some ⟨w.heap.size, 0, none⟩), .int .u32 la] 56)).cell? ⟨tb, 0, none⟩ = some (.int .i64 N) ∧ (V.alloc (.cells #[.int .i64 N, .pointer (some ⟨w.heap.size, 0, none⟩), .int .u32 la] 56)).cell? ⟨tb, 1, none⟩ = some (.pointer (some ⟨hb, 0, none⟩)) ∧ (V.alloc (.cells #[.int .i64 N, .pointer (some ⟨w.heap.size, 0, none⟩), .int .u32 la] 56)).cell? ⟨tb, 2, none⟩ = some (.int .u32 la)) := ⟨by rw [← HN.out, ← HL.out]; exact HS.out _ (HB.out.alloc HB.out.size _)⟩; have HQ := Hid3.mk hq; clear hB hq)))
  all_goals
    go_wp2
    go_ret
    obtain ⟨q, h1, h2, h3, h4⟩ := HQ.out
    have hB := HB.out
    refine ⟨⟨V.heap.size, w.heap.size, q⟩, rfl, ⟨⟨?_, by simp, ⟨h1.below (below_new V _), h3, fun p hp => by have := h1.lt p hp; simp; omega⟩⟩, h2.trans HP.out.l, ?_, ?_, HP.out.ok⟩, hB.alloc hB.size _⟩
    · rw [HN.out, HL.out]
      exact Cl.new V 56 [.int .i64 N, .pointer (some ⟨w.heap.size, 0, none⟩), .int .u32 la]
    · intro hm
      obtain ⟨p, hp, e⟩ := List.mem_map.1 hm
      have h6 : p.1 = V.heap.size := e
      have := h1.lt p hp
      omega
    · rintro k (rfl | hk)
      · exact hB.size
      · obtain ⟨p, hp, rfl⟩ := List.mem_map.1 hk
        exact h4 p hp
theorem room_low (tb : Nat) (many : Int) (hm : many < 1) (w : World) :
    Calls Try.prog 8 #[.pointer (some ⟨tb, 0, none⟩), .int .i64 many] w fun e w' => e = .returned (.tuple #[.int .i64 0, .int .i64 2]) ∧ Below w.heap.size w w' := by
  have HB : Hid3 (Below w.heap.size w (((w.alloc (.cells #[.int .i64 many] 3)).alloc (.cells #[.int .i64 0] 3)).alloc (.cells #[.int .i64 2] 28))) := ⟨(((Below.refl _ w).alloc (Nat.le_refl _) _).alloc (by simp) _).alloc (by simp; omega) _⟩
  go_enter Try.func8, Try.ntmps8
  go_wp2
  refine bodyPost_ret (v := .tuple #[.int .i64 0, .int .i64 2]) (by simp [results, Try.f8, go_sem]) rfl ?_
  exact ⟨rfl, HB.out⟩
end Go.Proofs.Ytmepnnlmhlndmab
