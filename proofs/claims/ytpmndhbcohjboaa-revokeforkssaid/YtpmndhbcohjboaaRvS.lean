/- The document's Open, Lost, Asked, Next, Ask. -/
import Derived.Test.YtpmndhbcohjboaaRvR
namespace Go.Proofs.Ytpmndhbcohjboaa
open Go.RowKit Go.Maps
set_option linter.unusedVariables false
set_option maxRecDepth 100000
set_option maxHeartbeats 2000000 in
theorem ropen_any (B b : Nat) (lv : Value) (ls : Fin 6 → Value) (q : Rs) (w : World) (h : Rk B w b lv ls q) (hl : q.d.length ≤ 8) : Calls Try.prog 28 #[.pointer (some ⟨b, 0, none⟩)] w fun e w' => ∃ r, e = .returned r ∧ RowO w' w.heap.size 39 3 r q.d.length (aCs q.d) ∧ Below w.heap.size w w' := by
  have hX := below_new w (.cells #[] 39)
  have HR := Hid3.mk (h.l.below hX)
  have H0 := Hid3.mk (row_none w 39 3 w.heap.size (Nat.le_refl _))
  have HX := Hid3.mk hX
  obtain ⟨a0, cap0, rfl⟩ := h.l.sl
  have c0 := h.c.c0
  have hbl := h.c.l
  clear h hX
  go_enter Try.func28, Try.ntmps28
  go_wp2_with (at_builtin; refine wpList_appR rfl _ _ 35 39 3 appA rfl w.heap.size _ 0 [] rfl H0.out B _ q.d.length (aCs q.d) rfl HR.out (aCs_one _) (by omega) HX.out.size ?_; intro v' W4 hown4 hgrow hat; have H4 := Hid3.mk (And.intro hown4 (below_grown (B := B) HX.out H0.out hgrow)); clear hown4 hgrow hat)
  go_ret
  have := H4.out.1
  rw [Nat.zero_add, List.nil_append] at this
  exact ⟨_, rfl, this, H4.out.2⟩
set_option maxHeartbeats 2000000 in
theorem rlost_any (B b : Nat) (lv : Value) (ls : Fin 6 → Value) (q : Rs) (N : Nat) (x : Int) (hx : 0 ≤ x) (w : World) (h : Rk B w b lv ls q) (hO : q.Ok N) (hN : N ≤ 1000) : Calls Try.prog 25 #[.pointer (some ⟨b, 0, none⟩), .int .u8 x] w fun e w' => ∃ r, e = .returned r ∧ RowO w' w.heap.size 5 1 r (vAt x q).length (uCs (vAt x q)) ∧ Below w.heap.size w w' := by
  by_cases h6 : 6 ≤ x
  · rw [vAt_bad q h6]
    clear h hO
    go_enter Try.func25, Try.ntmps25
    go_wp2
    go_ret
    exact ⟨_, rfl, RowO.nil _ _ _ _, Below.refl _ _⟩
  · obtain ⟨k, rfl⟩ : ∃ k : Nat, x = k := ⟨x.toNat, by omega⟩
    have hk6 : k < 6 := by omega
    have hk7 : (k : Int) < 6 := by omega
    rw [vAt_ok q k hk6]
    have hX := below_new w (.cells #[] 5)
    have HR := Hid3.mk ((h.v ⟨k, hk6⟩).below hX)
    have H0 := Hid3.mk (row_none w 5 1 w.heap.size (Nat.le_refl _))
    have HX := Hid3.mk hX
    have c1 := h.c.cv ⟨k, hk6⟩
    have hbl := h.c.l
    have hlen := hO.vec ⟨k, hk6⟩
    obtain ⟨a0, cap0, hv⟩ := (h.v ⟨k, hk6⟩).sl
    rw [hv] at c1 HR
    simp only at c1
    clear h hX hv hO
    generalize q.v ⟨k, hk6⟩ = V at *
    go_enter Try.func25, Try.ntmps25
    go_wp2_with (at_builtin; refine wpList_appR rfl _ _ 43 5 1 app8 rfl w.heap.size _ 0 [] rfl H0.out B _ V.length (uCs V) rfl HR.out (uCs_one _) (by omega) HX.out.size ?_; intro v' W4 hown4 hgrow hat; have H4 := Hid3.mk (And.intro hown4 (below_grown (B := B) HX.out H0.out hgrow)); clear hown4 hgrow hat)
    go_ret
    have := H4.out.1
    rw [Nat.zero_add, List.nil_append] at this
    exact ⟨_, rfl, this, H4.out.2⟩
theorem at_get (L : List Dm) (x y : Int) : (atI L x y = -1 ∧ dget L x y = none) ∨ ∃ k : Nat, ∃ hk : k < L.length, atI L x y = k ∧ dget L x y = some L[k].2.2 ∧ hasK x y L[k] = true ∧ ∀ j (hj : j < L.length), j < k → hasK x y L[j] = false := by
  cases h : L.findIdx? (hasK x y) with
  | none =>
    refine .inl ⟨by unfold atI; rw [h], ?_⟩
    unfold dget
    rw [List.find?_eq_none.2 (fun d hd => by
      have := List.findIdx?_eq_none_iff.1 h d hd
      simp [this])]
    rfl
  | some k =>
    obtain ⟨hk, h1, h2⟩ := List.findIdx?_eq_some_iff_getElem.1 h
    refine .inr ⟨k, hk, by unfold atI; rw [h], ?_, h1, fun j hj hjk => by simpa using h2 j hjk⟩
    unfold dget
    have : L.find? (hasK x y) = some L[k] := List.find?_eq_some_iff_getElem.2 ⟨h1, k, hk, rfl, fun j hj => by simpa using h2 j hj⟩
    rw [this]
    rfl
set_option maxHeartbeats 2000000 in
theorem rasked_any (B b : Nat) (lv : Value) (ls : Fin 6 → Value) (q : Rs) (x y : Int) (w : World) (h : Rk B w b lv ls q) (hl : q.d.length ≤ 8) : Calls Try.prog 26 #[.pointer (some ⟨b, 0, none⟩), .int .u8 x, .int .u8 y] w fun e w' => e = .returned (.tuple #[.int .i64 ((dget q.d x y).getD 0), .bool (dget q.d x y).isSome]) ∧ w' = w := by
  have cA := rat_any B b lv ls q x y w h hl
  obtain ⟨a0, cap0, rfl⟩ := h.l.sl
  have c0 := h.c.c0
  have hbl := h.c.l
  rcases at_get q.d x y with ⟨h1, h2⟩ | ⟨k, hk, h1, h2, _, _⟩
  · rw [h1] at cA
    rw [h2]
    clear h
    go_enter Try.func26, Try.ntmps26
    go_wp2_with fail
    refine cA.mono ?_
    rintro e W ⟨rfl, rfl⟩
    go_wp2
    go_ret2
    exact ⟨rfl, rfl⟩
  · obtain ⟨g, off, rfl, hg, k0, k1, k2⟩ := Row3.at h.l k hk
    have hkz : ¬ (k : Int) < 0 := by omega
    have hkl : (k : Int) < (q.d.length : Int) := by omega
    rw [h1] at cA
    rw [h2]
    generalize q.d[k].2.2 = z at *
    clear h h1 h2 k0 k1
    go_enter Try.func26, Try.ntmps26
    go_wp2_with fail
    refine cA.mono ?_
    rintro e W ⟨rfl, rfl⟩
    go_wp2
    go_ret2
    exact ⟨rfl, rfl⟩
set_option maxHeartbeats 4000000 in
theorem rnext_any (B b : Nat) (lv : Value) (ls : Fin 6 → Value) (q : Rs) (N : Nat) (x : Int) (hx : 0 ≤ x) (w : World) (h : Rk B w b lv ls q) (hO : q.Ok N) (hN : N ≤ 1000) : Calls Try.prog 46 #[.pointer (some ⟨b, 0, none⟩), .int .u8 x] w fun e w' => e = .returned (.tuple #[.int .u8 (nextV x q), .bool (nextB x q)]) ∧ RStp B w w' b lv ls (nextQ x q) := by
  have cL := rlost_any B b lv ls q N x hx w h hO hN
  unfold nextV nextB
  have hbl := h.c.l
  cases hV : vAt x q with
  | nil =>
    rw [next_id hV]
    rw [hV] at cL
    have HB := Hid3.mk h
    clear h hO
    go_enter Try.func46, Try.ntmps46
    go_wp2_with fail
    refine cL.mono ?_
    rintro e W ⟨r, rfl, hr, hb⟩
    obtain ⟨ar, kr, rfl⟩ := hr.sl
    have HS := Hid3.mk (RStp.same HB.out hb)
    clear cL hr hb
    go_wp2
    go_ret2
    exact ⟨rfl, HS.out⟩
  | cons y V =>
    have h6 : ¬ 6 ≤ x := fun i => by
      rw [vAt_bad q i] at hV
      cases hV
    obtain ⟨k, rfl⟩ : ∃ k : Nat, x = k := ⟨x.toNat, by omega⟩
    have hk6 : k < 6 := by omega
    have hk7 : (k : Int) < 6 := by omega
    rw [vAt_ok q k hk6] at hV
    have hVl : V.length ≤ 1000 := by
      have := hO.vec ⟨k, hk6⟩
      rw [hV, List.length_cons] at this
      omega
    rw [next_upd k hk6 V (by rw [hV]; rfl)]
    obtain ⟨n, hn⟩ : ∃ n, V.length = n := ⟨_, rfl⟩
    rw [vAt_ok q k hk6, hV, List.length_cons, hn] at cL
    rw [hn] at hVl
    have HN := Hid3.mk hn
    clear hn
    have HB := Hid3.mk h
    obtain ⟨a0, cap0, hv⟩ := (h.v ⟨k, hk6⟩).sl
    clear h hO hV
    go_enter Try.func46, Try.ntmps46
    go_wp2_with fail
    refine cL.mono ?_
    rintro e W ⟨r, rfl, hr, hb⟩
    have hc1 := (HB.out.below hb).c.cv ⟨k, hk6⟩
    rw [hv] at hc1
    simp only at hc1
    have hf1 := (HB.out.below hb).c.f (1 + k)
    have hbl2 := (HB.out.below hb).c.l
    rcases hr.form with ⟨_, i, _⟩ | ⟨g, off, cap, rfl, hcap, hBg, hg, hcell⟩
    · cases i
    obtain ⟨cap, rfl⟩ : ∃ k, cap = k + 1 := ⟨cap - 1, by omega⟩
    have x0 : W.cell? ⟨g, off, none⟩ = some (.int .u8 y) := hcell 0 _ rfl
    have hgb : g ≠ b := by omega
    have x1 : ∀ u, (W.setCell ⟨b, 1 + k, none⟩ u).cell? ⟨g, off, none⟩ = some (.int .u8 y) := fun u => (World.cell?_of_block (Below.heap_setCell W ⟨b, 1 + k, none⟩ u g hgb)).trans x0
    have HT : Hid3 (∀ (off' : Nat) (h1 : off' = off + 1 ∨ cap = 0) (h2 : cap = 0 → off' = off), RStp B w (W.setCell ⟨b, 1 + k, none⟩ (.slice (some ⟨g, off', none⟩) n cap)) b lv ls ⟨q.d, upd q.v ⟨k, hk6⟩ V⟩) := ⟨fun off' h1 h2 => RStp.vec ⟨k, hk6⟩ V HB.out hb (by rw [HN.out]; exact hr.tl off' h1 h2)⟩
    clear cL hr hb hcell HB hv
    by_cases h0 : cap = 0
    · subst h0
      obtain rfl : n = 0 := by omega
      have HT3 := Hid3.mk ((HT.out off (.inr rfl) (fun _ => rfl)).post (below_drew _))
      clear HT
      go_wp2_with fail
      refine still_tail 7 (by kernel_rfl) (by kernel_rfl) ?_
      simp only [List.take_succ_cons, List.take_zero, List.drop_succ_cons, List.drop_zero]
      repeat still_step
      refine wpStill_nil ?_
      go_wp2
      go_ret2
      exact ⟨rfl, HT3.out⟩
    · have HT3 := Hid3.mk ((HT.out (off + 1) (.inl rfl) (fun e => absurd e h0)).post (below_drew _))
      clear HT
      have hn1 : ¬ ((n : Int) + 1 = 0) := by omega
      have hn2 : (1 : Int) ≤ (n : Int) + 1 := by omega
      have hn3 : n + 1 - 1 = n := by omega
      go_wp2_with fail
      refine still_tail 7 (by kernel_rfl) (by kernel_rfl) ?_
      simp only [List.take_succ_cons, List.take_zero, List.drop_succ_cons, List.drop_zero]
      repeat still_step
      refine wpStill_nil ?_
      go_wp2
      go_ret2
      exact ⟨rfl, HT3.out⟩
end Go.Proofs.Ytpmndhbcohjboaa
