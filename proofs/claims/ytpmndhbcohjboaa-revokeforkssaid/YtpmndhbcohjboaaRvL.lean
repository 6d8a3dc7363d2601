/- The program's Ask. -/
import Derived.Test.YtpmndhbcohjboaaRvK
namespace Go.Proofs.Ytpmndhbcohjboaa
open Go.RowKit Go.Maps
set_option linter.unusedVariables false
set_option maxRecDepth 100000
def askBad (x y n k : Int) : Prop := 6 ≤ x ∨ 64 ≤ y ∨ n < 0 ∨ 1073741824 < n ∨ k < 0 ∨ 1000 < k
instance (x y n k : Int) : Decidable (askBad x y n k) := by unfold askBad; infer_instance
def askE (x y n k : Int) (q : Rs) : Int := if askBad x y n k then 2 else if (dget q.d x y).isSome then 6 else if q.d.length = 8 then 4 else 0
def askQ (x y n k : Int) (q : Rs) : Rs := if askE x y n k q = 0 then ⟨q.d ++ [(x, y, n + k)], q.v⟩ else q
set_option maxHeartbeats 4000000 in
theorem ask_bad (b : Nat) (x y n k : Int) (w : World) (hb : askBad x y n k) : Calls Try.prog 13 #[.pointer (some ⟨b, 0, none⟩), .int .u8 x, .int .u8 y, .int .i64 n, .int .i64 k] w fun e w' => e = .returned (.int .i64 2) ∧ w' = w := by
  unfold askBad at hb
  by_cases hc1 : 6 ≤ x
  · clear hb
    go_enter Try.func13, Try.ntmps13
    go_wp2
    go_ret
    exact ⟨rfl, rfl⟩
  by_cases hc2 : 64 ≤ y
  · clear hb
    go_enter Try.func13, Try.ntmps13
    go_wp2
    go_ret
    exact ⟨rfl, rfl⟩
  by_cases hc3 : n < 0
  · clear hb
    go_enter Try.func13, Try.ntmps13
    go_wp2
    go_ret
    exact ⟨rfl, rfl⟩
  by_cases hc4 : 1073741824 < n
  · clear hb
    go_enter Try.func13, Try.ntmps13
    go_wp2
    go_ret
    exact ⟨rfl, rfl⟩
  by_cases hc5 : k < 0
  · clear hb
    go_enter Try.func13, Try.ntmps13
    go_wp2
    go_ret
    exact ⟨rfl, rfl⟩
  have hf : 1000 < k := by omega
  clear hb
  go_enter Try.func13, Try.ntmps13
  go_wp2
  go_ret
  exact ⟨rfl, rfl⟩
theorem mlen_run {w : World} {r : Nat} {L : List Dm} (h : Mq w r L) (hl : L.length ≤ 1000) (ty : TypeId) : (Builtin.len_ #[57] ty #[.map (some r)]).run Try.prog w = .ok (.int .i64 L.length) w := by
  obtain ⟨arr, c, h1, h2⟩ := len_of h
  simp [Builtin.len_, get_map h1, h2, goInt]
theorem Bk.grow {B : Nat} {w W1 W2 : World} {b m : Nat} {av : Value} {vs : Fin 6 → Value} {q : Rs} {x y u : Int} (h : Bk B w b m av vs q) (h1 : AddR w W1 B b 0 60 (bCs av m vs) 63 2 av (q.d.length + 1) (dCs q.d ++ [.int .u8 x, .int .u8 y])) (h2 : Mq W2 m (q.d ++ [(x, y, u)])) (h3 : Apart (XB m) W1 W2) : BStp B w W2 b m av vs ⟨q.d ++ [(x, y, u)], q.v⟩ := by
  obtain ⟨v', g1, g2, g3, g4⟩ := h1.out
  have hx : ∀ e g, (vs e).ownBlock = some g → ¬ (g = b ∨ some g = av.ownBlock) := fun e g hg i => by
    rcases i with i | i
    · subst i
      exact (h.v e).ne_cl h.k (by decide) hg
    · exact (h.v e).ne_row h.a (by decide) hg i.symm
  have hvm : ∀ g, v'.ownBlock = some g → ¬ (XB m g) := fun g hg i => by
    have i : g = m := i
    subst i
    rcases g4 with e | ⟨g', hg', e⟩
    · exact h.m.ne_row h.a (e.symm.trans hg) rfl
    · rw [e] at hg
      have := Option.some.inj hg
      have := h.m.lt
      omega
  refine ⟨v', vs, ⟨h.g, h.gm, g1.stay h3 h.nm, ?_, h2, fun e => ((h.v e).stay g3 (hx e)).stay h3 (fun g hg i => h.m.ne_row (h.v e) hg i), h.ap⟩, ?_, fun k i => ?_⟩
  · show RowO W2 B _ 2 v' (q.d ++ [(x, y, u)]).length (dCs (q.d ++ [(x, y, u)]))
    rw [dCs_append, List.length_append]
    exact g2.stay h3 hvm
  · refine (g3.wide (fun k _ i => ?_)).trans (h3.wide (fun k _ i => .inr (.inl i)))
    rcases i with i | i
    · exact .inl i
    · exact .inr (.inr (.inl i.symm))
  · rcases i with i | i | i | i
    · exact .inl (.inl i)
    · exact .inl (.inr (.inl i))
    · rcases g4 with e | ⟨g', hg', e⟩
      · exact .inl (.inr (.inr (.inl (e.symm.trans i))))
      · rw [e] at i
        have := Option.some.inj i
        exact .inr (by omega)
    · exact .inl (.inr (.inr (.inr i)))
set_option maxHeartbeats 4000000 in
theorem ask_good (B b m : Nat) (av : Value) (vs : Fin 6 → Value) (q : Rs) (N : Nat) (x y n k : Int) (w : World) (h : Bk B w b m av vs q) (hO : q.Ok N) (hb : ¬ askBad x y n k) : Calls Try.prog 13 #[.pointer (some ⟨b, 0, none⟩), .int .u8 x, .int .u8 y, .int .i64 n, .int .i64 k] w fun e w' => e = .returned (.int .i64 (askE x y n k q)) ∧ BStp B w w' b m av vs (askQ x y n k q) := by
  have hc1 : ¬ 6 ≤ x := fun e => hb (by unfold askBad; omega)
  have hc2 : ¬ 64 ≤ y := fun e => hb (by unfold askBad; omega)
  have hc3 : ¬ n < 0 := fun e => hb (by unfold askBad; omega)
  have hc4 : ¬ 1073741824 < n := fun e => hb (by unfold askBad; omega)
  have hc5 : ¬ k < 0 := fun e => hb (by unfold askBad; omega)
  have hc6 : ¬ 1000 < k := fun e => hb (by unfold askBad; omega)
  unfold askQ
  unfold askE
  simp only [if_neg hb]
  have hX := below_new w (.cells #[.int .u8 x, .int .u8 y] 63)
  have hXd := below_newd w (.cells #[.int .u8 x, .int .u8 y] 63)
  have hB1 := h.below hX
  have hBd := h.below hXd
  have hbx := Cl.new w 63 [.int .u8 x, .int .u8 y]
  have z0 : (w.alloc (.cells #[.int .u8 x, .int .u8 y] 63)).cell? ⟨w.heap.size, 0, none⟩ = some (.int .u8 x) := hbx.cell 0
  have z1 : (w.alloc (.cells #[.int .u8 x, .int .u8 y] 63)).cell? ⟨w.heap.size, 1, none⟩ = some (.int .u8 y) := hbx.cell 1
  have hL := Hid3.mk (dlook_run hBd.m x y true)
  unfold dkV at hL
  have c1 := hB1.c.c1
  have hbl := h.c.l
  have hbl1 := hB1.c.l
  have hll1 := hbx.lt
  have hfew := hO.few
  have HS0 := Hid3.mk (BStp.same h hXd)
  by_cases hs : (dget q.d x y).isSome = true
  · rw [hs] at hL
    simp only [if_true] at hL
    simp only [hs, if_true]
    rw [if_neg (by decide)]
    clear h hO hb hX hXd hB1 hBd hbx hs
    go_enter Try.func13, Try.ntmps13
    go_wp2_with fail
    refine still_tail 10 (by kernel_rfl) (by kernel_rfl) ?_
    simp only [List.take_succ_cons, List.take_zero, List.drop_succ_cons, List.drop_zero]
    repeat (first | (refine wpStill_look (by rfl) 57 _ _ true rfl _ _ _ rfl rfl hL.out ?_) | still_step)
    refine wpStill_nil ?_
    go_wp2
    go_ret
    exact ⟨rfl, HS0.out⟩
  · have hn : dget q.d x y = none := by simpa using hs
    rw [hn] at hL
    simp only [if_true, Option.isSome_none, Option.getD_none] at hL
    simp only [hn, Option.isSome_none, Bool.false_eq_true, if_false]
    have hmlen := mlen_run hBd.m (by omega) 3
    by_cases h8 : q.d.length = 8
    · simp only [if_pos h8]
      rw [if_neg (by decide)]
      rw [h8] at hmlen
      clear h hO hb hX hXd hB1 hBd hbx hs hn h8 hfew
      go_enter Try.func13, Try.ntmps13
      go_wp2_with fail
      generalize (w.alloc (.cells #[.int .u8 x, .int .u8 y] 63)) = W1 at *
      refine still_tail 10 (by kernel_rfl) (by kernel_rfl) ?_
      simp only [List.take_succ_cons, List.take_zero, List.drop_succ_cons, List.drop_zero]
      repeat (first | (refine wpStill_look (by rfl) 57 _ _ true rfl _ _ _ rfl rfl hL.out ?_) | still_step)
      refine wpStill_nil ?_
      go_wp2
      go_ret
      exact ⟨rfl, HS0.out⟩
    · simp only [if_neg h8, if_true]
      have hsz8 : ¬ (q.d.length : Int) = 8 := by omega
      have hBdd := hBd.below (below_drew _)
      have cA := add_d B b 0 60 _ av _ _ x y _ hBdd.k rfl hBdd.a (hBdd.a.ne_cl hBdd.k (by decide)) (by omega) (Nat.le_trans hBdd.g (Nat.le_of_lt hBdd.k.lt))
      unfold dkV at cA
      have hwsz : w.heap.size < (w.alloc (.cells #[.int .u8 x, .int .u8 y] 63)).drew.drew.heap.size := hll1
      have HG : Hid3 (∀ W1, AddR (w.alloc (.cells #[.int .u8 x, .int .u8 y] 63)).drew.drew W1 B b 0 60 (bCs av m vs) 63 2 av (q.d.length + 1) (dCs q.d ++ [.int .u8 x, .int .u8 y]) → W1.cell? ⟨b, 1, none⟩ = some (.map (some m)) ∧ b < W1.heap.size ∧ W1.cell? ⟨w.heap.size, 0, none⟩ = some (.int .u8 x) ∧ W1.cell? ⟨w.heap.size, 1, none⟩ = some (.int .u8 y) ∧ w.heap.size < W1.heap.size ∧ ∃ W2, (Instr.mapUpdate 57 (.map (some m)) (.agg #[.int .u8 x, .int .u8 y]) (.int .i64 (n + k))).run Try.prog W1.drew = .ok () W2 ∧ BStp B w W2 b m av vs ⟨q.d ++ [(x, y, n + k)], q.v⟩) := ⟨fun W1 hA => by
        obtain ⟨v', g1, g2, g3, g4⟩ := hA.out
        have hbx2 : Cl W1 w.heap.size 63 [.int .u8 x, .int .u8 y] := (hbx.drew.drew).stay g3 (fun i => by
          rcases i with i | i
          · omega
          · have := (h.a.lt _ i.symm).2
            omega)
        have hm1 := (hBdd.m.stay g3 (fun i => by
          rcases i with i | i
          · exact h.nm i.symm
          · exact h.m.ne_row h.a i.symm rfl)).below (below_drew _)
        obtain ⟨W2, p1, p2, p3⟩ := dput_run hm1 x y (n + k) hn
        have hA2 : AddR (w.alloc (.cells #[.int .u8 x, .int .u8 y] 63)).drew.drew W1.drew B b 0 60 (bCs av m vs) 63 2 av (q.d.length + 1) (dCs q.d ++ [.int .u8 x, .int .u8 y]) := ⟨v', g1.drew, g2.below (below_drew _), g3.drew, g4⟩
        exact ⟨g1.cell 1, g1.lt, hbx2.cell 0, hbx2.cell 1, hbx2.lt, W2, p1, BStp.pre (hXd.trans ((below_drew _).mono hXd.size)) (hBdd.grow hA2 p2 p3)⟩⟩
      have hk1 : n + k ≤ 2000000000 := by omega
      have hwk : IntKind.i64.wrap (n + k) = n + k := by rw [IntKind.wrap_i64]; omega
      have hk2 : 0 ≤ n + k := by omega
      clear h hO hb hX hXd hB1 hBd hBdd hbx hs hn h8
      go_enter Try.func13, Try.ntmps13
      go_wp2_with fail
      generalize (w.alloc (.cells #[.int .u8 x, .int .u8 y] 63)) = W1 at *
      refine still_tail 10 (by kernel_rfl) (by kernel_rfl) ?_
      simp only [List.take_succ_cons, List.take_zero, List.drop_succ_cons, List.drop_zero]
      repeat (first | (refine wpStill_look (by rfl) 57 _ _ true rfl _ _ _ rfl rfl hL.out ?_) | still_step)
      refine wpStill_nil ?_
      clear hL
      go_wp2_with fail
      refine still_tail 4 (by kernel_rfl) (by kernel_rfl) ?_
      simp only [List.take_succ_cons, List.take_zero, List.drop_succ_cons, List.drop_zero]
      repeat still_step
      refine wpStill_nil ?_
      go_wp2_with fail
      refine cA.mono ?_
      rintro e W3 ⟨rfl, hA⟩
      obtain ⟨u1, u2, u3, u4, u5, W2, p1, p2⟩ := HG.out W3 hA
      have P1 := Hid3.mk p1
      have P2 := Hid3.mk p2
      clear cA hA HG p1 p2 z0 z1 c1 hmlen hbl1 hll1
      go_wp2_with fail
      refine still_tail 8 (by kernel_rfl) (by kernel_rfl) ?_
      simp only [List.take_succ_cons, List.take_zero, List.drop_succ_cons, List.drop_zero]
      repeat still_step
      refine wpStill_nil ?_
      refine wpList_mupd rfl 57 _ _ _ rfl _ _ _ rfl rfl rfl P1.out ?_
      go_wp2
      go_ret
      exact ⟨rfl, P2.out⟩
theorem ask_any (B b m : Nat) (av : Value) (vs : Fin 6 → Value) (q : Rs) (N : Nat) (x y n k : Int) (w : World) (h : Bk B w b m av vs q) (hO : q.Ok N) : Calls Try.prog 13 #[.pointer (some ⟨b, 0, none⟩), .int .u8 x, .int .u8 y, .int .i64 n, .int .i64 k] w fun e w' => e = .returned (.int .i64 (askE x y n k q)) ∧ BStp B w w' b m av vs (askQ x y n k q) := by
  by_cases hb : askBad x y n k
  · refine (ask_bad b x y n k w hb).mono ?_
    rintro e W ⟨rfl, rfl⟩
    have h2 : askE x y n k q = 2 := if_pos hb
    unfold askQ
    rw [h2, if_neg (by decide)]
    exact ⟨rfl, BStp.same h (Below.refl _ _)⟩
  · exact ask_good B b m av vs q N x y n k w h hO hb
end Go.Proofs.Ytpmndhbcohjboaa
