/- The program's New, Out, Next, Open, Lost, Asked. -/
import Derived.Test.YtpmndhbcohjboaaRvH
namespace Go.Proofs.Ytpmndhbcohjboaa
open Go.RowKit Go.Maps
set_option linter.unusedVariables false
set_option maxRecDepth 100000
theorem BStp.trans {B : Nat} {w1 w2 w3 : World} {b m : Nat} {av av1 : Value} {vs vs1 : Fin 6 → Value} {q' : Rs} (h2 : Apart (XK b m av vs) w1 w2) (h3 : ∀ k, XK b m av1 vs1 k → XK b m av vs k ∨ w1.heap.size ≤ k) (k : BStp B w2 w3 b m av1 vs1 q') : BStp B w1 w3 b m av vs q' := by
  obtain ⟨av', vs', g1, g2, g3⟩ := k.out
  refine ⟨av', vs', g1, h2.then g2 (fun i hi e => ?_), fun i e => ?_⟩
  · rcases h3 i e with e | e
    · exact e
    · omega
  · rcases g3 i e with e | e
    · exact h3 i e
    · exact .inr (Nat.le_trans h2.size e)
theorem Bk.kind {B : Nat} {w : World} {b m : Nat} {av : Value} {vs : Fin 6 → Value} {q : Rs} (h : Bk B w b m av vs q) (k : Nat) (hk : XK b m av vs k) : (∃ a c, w.heap[k]? = some (.map a c)) ∨ ∃ cur t, w.heap[k]? = some (.cells cur t (0, 0)) ∧ (t = 60 ∨ t = 63 ∨ t = 5) := by
  rcases hk with rfl | rfl | hk | ⟨e, hk⟩
  · exact .inr ⟨_, _, h.k, .inl rfl⟩
  · obtain ⟨a, c, h1, _⟩ := h.m
    exact .inl ⟨a, c, h1⟩
  · obtain ⟨cur, hc⟩ := h.a.kind k hk
    exact .inr ⟨cur, _, hc, .inr (.inl rfl)⟩
  · obtain ⟨cur, hc⟩ := (h.v e).kind k hk
    exact .inr ⟨cur, _, hc, .inr (.inr rfl)⟩
theorem Bk.off_cl {B : Nat} {w : World} {b m c : Nat} {av : Value} {vs : Fin 6 → Value} {q : Rs} {t : TypeId} {cc : List Value} (h : Bk B w b m av vs q) (hc : Cl w c t cc) (ht : t ≠ 60 ∧ t ≠ 63 ∧ t ≠ 5) : ¬ XK b m av vs c := fun hk => by
  have hc' : w.heap[c]? = some (.cells cc.toArray t (0, 0)) := hc
  rcases h.kind c hk with ⟨a, k, e⟩ | ⟨cur, u, e, hu⟩
  · rw [hc'] at e
    cases e
  · rw [hc'] at e
    injection e with e
    injection e with _ e
    rw [← e] at hu
    rcases hu with hu | hu | hu
    · exact ht.1 hu
    · exact ht.2.1 hu
    · exact ht.2.2 hu
theorem Bk.off_row {B C : Nat} {w : World} {b m size n : Nat} {av r : Value} {vs : Fin 6 → Value} {q : Rs} {t : TypeId} {xs : List Value} (h : Bk B w b m av vs q) (hc : RowO w C t size r n xs) (ht : t ≠ 60 ∧ t ≠ 63 ∧ t ≠ 5) (g : Nat) (hg : r.ownBlock = some g) : ¬ XK b m av vs g := fun hk => by
  obtain ⟨cc, hc'⟩ := hc.kind g hg
  rcases h.kind g hk with ⟨a, k, e⟩ | ⟨cur, u, e, hu⟩
  · rw [hc'] at e
    cases e
  · rw [hc'] at e
    injection e with e
    injection e with _ e
    rw [← e] at hu
    rcases hu with hu | hu | hu
    · exact ht.1 hu
    · exact ht.2.1 hu
    · exact ht.2.2 hu
/-- A vector is laid anew. -/
theorem Bk.vset {B : Nat} {w w' : World} {b m : Nat} {av u : Value} {vs : Fin 6 → Value} {q : Rs} (h : Bk B w b m av vs q) (e : Fin 6) (V : List Int) (hk : Cl w' b 60 ((bCs av m vs).set (2 + e.1) u)) (hu : RowO w' B 5 1 u V.length (uCs V)) (ha : Apart (fun k => k = b ∨ (vs e).ownBlock = some k) w w') (hn : u.ownBlock = none ∨ u.ownBlock = (vs e).ownBlock ∨ ∃ g, w.heap.size ≤ g ∧ u.ownBlock = some g) : BStp B w w' b m av vs ⟨q.d, upd q.v e V⟩ := by
  rw [bCs_set] at hk
  have hX : ∀ f, f ≠ e → ∀ g, (vs f).ownBlock = some g → ¬ (g = b ∨ (vs e).ownBlock = some g) := fun f hf g hg i => by
    rcases i with i | i
    · subst i
      exact (h.v f).ne_cl h.k (by decide) hg
    · exact hf (h.ap f e g hg i)
  have hfar : ∀ f, f ≠ e → ∀ g, (vs f).ownBlock = some g → u.ownBlock ≠ some g := fun f hf g hg hu => by
    rcases hn with i | i | ⟨g', hg', i⟩
    · rw [i] at hu
      cases hu
    · exact hf (h.ap f e g hg (i.symm.trans hu))
    · rw [i] at hu
      have := Option.some.inj hu
      have := ((h.v f).lt g hg).2
      omega
  refine ⟨av, upd vs e u, ⟨h.g, h.gm, hk, h.a.stay ha (fun g hg i => ?_), h.m.stay ha (fun i => ?_), fun f => ?_, fun f f' g hf hf' => ?_⟩, ha.wide (fun k _ i => ?_), fun k i => ?_⟩
  · rcases i with i | i
    · subst i
      exact h.a.ne_cl h.k (by decide) hg
    · exact h.a.ne_row (h.v e) (by decide) hg i
  · rcases i with i | i
    · exact h.nm i.symm
    · exact h.m.ne_row (h.v e) i rfl
  · by_cases hf : f = e
    · subst hf
      rw [upd_same]
      show RowO w' B _ 1 u (upd q.v f V f).length (uCs (upd q.v f V f))
      rw [upd_same]
      exact hu
    · rw [upd_other _ _ _ _ hf]
      show RowO w' B _ 1 (vs f) (upd q.v e V f).length (uCs (upd q.v e V f))
      rw [upd_other _ _ _ _ hf]
      exact (h.v f).stay ha (hX f hf)
  · by_cases h1 : f = e
    · by_cases h2 : f' = e
      · rw [h1, h2]
      · rw [h1, upd_same] at hf
        rw [upd_other _ _ _ _ h2] at hf'
        exact absurd hf (hfar f' h2 g hf')
    · rw [upd_other _ _ _ _ h1] at hf
      by_cases h2 : f' = e
      · rw [h2, upd_same] at hf'
        exact absurd hf' (hfar f h1 g hf)
      · rw [upd_other _ _ _ _ h2] at hf'
        exact h.ap f f' g hf hf'
  · rcases i with i | i
    · exact .inl i
    · exact .inr (.inr (.inr ⟨e, i⟩))
  · rcases i with i | i | i | ⟨f, i⟩
    · exact .inl (.inl i)
    · exact .inl (.inr (.inl i))
    · exact .inl (.inr (.inr (.inl i)))
    · by_cases hf : f = e
      · rw [hf, upd_same] at i
        rcases hn with j | j | ⟨g', hg', j⟩
        · rw [j] at i
          cases i
        · exact .inl (.inr (.inr (.inr ⟨e, j.symm.trans i⟩)))
        · rw [j] at i
          have := Option.some.inj i
          exact .inr (by omega)
      · rw [upd_other _ _ _ _ hf] at i
        exact .inl (.inr (.inr (.inr ⟨f, i⟩)))
set_option maxHeartbeats 1000000 in
theorem new_any (w : World) : Calls Try.prog 23 #[] w fun r w' => r = .returned (.pointer (some ⟨w.heap.size + 1, 0, none⟩)) ∧ Bk w.heap.size w' (w.heap.size + 1) w.heap.size (.slice none 0 0) (fun _ => .slice none 0 0) q0 ∧ Below w.heap.size w w' := by
  have hmm := @run_makeMap Try.prog
  have HB : Below w.heap.size w ((w.alloc (.map #[] 0)).alloc (.cells #[.slice none 0 0, .map (some w.heap.size), .slice none 0 0, .slice none 0 0, .slice none 0 0, .slice none 0 0, .slice none 0 0, .slice none 0 0] 60)) := ((Below.refl _ w).alloc (Nat.le_refl _) _).alloc (by simp) _
  have m1 : Mq ((w.alloc (.map #[] 0)).alloc (.cells #[.slice none 0 0, .map (some w.heap.size), .slice none 0 0, .slice none 0 0, .slice none 0 0, .slice none 0 0, .slice none 0 0, .slice none 0 0] 60)) w.heap.size [] := (Mq.new w).below (below_new _ _)
  have hr : Cl ((w.alloc (.map #[] 0)).alloc (.cells #[.slice none 0 0, .map (some w.heap.size), .slice none 0 0, .slice none 0 0, .slice none 0 0, .slice none 0 0, .slice none 0 0, .slice none 0 0] 60)) (w.heap.size + 1) 60 (bCs (.slice none 0 0) w.heap.size (fun _ => .slice none 0 0)) := by
    have := Cl.new (w.alloc (.map #[] 0)) 60 (bCs (.slice none 0 0) w.heap.size (fun _ => .slice none 0 0))
    rw [World.size_alloc] at this
    exact this
  go_enter Try.func23, Try.ntmps23
  go_wp2
  go_ret
  exact ⟨rfl, ⟨by omega, Nat.le_refl _, hr, RowO.nil _ _ _ _, m1, fun _ => RowO.nil _ _ _ _, fun e f g h => by cases h⟩, HB⟩
def outQ (x : Int) (q : Rs) : Rs := ⟨q.d.filter (fun d => !ofP x d), fun e => if (e.1 : Int) = x then [] else q.v e⟩
def outN (x : Int) (q : Rs) : Nat := (q.d.filter (ofP x)).length
theorem out_bad {x : Int} {q : Rs} {N : Nat} (hO : q.Ok N) (h : 6 ≤ x) : outN x q = 0 ∧ outQ x q = q := by
  have hf : ∀ d ∈ q.d, ofP x d = false := fun d hd => by
    have := (hO.rng d hd).2.1
    exact decide_eq_false (by omega)
  have hv : (fun e : Fin 6 => if (e.1 : Int) = x then [] else q.v e) = q.v := funext fun e => if_neg (by have := e.2; omega)
  refine ⟨?_, ?_⟩
  · unfold outN
    rw [List.filter_eq_nil_iff.2 (fun d hd => by simp [hf d hd])]
    rfl
  · unfold outQ
    rw [hv, List.filter_eq_self.2 (fun d hd => by simp [hf d hd])]
set_option maxHeartbeats 2000000 in
theorem outc_any (B b m : Nat) (av : Value) (vs : Fin 6 → Value) (q : Rs) (N : Nat) (x : Int) (hx : 0 ≤ x) (w : World) (h : Bk B w b m av vs q) (hO : q.Ok N) : Calls Try.prog 12 #[.pointer (some ⟨b, 0, none⟩), .int .u8 x] w fun e w' => e = .returned (.int .i64 (outN x q)) ∧ BStp B w w' b m av vs (outQ x q) := by
  have hX := below_new w (.cells #[.int .u8 x] 5)
  have hbl := h.c.l
  by_cases h6 : 6 ≤ x
  · rw [(out_bad hO h6).1, (out_bad hO h6).2]
    have HS := Hid3.mk (BStp.same h hX)
    clear h hO hX
    go_enter Try.func12, Try.ntmps12
    go_wp2
    go_ret
    exact ⟨rfl, HS.out⟩
  · obtain ⟨k, rfl⟩ : ∃ k : Nat, x = k := ⟨x.toNat, by omega⟩
    have hk6 : k < 6 := by omega
    have hk7 : (k : Int) < 6 := by omega
    have hB1 := h.below hX
    have HE : Hid3 (outQ k q = ⟨q.d.filter (fun d => !ofP k d), upd q.v ⟨k, hk6⟩ []⟩) := ⟨by
      unfold outQ
      congr 1
      funext e
      unfold upd
      by_cases he : e = ⟨k, hk6⟩
      · rw [if_pos he, if_pos (by rw [he])]
      · rw [if_neg he, if_neg (fun i => he (Fin.ext (by have : (e.1 : Int) = (k : Int) := i; exact Int.ofNat.inj this)))]⟩
    have c1 := hB1.c.cv ⟨k, hk6⟩
    have f1 := hB1.c.f (2 + k)
    have hl1 := hB1.c.l
    have hbx := Cl.new w 5 [.int .u8 (k : Int)]
    obtain ⟨av2, vs2, g1, g2, g3⟩ := (Bk.vset (u := .slice none 0 0) hB1 ⟨k, hk6⟩ [] (hB1.k.set _ _) (RowO.nil _ _ _ _) (Apart.at _ b _ _ (.inl rfl)) (.inl rfl)).out
    have hbx2 : ((w.alloc (.cells #[.int .u8 (k : Int)] 5)).setCell ⟨b, 2 + k, none⟩ (.slice none 0 0)).drew.cell? ⟨w.heap.size, 0, none⟩ = some (.int .u8 (k : Int)) := (hbx.other (by omega) _ _).cell 0
    have hO2 : Rs.Ok ⟨q.d, upd q.v ⟨k, hk6⟩ []⟩ N := ⟨hO.few, hO.keys, hO.rng, fun e => by
      by_cases he : e = ⟨k, hk6⟩
      · subst he
        show (upd q.v _ [] _).length + q.d.length ≤ N
        rw [upd_same]
        have := hO.vec ⟨k, hk6⟩
        simp only [List.length_nil]
        omega
      · show (upd q.v _ [] e).length + q.d.length ≤ N
        rw [upd_other _ _ _ _ he]
        exact hO.vec e⟩
    have cO := out_any 30 #[.pointer (some ⟨w.heap.size, 0, none⟩)] (ofP k) eOut B b m av2 vs2 _ N _ (g1.below (below_drew _)) hO2 (outP k w.heap.size _ _ hbx2)
    have HX := Hid3.mk hX
    have HT : Hid3 (∀ W3, BStp B ((w.alloc (.cells #[.int .u8 (k : Int)] 5)).setCell ⟨b, 2 + k, none⟩ (.slice none 0 0)).drew W3 b m av2 vs2 ⟨q.d.filter (fun d => !ofP k d), upd q.v ⟨k, hk6⟩ []⟩ → BStp B w W3 b m av vs ⟨q.d.filter (fun d => !ofP k d), upd q.v ⟨k, hk6⟩ []⟩) := ⟨fun W3 hs => BStp.pre hX (BStp.trans g2 g3 (BStp.pre (below_drew _) hs))⟩
    have hlen : (q.d.filter (ofP k)).length ≤ 8 := Nat.le_trans (List.length_filter_le _ _) hO.few
    have z0 : (w.alloc (.cells #[.int .u8 (k : Int)] 5)).cell? ⟨w.heap.size, 0, none⟩ = some (.int .u8 (k : Int)) := hbx.cell 0
    obtain ⟨ak, ck, hck⟩ := (hB1.v ⟨k, hk6⟩).sl
    rw [hck] at c1
    simp only at c1
    rw [HE.out]
    unfold outN
    clear h hO hX hB1 hbx hO2 g1 g2 g3 HE hck
    go_enter Try.func12, Try.ntmps12
    go_wp2_with fail
    generalize (w.alloc (.cells #[.int .u8 (k : Int)] 5)) = W1 at *
    refine still_tail 5 (by kernel_rfl) (by kernel_rfl) ?_
    simp only [List.take_succ_cons, List.take_zero, List.drop_succ_cons, List.drop_zero]
    repeat still_step
    refine wpStill_nil ?_
    go_wp2_with fail
    refine cO.mono ?_
    rintro e W ⟨r, rfl, hR⟩
    obtain ⟨a1, k1, hr1⟩ := hR.row.sl
    subst hr1
    have HS := Hid3.mk (HT.out _ (BStp.of_out (av := av2) hR))
    clear hR cO HT
    go_wp2
    go_ret
    exact ⟨rfl, HS.out⟩
end Go.Proofs.Ytpmndhbcohjboaa
