/- Both books side by side; Same. -/
import Derived.Test.YtpmndhbcohjboaaRvV
namespace Go.Proofs.Ytpmndhbcohjboaa
open Go.RowKit Go.Maps
set_option linter.unusedVariables false
set_option maxRecDepth 100000
theorem eqGuardA : Try.prog.eqGuardType Try.prog.depth 39 = false := by kernel_rfl
theorem eqA (w : World) (a b c : Int) : (Op.equalIn 10000 39 (.agg #[.int .u8 a, .int .u8 b, .int .i64 c]) (.agg #[.int .u8 a, .int .u8 b, .int .i64 c])).run Try.prog w = .ok true w := by
  show (Op.equalIn (9998 + 1 + 1) 39 _ _).run Try.prog w = _
  rw [Op.equalIn]
  simp only [Sem.run_bind, run_underlying Try.underlying39, Result.andThen_ok]
  simp [go_sem]
set_option maxHeartbeats 2000000 in
theorem same_any (B C : Nat) (u v : Value) (L : List Dm) (w : World) (h1 : RowO w B 39 3 u L.length (aCs L)) (h2 : RowO w C 39 3 v L.length (aCs L)) (hl : L.length ≤ 8) : Calls Try.prog 27 #[u, v] w fun e w' => e = .returned (.bool true) ∧ Below w.heap.size w w' := by
  obtain ⟨a1, k1, rfl⟩ := h1.sl
  obtain ⟨a2, k2, rfl⟩ := h2.sl
  have H1 := Hid3.mk h1
  have H2 := Hid3.mk h2
  have eG := eqGuardA
  clear h1 h2
  go_enter Try.func27, Try.ntmps27
  go_wp2
  go_loopw [5] (fun s5 wr => ∃ kk : Nat, kk ≤ L.length ∧ s5 = .int .i64 kk ∧ Hid3 (Below w.heap.size w wr)) (fun s5 _ => L.length - (intOf s5).toNat)
  case atStart => exact ⟨0, Nat.zero_le _, rfl, ⟨Below.refl _ _⟩⟩
  case round =>
    obtain ⟨kk, hkk, rfl, HB⟩ := hrel
    by_cases hlt : kk < L.length
    · have hltz : (kk : Int) < (L.length : Int) := by omega
      obtain ⟨g1, o1, rfl, hg1, x0, x1, x2⟩ := Row3.at (H1.out.below HB.out) kk hlt
      obtain ⟨g2, o2, rfl, hg2, y0, y1, y2⟩ := Row3.at (H2.out.below HB.out) kk hlt
      have eM := fun W => eqA W L[kk].1 L[kk].2.1 L[kk].2.2
      generalize L[kk].1 = z0 at *
      generalize L[kk].2.1 = z1 at *
      generalize L[kk].2.2 = z2 at *
      have HB2 := Hid3.mk HB.out.drew
      go_wp2_with fail
      refine still_tail 8 (by kernel_rfl) (by kernel_rfl) ?_
      simp only [List.take_succ_cons, List.take_zero, List.drop_succ_cons, List.drop_zero]
      repeat still_step
      refine wpStill_nil ?_
      go_wp2
      go_roundw
      case rel => exact ⟨kk + 1, by omega, by go_num, HB2⟩
      case measure => simp [intOf]; omega
    · have hltz : ¬ (kk : Int) < (L.length : Int) := by omega
      go_wp2
      go_ret
      exact ⟨rfl, HB.out⟩
theorem dget_none_mem {L : List Dm} {x y : Int} (h : dget L x y = none) : ∀ d ∈ L, ¬ (d.1 = x ∧ d.2.1 = y) := fun d hd e => by
  unfold dget at h
  have := List.find?_eq_none.1 (Option.map_eq_none_iff.1 h) d hd
  simp [hasK, e.1, e.2] at this
theorem ask_ok {x y n k : Int} {q : Rs} {N : Nat} (hx : 0 ≤ x) (hy : 0 ≤ y) (h : q.Ok N) : (askQ x y n k q).Ok (N + 1) := by
  have hup : q.Ok (N + 1) := ⟨h.few, h.keys, h.rng, fun e => Nat.le_succ_of_le (h.vec e)⟩
  unfold askQ
  split
  · rename_i he
    unfold askE at he
    split at he
    · cases he
    · rename_i hb
      split at he
      · cases he
      · rename_i hs
        split at he
        · cases he
        · rename_i h8
          have hn : dget q.d x y = none := by simpa using hs
          have hfew := h.few
          unfold askBad at hb
          refine ⟨?_, ?_, fun d hd => ?_, fun e => ?_⟩
          · show (q.d ++ [(x, y, n + k)]).length ≤ 8
            rw [List.length_append]
            simp only [List.length_cons, List.length_nil]
            omega
          · show KeysD (q.d ++ [(x, y, n + k)])
            refine List.pairwise_append.2 ⟨h.keys, List.pairwise_singleton _ _, fun a ha b hb => ?_⟩
            have : b = (x, y, n + k) := by simpa using hb
            subst this
            exact dget_none_mem hn a ha
          · have hd : d ∈ q.d ++ [(x, y, n + k)] := hd
            rcases List.mem_append.1 hd with hd | hd
            · exact h.rng d hd
            · have : d = (x, y, n + k) := by simpa using hd
              subst this
              refine ⟨hx, ?_, hy, ?_, ?_, ?_⟩ <;> simp only <;> omega
          · show (q.v e).length + (q.d ++ [(x, y, n + k)]).length ≤ N + 1
            have := h.vec e
            rw [List.length_append]
            simp only [List.length_cons, List.length_nil]
            omega
  · exact hup
theorem filt_ok {q : Rs} {N : Nat} (h : q.Ok N) (p : Dm → Bool) (V : Fin 6 → List Int) (hv : ∀ e, (V e).length + (q.d.filter p).length ≤ N + 1) : Rs.Ok ⟨q.d.filter p, V⟩ (N + 1) :=
  ⟨Nat.le_trans (List.length_filter_le _ _) h.few, h.keys.sub p, fun d hd => h.rng d (List.mem_filter.1 hd).1, hv⟩
theorem done_ok {x y : Int} {q : Rs} {N : Nat} (h : q.Ok N) : (doneQ x y q).Ok (N + 1) :=
  filt_ok h _ _ (fun e => by
    have := h.vec e
    have := List.length_filter_le (fun d => !hasK x y d) q.d
    omega)
theorem out_ok {x : Int} {q : Rs} {N : Nat} (h : q.Ok N) : (outQ x q).Ok (N + 1) :=
  filt_ok h _ _ (fun e => by
    have := h.vec e
    have := List.length_filter_le (fun d => !ofP x d) q.d
    split
    · simp only [List.length_nil]
      omega
    · omega)
theorem filt_len (L : List Dm) (p : Dm → Bool) : (L.filter p).length + (L.filter (fun d => !p d)).length = L.length := by
  induction L with
  | nil => rfl
  | cons d L ih =>
    cases hp : p d <;> simp [hp] <;> omega
theorem due_ok {t : Int} {q : Rs} {N : Nat} (h : q.Ok N) : (dueQ t q).Ok (N + 1) :=
  filt_ok h _ _ (fun e => by
    have h1 := h.vec e
    have h2 := layV_len (dueL t q) q.v e
    have h3 := filt_len q.d (dueP t)
    unfold dueL at h2
    unfold dueL
    omega)
theorem next_ok {x : Int} {q : Rs} {N : Nat} (h : q.Ok N) : (nextQ x q).Ok (N + 1) :=
  ⟨h.few, h.keys, h.rng, fun e => by
    have := h.vec e
    show (if (e.1 : Int) = x then (q.v e).tail else q.v e).length + q.d.length ≤ N + 1
    split
    · rw [List.length_tail]
      omega
    · omega⟩
/-- Both. -/
structure Two (Bp B : Nat) (w : World) (b m rb : Nat) (av lv : Value) (vs ls : Fin 6 → Value) (q : Rs) : Prop where
  t : Bk Bp w b m av vs q
  r : Rk B w rb lv ls q
  g : Bp ≤ rb
  le : B ≤ Bp
  ne : ∀ k, XK b m av vs k → YK rb lv ls k → False
theorem Two.below {Bp B : Nat} {w w' : World} {b m rb : Nat} {av lv : Value} {vs ls : Fin 6 → Value} {q : Rs} (h : Two Bp B w b m rb av lv vs ls q) (k : Below w.heap.size w w') : Two Bp B w' b m rb av lv vs ls q := ⟨h.t.below k, h.r.below k, h.g, h.le, h.ne⟩
structure Mv (Bp B : Nat) (w w' : World) (b m rb : Nat) (q : Rs) : Prop where
  two : ∃ av lv vs ls, Two Bp B w' b m rb av lv vs ls q
  below : Below Bp w w'
theorem Two.rstay {Bp B : Nat} {w w' : World} {b m rb : Nat} {av lv : Value} {vs ls : Fin 6 → Value} {q : Rs} (h : Two Bp B w b m rb av lv vs ls q) (k : Apart (XK b m av vs) w w') : Rk B w' rb lv ls q := h.r.stay k (fun i e f => h.ne i e f)
theorem Two.mv {Bp B : Nat} {w W1 W1' W2 : World} {b m rb : Nat} {av lv : Value} {vs ls : Fin 6 → Value} {q q' : Rs} (h : Two Bp B w b m rb av lv vs ls q) (s : BStp Bp w W1 b m av vs q') (k : Below W1.heap.size W1 W1') (r : RStp B W1' W2 rb lv ls q') : Mv Bp B w W2 b m rb q' := by
  obtain ⟨av', vs', s1, s2, s3⟩ := s.out
  obtain ⟨lv', ls', r1, r2, r3⟩ := r.out
  have hrl := h.r.k.lt
  have s1' := s1.below k
  have hrx : ¬ XK b m av' vs' rb := fun e => by
    rcases s3 rb e with e | e
    · exact h.ne rb e (.inl rfl)
    · omega
  refine ⟨⟨av', lv', vs', ls', ⟨s1'.stay r2 (fun i e f => ?_), r1, h.g, h.le, fun i e f => ?_⟩⟩, ?_⟩
  · have e : i = rb := e
    subst e
    exact hrx f
  · have hi := (s1'.lt i e).2
    rcases r3 i f with f | f
    · rcases s3 i e with e | e
      · exact h.ne i e f
      · have := (h.r.lt i f).2
        omega
    · omega
  · have hB : Bp ≤ w.heap.size := Nat.le_trans h.g (Nat.le_of_lt hrl)
    have b1 : Below Bp w W1 := s2.below Bp (fun i e => (h.t.lt i e).1) hB
    have b2 : Below Bp w W1' := b1.trans (k.mono (Nat.le_trans hB b1.size))
    exact b2.trans (r2.below Bp (fun i e => by have e : i = rb := e; rw [e]; exact h.g) (Nat.le_trans hB b2.size))
theorem Mv.pre {Bp B : Nat} {a a' c : World} {b m rb : Nat} {q' : Rs} (h : Below a.heap.size a a') (hB : Bp ≤ a.heap.size) (k : Mv Bp B a' c b m rb q') : Mv Bp B a c b m rb q' := ⟨k.two, (h.mono hB).trans k.below⟩
theorem Mv.post {Bp B : Nat} {a c c' : World} {b m rb : Nat} {q' : Rs} (k : Mv Bp B a c b m rb q') (h : Below c.heap.size c c') (hB : Bp ≤ c.heap.size) : Mv Bp B a c' b m rb q' := by
  obtain ⟨av, lv, vs, ls, t⟩ := k.two
  exact ⟨⟨av, lv, vs, ls, t.below h⟩, k.below.trans (h.mono hB)⟩
theorem Mv.same {Bp B : Nat} {w w' : World} {b m rb : Nat} {av lv : Value} {vs ls : Fin 6 → Value} {q : Rs} (h : Two Bp B w b m rb av lv vs ls q) (k : Below w.heap.size w w') : Mv Bp B w w' b m rb q := ⟨⟨av, lv, vs, ls, h.below k⟩, k.mono (Nat.le_trans h.g (Nat.le_of_lt h.r.k.lt))⟩
end Go.Proofs.Ytpmndhbcohjboaa
