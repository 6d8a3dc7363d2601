/- The program's vm: what must be whatever is asked. -/
import Derived.Test.YtfmcoibpbcheiaaVmL
namespace Go.Proofs.Ytfmcoibpbcheiaa
open Go.RowKit Go.Maps
set_option linter.unusedVariables false
set_option maxRecDepth 100000
def lv1 : Vs := { (vs0 3) with has := upF (vs0 3).has 0 true, pg := upF (vs0 3).pg 0 (fun _ => none) }
def lv2 : Vs := { lv1 with pg := upF lv1.pg 0 (upI (lv1.pg 0) 0 (some (-1))) }
def lv3 : Vs := pkS (jnS lv2 0) 0 5 0 7
def lv4 : Vs := fkS lv3 0 1
def lv5 : Vs := pkS (alS lv4 0 1) 1 5 1 8
theorem lv3_pg : lv3.pg 0 = fun k => if k = 0 then some 0 else none := by
  funext k
  show upF lv2.pg 0 (upI (lv2.pg 0) ((5 / 32 : Nat) : Int) (some ((0 : Nat) : Int))) 0 k = _
  rw [upF_same]
  show upI (upF lv1.pg 0 (upI (lv1.pg 0) 0 (some (-1))) 0) ((5 / 32 : Nat) : Int) (some ((0 : Nat) : Int)) k = _
  rw [upF_same]
  show upI (upI (upF (vs0 3).pg 0 (fun _ => none) 0) 0 (some (-1))) ((5 / 32 : Nat) : Int) (some ((0 : Nat) : Int)) k = _
  rw [upF_same]
  unfold upI
  by_cases hk : k = 0
  · subst hk
    rfl
  · have h2 : ¬ k = ((5 / 32 : Nat) : Int) := hk
    rw [if_neg h2, if_neg hk, if_neg hk]
theorem lv3_pgs : Pgs (lv3.pg 0) := fun z v hz => by
  rw [lv3_pg] at hz
  by_cases e : z = 0
  · simp only [e, if_true] at hz
    injection hz with hz
    omega
  · simp only [if_neg e] at hz
    cases hz
theorem lv3_rf : ∀ j, j < 64 → 0 ≤ lv3.rf.getD j 0 ∧ lv3.rf.getD j 0 ≤ 500 := by decide +kernel
theorem lv4_rf0 : lv4.rf.getD 0 0 = 2 := by decide +kernel
theorem lv4_rf1 : lv4.rf.getD 1 0 = 0 := by decide +kernel
theorem lv4_z : 1 ≤ zrs (fun k => lv4.rf.getD k 0) 3 := by decide +kernel
theorem lv5_z : zrs (fun k => lv5.rf.getD k 0) 3 = 1 := by decide +kernel
theorem lv5_a : lv5.L.getD (0 * 32 + 5 % 32) 0 = 7 := by decide +kernel
theorem lv5_b : lv5.L.getD (1 * 32 + 5 % 32) 0 = 8 := by decide +kernel
theorem lv5_p0 : lv5.pg 0 ((5 / 32 : Nat) : Int) = some ((0 : Nat) : Int) := by decide +kernel
theorem lv5_p1 : lv5.pg 1 ((5 / 32 : Nat) : Int) = some ((1 : Nat) : Int) := by decide +kernel
theorem lv4_p1 : lv4.pg 1 ((5 / 32 : Nat) : Int) = some (((0 : Nat) : Int)) := by decide +kernel
theorem lv4_cp : lv4.cp = 0 := rfl
/-- A vm that stands so, made since. -/
structure Lw (w W : World) (vb : Nat) (s : Vs) : Prop where
  v : ∃ l, l.b = vb ∧ Vb w.heap.size W l s
  k : Below w.heap.size w W
theorem Lw.go {w W W' : World} {vb : Nat} {s t : Vs} {l l' : Lo} (h : Lw w W vb s) (e : l'.b = vb) (v : Vb w.heap.size W' l' t) (ap : Below w.heap.size W W') : Lw w W' vb t := ⟨⟨l', e, v⟩, h.k.trans ap⟩
theorem lw_begin (w W : World) (vb : Nat) (h : Lw w W vb (vs0 3)) : Calls Try.prog 21 #[.pointer (some ⟨vb, 0, none⟩), .int .i64 0] W fun r w' => r = .returned (.int .i64 0) ∧ Lw w w' vb lv1 := by
  obtain ⟨l, rfl, hv⟩ := h.v
  refine Calls.mono (begin_ok w.heap.size l (vs0 3) 0 W hv h.k.size rfl) ?_
  rintro r w' ⟨rfl, h1, h2⟩
  exact ⟨rfl, ⟨⟨l.b, l.m, upF l.r 0 W.heap.size⟩, rfl, h1⟩, h.k.trans (h2.below _ (fun k (e : k = l.b) => e ▸ hv.g) h.k.size)⟩
theorem lw_map (w W : World) (vb : Nat) (h : Lw w W vb lv1) : Calls Try.prog 22 #[.pointer (some ⟨vb, 0, none⟩), .int .i64 0, .int .i64 0] W fun r w' => r = .returned (.int .i64 0) ∧ Lw w w' vb lv2 := by
  obtain ⟨l, rfl, hv⟩ := h.v
  refine Calls.mono (map_ok w.heap.size l lv1 0 0 W hv rfl ⟨by omega, by omega⟩ rfl) ?_
  rintro r w' ⟨rfl, h1, h2⟩
  exact ⟨rfl, ⟨l, rfl, h1⟩, h.k.trans (h2.below _ (fun k (e : k = l.r 0) => e ▸ (hv.sp 0 rfl).1) h.k.size)⟩
theorem lw_poke1 (w W : World) (vb : Nat) (h : Lw w W vb lv2) : Calls Try.prog 23 #[.pointer (some ⟨vb, 0, none⟩), .int .i64 0, .int .i64 5, .int .u8 7] W fun r w' => r = .returned (.int .i64 0) ∧ Lw w w' vb lv3 := by
  obtain ⟨l, rfl, hv⟩ := h.v
  have hx : Nx lv2 3 0 := ⟨rfl, by omega, rfl, fun j hj => by omega⟩
  have hAl : Al w.heap.size l lv2 (-1) 0 (jnS lv2 0) := ⟨fun W' k => alone_no w.heap.size l lv2 3 0 hx W' k, rfl, rfl, rfl⟩
  have hz := zrs_pos (fun k => lv2.rf.getD k 0) 0 hx.z 3 (by omega)
  have hnd : ndI lv2 (-1) ≤ zrs (fun k => lv2.rf.getD k 0) 3 := by
    unfold ndI
    split <;> omega
  refine Calls.mono (poke_one w.heap.size l lv2 (jnS lv2 0) 3 0 5 0 (-1) 7 W hv rfl rfl (by omega) rfl (.inl rfl) (by omega) hnd hAl) ?_
  rintro r w' ⟨rfl, h1, h2⟩
  exact ⟨rfl, ⟨l, rfl, h1⟩, h.k.trans (h2.below _ (fun _ hi => hv.ge hi) h.k.size)⟩
theorem lw_fork (w W : World) (vb : Nat) (h : Lw w W vb lv3) : Calls Try.prog 24 #[.pointer (some ⟨vb, 0, none⟩), .int .i64 0, .int .i64 1] W fun r w' => r = .returned (.int .i64 0) ∧ Lw w w' vb lv4 := by
  obtain ⟨l, rfl, hv⟩ := h.v
  refine Calls.mono (vfork_ok w.heap.size l lv3 0 1 W hv h.k.size rfl rfl lv3_pgs lv3_rf) ?_
  rintro r w' ⟨rfl, h1, h2⟩
  exact ⟨rfl, ⟨⟨l.b, l.m, upF l.r 1 W.heap.size⟩, rfl, h1⟩, h.k.trans (h2.below _ (fun _ hi => hv.ge hi) h.k.size)⟩
theorem lw_poke2 (w W : World) (vb : Nat) (h : Lw w W vb lv4) : Calls Try.prog 23 #[.pointer (some ⟨vb, 0, none⟩), .int .i64 1, .int .i64 5, .int .u8 8] W fun r w' => r = .returned (.int .i64 0) ∧ Lw w w' vb lv5 := by
  obtain ⟨l, rfl, hv⟩ := h.v
  have hx : Nx lv4 3 1 := ⟨rfl, by omega, lv4_rf1, fun j hj e => by
    obtain rfl : j = 0 := by omega
    rw [lv4_rf0] at e
    cases e⟩
  have hr := lv4_rf0
  have hc := lv4_cp
  have hAl : Al w.heap.size l lv4 ((0 : Nat) : Int) 1 (alS lv4 ((0 : Nat) : Int) 1) := ⟨fun W' k => alone_cp w.heap.size l lv4 3 1 0 hx (by omega) (by omega) (by omega) W' k, rfl, rfl, rfl⟩
  have hz := lv4_z
  have hnd : ndI lv4 ((0 : Nat) : Int) ≤ zrs (fun k => lv4.rf.getD k 0) 3 := by
    unfold ndI
    split <;> omega
  refine Calls.mono (poke_one w.heap.size l lv4 (alS lv4 ((0 : Nat) : Int) 1) 3 1 5 1 ((0 : Nat) : Int) 8 W hv rfl rfl (by omega) lv4_p1 (.inr ⟨by omega, by omega⟩) (by omega) hnd hAl) ?_
  rintro r w' ⟨rfl, h1, h2⟩
  exact ⟨rfl, ⟨l, rfl, h1⟩, h.k.trans (h2.below _ (fun _ hi => hv.ge hi) h.k.size)⟩
theorem lw_peek1 (w W : World) (vb : Nat) (h : Lw w W vb lv5) : Calls Try.prog 16 #[.pointer (some ⟨vb, 0, none⟩), .int .i64 0, .int .i64 5] W fun r w' => r = .returned (.tuple #[.int .u8 7, .int .i64 0]) ∧ w' = W := by
  obtain ⟨l, rfl, hv⟩ := h.v
  have c := peek_ok w.heap.size l lv5 0 5 0 W hv rfl (by omega) lv5_p0 (by show (0 : Int) < 3; omega)
  rw [lv5_a] at c
  exact c
theorem lw_peek2 (w W : World) (vb : Nat) (h : Lw w W vb lv5) : Calls Try.prog 16 #[.pointer (some ⟨vb, 0, none⟩), .int .i64 1, .int .i64 5] W fun r w' => r = .returned (.tuple #[.int .u8 8, .int .i64 0]) ∧ w' = W := by
  obtain ⟨l, rfl, hv⟩ := h.v
  have c := peek_ok w.heap.size l lv5 1 5 1 W hv rfl (by omega) lv5_p1 (by show (1 : Int) < 3; omega)
  rw [lv5_b] at c
  exact c
theorem lw_copies (w W : World) (vb : Nat) (h : Lw w W vb lv5) : Calls Try.prog 25 #[.pointer (some ⟨vb, 0, none⟩)] W fun r w' => r = .returned (.int .i64 1) ∧ w' = W := by
  obtain ⟨l, rfl, hv⟩ := h.v
  exact copies_ok w.heap.size l lv5 W hv
theorem lw_left (w W : World) (vb : Nat) (h : Lw w W vb lv5) : Calls Try.prog 12 #[.pointer (some ⟨vb, 0, none⟩)] W fun r w' => r = .returned (.int .i64 1) ∧ Below W.heap.size W w' := by
  obtain ⟨l, rfl, hv⟩ := h.v
  have c := vleft_any w.heap.size l lv5 3 rfl W hv
  rw [lv5_z] at c
  exact c
set_option maxHeartbeats 4000000 in
theorem live_ok (w : World) : Calls Try.prog 8 #[] w fun r w' => r = .returned (.bool true) ∧ Below w.heap.size w w' := by
  have cN := vnew_good 3 w (by omega) (by omega)
  go_enter Try.func8, Try.ntmps8
  go_wp2_with fail
  refine cN.mono ?_
  rintro r W0 ⟨l, rfl, hV, hB0⟩
  have H0 : Hid3 (Lw w W0 l.b (vs0 3)) := ⟨⟨l, rfl, hV⟩, hB0⟩
  generalize l.b = vb at *
  clear cN hV hB0
  go_wp2_with fail
  refine (lw_begin w W0 vb H0.out).mono ?_
  rintro r W1 ⟨rfl, h⟩
  have H1 := Hid3.mk h
  clear h H0
  go_wp2_with fail
  refine (lw_map w W1 vb H1.out).mono ?_
  rintro r W2 ⟨rfl, h⟩
  have H2 := Hid3.mk h
  clear h H1
  go_wp2_with fail
  refine (lw_poke1 w W2 vb H2.out).mono ?_
  rintro r W3 ⟨rfl, h⟩
  have H3 := Hid3.mk h
  clear h H2
  go_wp2_with fail
  refine (lw_fork w W3 vb H3.out).mono ?_
  rintro r W4 ⟨rfl, h⟩
  have H4 := Hid3.mk h
  clear h H3
  go_wp2_with fail
  refine (lw_poke2 w W4 vb H4.out).mono ?_
  rintro r W5 ⟨rfl, h⟩
  have H5 := Hid3.mk h
  clear h H4
  go_wp2_with fail
  refine (lw_peek1 w W5 vb H5.out).mono ?_
  rintro r W6 ⟨rfl, rfl⟩
  go_wp2_with fail
  refine (lw_peek2 w W6 vb H5.out).mono ?_
  rintro r W7 ⟨rfl, rfl⟩
  go_wp2_with fail
  refine (lw_copies w W7 vb H5.out).mono ?_
  rintro r W8 ⟨rfl, rfl⟩
  go_wp2_with fail
  refine (lw_left w W8 vb H5.out).mono ?_
  rintro r W9 ⟨rfl, hB⟩
  have HB := Hid3.mk (H5.out.k.trans (hB.mono H5.out.k.size))
  clear hB
  go_wp2
  go_ret
  exact ⟨rfl, HB.out⟩
end Go.Proofs.Ytfmcoibpbcheiaa
