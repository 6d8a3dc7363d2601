/- The program's table: Open, End. -/
import Derived.Test.YtbkpkcndmlapfaaFdF
namespace Go.Proofs.Ytbkpkcndmlapfaa
open Go.RowKit Go.Maps
set_option linter.unusedVariables false
set_option maxRecDepth 100000
def addO (s : Fs) (o : Opn) : Fs := { s with all := s.all ++ [o] }
def newL (L : Lo) (n a : Nat) : Lo := { L with o := fun i => if i = n then a else L.o i }
def opnS (s : Fs) (p : Fin 6) (k : Fin 8) (o : Opn) : Fs := setFd (addO s o) p k (s.all.length + 1)
theorem getO_add (s : Fs) (o : Opn) (m : Nat) (hm : m ≠ 0) (hl : m ≤ s.all.length) : getO (addO s o) m = getO s m := by
  unfold getO addO
  simp only [List.getD_eq_getElem?_getD]
  rw [List.getElem?_append_left (by omega)]
theorem getO_new (s : Fs) (o : Opn) : getO (addO s o) (s.all.length + 1) = o := by
  unfold getO addO
  simp only [List.getD_eq_getElem?_getD]
  rw [List.getElem?_append_right (by omega)]
  simp
theorem Fs.Ok.add {s : Fs} (h : s.Ok) (o : Opn) : (addO s o).Ok := ⟨fun p k => by have := h.le p k; unfold addO; rw [List.length_append]; show s.fd p k ≤ _; omega, h.no⟩
theorem cnt_new {s : Fs} (h : s.Ok) : cntN s.fd (s.all.length + 1) = 0 := cntN_no s.fd _ (fun p k e => by have := h.le p k; omega)
theorem Fb.grow {B : Nat} {w : World} {L : Lo} {s : Fs} (h : Fb B w L s) (o : Opn) (a : Nat) : Fb B w (newL L (s.all.length + 1) a) (addO s o) := by
  have hlo : ∀ m, Lv s m → m ≠ s.all.length + 1 := fun m hm => by have := h.ok.lv hm; omega
  have ho : ∀ m, Lv s m → (newL L (s.all.length + 1) a).o m = L.o m := fun m hm => if_neg (hlo m hm)
  refine ⟨fun p hp => ⟨(h.rg p hp).1, ?_⟩, h.ri, fun m hm => ?_, fun m m' hm hm' e => ?_, h.ok.add o⟩
  · have e : rCs ((addO s o).fd p) (newL L (s.all.length + 1) a).o = rCs (s.fd p) L.o := rCs_eq (s.fd p) L.o _ (fun k hk => ho _ (Lv.of_fd hk))
    rw [e]
    exact (h.rg p hp).2
  · have hm' : Lv s m := hm
    rw [ho m hm']
    have e : obC (addO s o) m = obC s m := by unfold obC; rw [getO_add s o m hm.1 (h.ok.lv hm')]; rfl
    rw [e]
    exact h.og m hm'
  · have h1 : Lv s m := hm
    have h2 : Lv s m' := hm'
    rw [ho m h1, ho m' h2] at e
    exact h.oi m m' h1 h2 e
def kindOk (k : Int) : Prop := k = 1 ∨ k = 2 ∨ k = 3
set_option maxHeartbeats 1000000 in
theorem open_ok (B : Nat) (L : Lo) (s : Fs) (p : Fin 6) (j : Fin 8) (o : Opn) (w : World) (h : Ft B w L s) (hB : B ≤ w.heap.size) (hp : s.has p = true) (ho : kindOk o.k) (hj : leastF (s.fd p) = some j) (h0 : s.fd p j = 0) : Calls Try.prog 14 #[.pointer (some ⟨L.t, 0, none⟩), .int .i64 p.1, .agg (opC o).toArray] w fun r w' => r = .returned (.tuple #[.int .i64 j.1, .int .i64 0]) ∧ FStp B w w' L s (opnS s p j o) := by
  have hX : Below w.heap.size w (w.alloc (.cells (opC o).toArray 32)) := below_new w _
  have cO := of_ok B L s p _ (h.below hX) hp
  obtain ⟨W2, hW2⟩ : ∃ W2, W2 = (w.alloc (.cells (opC o).toArray 32)).alloc (.cells #[.int .u8 o.k, .int .i64 o.r, .int .i64 o.p, .int .i64 0] 69) := ⟨_, rfl⟩
  have hX2 : Below w.heap.size w W2 := by rw [hW2]; exact hX.alloc (by simp) _
  have hb2 := (h.b.below hX2).grow o (w.heap.size + 1)
  have eo : (newL L (s.all.length + 1) (w.heap.size + 1)).o (s.all.length + 1) = w.heap.size + 1 := if_pos rfl
  have hC : Cl W2 (w.heap.size + 1) 69 (obC (addO s o) (s.all.length + 1)) := by
    unfold obC
    rw [getO_new]
    have e1 : (addO s o).fd = s.fd := rfl
    rw [e1, cnt_new h.b.ok, hW2]
    have := heap_alloc_new (w.alloc (.cells (opC o).toArray 32)) (.cells #[.int .u8 o.k, .int .i64 o.r, .int .i64 o.p, .int .i64 0] 69)
    rw [World.size_alloc] at this
    exact this
  have hlo : ∀ m, Lv s m → (newL L (s.all.length + 1) (w.heap.size + 1)).o m = L.o m := fun m hm => if_neg (by have := h.b.ok.lv hm; omega)
  have cP := put_ok B (newL L (s.all.length + 1) (w.heap.size + 1)) (addO s o) p j (s.all.length + 1) W2 hb2 hp hj h0 (by omega) (by unfold addO; simp) (by rw [eo]; omega) (fun m hm e => by
      have hm' : Lv s m := hm
      rw [hlo m hm', eo]
      have := (h.b.og m hm').2.lt
      omega) (fun q hq => by
      rw [eo]
      have hq' : s.has q = true := hq
      have := (h.b.rg q hq').2.lt
      show L.r q ≠ _
      omega) (by rw [eo]; exact hC)
  rw [eo] at cP
  have HF : Hid3 (∀ w', Pt B W2 w' (newL L (s.all.length + 1) (w.heap.size + 1)) (addO s o) p j (s.all.length + 1) → FStp B w w' L s (opnS s p j o)) := ⟨fun w' d => by
    have hap : Apart (fun i => i = L.r p ∨ i = w.heap.size + 1) w w' := (Apart.of_below hX2).trans (by have := d.ap; rw [eo] at this; exact this)
    refine FStp.ofB (L' := newL L (s.all.length + 1) (w.heap.size + 1)) h d.b rfl rfl rfl hap (fun i hi hx => hx.elim (fun e => e ▸ XF.row hp) (fun e => absurd hi (by omega))) (fun e => e.elim (h.t.ne (h.b.rg p hp).2 (by decide)) (fun e => by have := h.lt; omega)) (fun m hm => ?_)
    by_cases e : m = s.all.length + 1
    · exact .inr (by rw [e, eo]; omega)
    · have hm' : Lv s m := setFd_lv' hm e
      exact .inl ⟨hlo m hm', hm'⟩⟩
  rw [hW2] at cP HF
  unfold opC at *
  obtain ⟨ok, orr, opp⟩ := o
  simp only at *
  clear h hX hX2 hb2 hC hlo eo hj h0 hB hW2
  rcases ho with rfl | rfl | rfl
  · go_enter Try.func14, Try.ntmps14
    go_wp2_with fail
    refine cO.mono ?_
    rintro r W ⟨rfl, hW⟩
    rw [hW]
    clear cO hW
    go_wp2_with fail
    refine cP.mono ?_
    rintro r W' ⟨rfl, hP⟩
    have HP := Hid3.mk (HF.out W' hP)
    clear cP HF hP
    go_wp2
    go_ret2
    exact ⟨rfl, HP.out⟩
  · go_enter Try.func14, Try.ntmps14
    go_wp2_with fail
    refine cO.mono ?_
    rintro r W ⟨rfl, hW⟩
    rw [hW]
    clear cO hW
    go_wp2_with fail
    refine cP.mono ?_
    rintro r W' ⟨rfl, hP⟩
    have HP := Hid3.mk (HF.out W' hP)
    clear cP HF hP
    go_wp2
    go_ret2
    exact ⟨rfl, HP.out⟩
  · go_enter Try.func14, Try.ntmps14
    go_wp2_with fail
    refine cO.mono ?_
    rintro r W ⟨rfl, hW⟩
    rw [hW]
    clear cO hW
    go_wp2_with fail
    refine cP.mono ?_
    rintro r W' ⟨rfl, hP⟩
    have HP := Hid3.mk (HF.out W' hP)
    clear cP HF hP
    go_wp2
    go_ret2
    exact ⟨rfl, HP.out⟩
set_option maxHeartbeats 1000000 in
theorem open_full (B : Nat) (L : Lo) (s : Fs) (p : Fin 6) (o : Opn) (w : World) (h : Ft B w L s) (hp : s.has p = true) (ho : kindOk o.k) (hj : leastF (s.fd p) = none) : Calls Try.prog 14 #[.pointer (some ⟨L.t, 0, none⟩), .int .i64 p.1, .agg (opC o).toArray] w fun r w' => r = .returned (.tuple #[.int .i64 0, .int .i64 11]) ∧ Below w.heap.size w w' := by
  have hX : Below w.heap.size w (w.alloc (.cells (opC o).toArray 32)) := below_new w _
  have cO := of_ok B L s p _ (h.below hX) hp
  have hX2 : Below w.heap.size w ((w.alloc (.cells (opC o).toArray 32)).alloc (.cells #[.int .u8 o.k, .int .i64 o.r, .int .i64 o.p, .int .i64 0] 69)) := hX.alloc (by simp) _
  have cP := put_full B L s p (w.heap.size + 1) _ (h.b.below hX2) hp hj
  have HX := Hid3.mk hX2
  unfold opC at *
  obtain ⟨ok, orr, opp⟩ := o
  simp only at *
  clear h hX hX2 hj
  rcases ho with rfl | rfl | rfl
  · go_enter Try.func14, Try.ntmps14
    go_wp2_with fail
    refine cO.mono ?_
    rintro r W ⟨rfl, hW⟩
    rw [hW]
    clear cO hW
    go_wp2_with fail
    refine cP.mono ?_
    rintro r W' ⟨rfl, hW⟩
    rw [hW]
    clear cP hW
    go_wp2
    go_ret2
    exact ⟨rfl, HX.out⟩
  · go_enter Try.func14, Try.ntmps14
    go_wp2_with fail
    refine cO.mono ?_
    rintro r W ⟨rfl, hW⟩
    rw [hW]
    clear cO hW
    go_wp2_with fail
    refine cP.mono ?_
    rintro r W' ⟨rfl, hW⟩
    rw [hW]
    clear cP hW
    go_wp2
    go_ret2
    exact ⟨rfl, HX.out⟩
  · go_enter Try.func14, Try.ntmps14
    go_wp2_with fail
    refine cO.mono ?_
    rintro r W ⟨rfl, hW⟩
    rw [hW]
    clear cO hW
    go_wp2_with fail
    refine cP.mono ?_
    rintro r W' ⟨rfl, hW⟩
    rw [hW]
    clear cP hW
    go_wp2
    go_ret2
    exact ⟨rfl, HX.out⟩
set_option maxHeartbeats 1000000 in
theorem open_kind (B : Nat) (L : Lo) (s : Fs) (p : Fin 6) (o : Opn) (w : World) (h : Ft B w L s) (hp : s.has p = true) (ho : ¬ kindOk o.k) : Calls Try.prog 14 #[.pointer (some ⟨L.t, 0, none⟩), .int .i64 p.1, .agg (opC o).toArray] w fun r w' => r = .returned (.tuple #[.int .i64 0, .int .i64 2]) ∧ Below w.heap.size w w' := by
  have hX : Below w.heap.size w (w.alloc (.cells (opC o).toArray 32)) := below_new w _
  have cO := of_ok B L s p _ (h.below hX) hp
  have HX := Hid3.mk hX
  unfold opC at *
  obtain ⟨ok, orr, opp⟩ := o
  unfold kindOk at ho
  simp only at *
  have e1 : (ok == 1) = false := by rw [beq_eq_false_iff_ne]; exact fun e => ho (.inl e)
  have e2 : (ok == 2) = false := by rw [beq_eq_false_iff_ne]; exact fun e => ho (.inr (.inl e))
  have e3 : (ok == 3) = false := by rw [beq_eq_false_iff_ne]; exact fun e => ho (.inr (.inr e))
  clear h hX ho
  go_enter Try.func14, Try.ntmps14
  go_wp2_with fail
  refine cO.mono ?_
  rintro r W ⟨rfl, hW⟩
  rw [hW]
  clear cO hW
  go_wp2
  go_ret2
  exact ⟨rfl, HX.out⟩
set_option maxHeartbeats 1000000 in
theorem open_nop (B : Nat) (L : Lo) (s : Fs) (pid : Int) (o : Opn) (w : World) (h : Ft B w L s) (hp : NoP s pid) : Calls Try.prog 14 #[.pointer (some ⟨L.t, 0, none⟩), .int .i64 pid, .agg (opC o).toArray] w fun r w' => r = .returned (.tuple #[.int .i64 0, .int .i64 5]) ∧ Below w.heap.size w w' := by
  have hX : Below w.heap.size w (w.alloc (.cells (opC o).toArray 32)) := below_new w _
  have cO := of_bad B L s pid _ (h.below hX) hp
  have HX := Hid3.mk hX
  unfold opC at *
  obtain ⟨ok, orr, opp⟩ := o
  simp only at *
  clear h hX hp
  go_enter Try.func14, Try.ntmps14
  go_wp2_with fail
  refine cO.mono ?_
  rintro r W ⟨rfl, hW⟩
  rw [hW]
  clear cO hW
  go_wp2
  go_ret2
  exact ⟨rfl, HX.out⟩
end Go.Proofs.Ytbkpkcndmlapfaa
