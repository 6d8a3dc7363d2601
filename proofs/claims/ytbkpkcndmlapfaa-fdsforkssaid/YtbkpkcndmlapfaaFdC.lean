/- The program's table: drop. -/
import Derived.Test.YtbkpkcndmlapfaaFdB
namespace Go.Proofs.Ytbkpkcndmlapfaa
open Go.RowKit Go.Maps
set_option linter.unusedVariables false
set_option maxRecDepth 100000
/-- What lies below stays. -/
theorem Fb.lo {B n : Nat} {w w' : World} {L : Lo} {s : Fs} (h : Fb B w L s) (k : Below n w w') (hr : ∀ p, s.has p = true → L.r p < n) (ho : ∀ m, Lv s m → L.o m < n) : Fb B w' L s :=
  ⟨fun p hp => ⟨(h.rg p hp).1, (k.block _ (hr p hp)).trans (h.rg p hp).2⟩, h.ri, fun m hm => ⟨(h.og m hm).1, (k.block _ (ho m hm)).trans (h.og m hm).2⟩, h.oi, h.ok⟩
theorem setFd_lv {s : Fs} {p : Fin 6} {k : Fin 8} {m : Nat} (h : Lv (setFd s p k 0) m) : Lv s m := by
  refine ⟨h.1, ?_⟩
  have h1 := cntN_at s.fd p k 0 m
  have h2 := h.2
  have e : cntN (setFd s p k 0).fd m = cntN (upd s.fd p (upd (s.fd p) k 0)) m := rfl
  have h3 : one 0 m = 0 := by unfold one; rw [if_neg (fun e => h.1 e.symm)]
  omega
/-- What taking a descriptor away comes to. -/
structure Drp (B : Nat) (w w' : World) (L : Lo) (s : Fs) (p : Fin 6) (k : Fin 8) : Prop where
  b : Fb B w' L (setFd s p k 0)
  ap : Apart (fun i => i = L.r p ∨ i = L.o (s.fd p k)) w w'
theorem Drp.of {B : Nat} {w : World} {L : Lo} {s : Fs} (h : Fb B w L s) (p : Fin 6) (k : Fin 8) (hp : s.has p = true) (hk : s.fd p k ≠ 0) (W : World)
    (hW : Below w.heap.size ((w.setCell ⟨L.r p, k.1, none⟩ (.pointer none)).setCell ⟨L.o (s.fd p k), 3, none⟩ (.int .i64 ((cntN s.fd (s.fd p k) - 1 : Nat) : Int))) W) : Drp B w W L s p k := by
  have hn := Lv.of_fd hk
  have hne := (h.rg p hp).2.ne (h.og _ hn).2 (by decide)
  have a1 : Apart (fun i => i = L.r p ∨ i = L.o (s.fd p k)) w ((w.setCell ⟨L.r p, k.1, none⟩ (.pointer none)).setCell ⟨L.o (s.fd p k), 3, none⟩ (.int .i64 ((cntN s.fd (s.fd p k) - 1 : Nat) : Int))) :=
    (Apart.at _ _ _ _ (.inl rfl)).trans (Apart.at _ _ _ _ (.inr rfl))
  have c1 := ((h.rg p hp).2.set k.1 (.pointer none)).other hne 3 (.int .i64 ((cntN s.fd (s.fd p k) - 1 : Nat) : Int))
  have c2 := ((h.og _ hn).2.other hne.symm k.1 (.pointer none)).set 3 (.int .i64 ((cntN s.fd (s.fd p k) - 1 : Nat) : Int))
  have hb := h.drop p k (s.fd p k) hp rfl hk a1 c1 c2
  refine ⟨hb.lo hW (fun q hq => (h.rg q hq).2.lt) (fun m hm => (h.og m (setFd_lv hm)).2.lt), a1.then (Y := fun i => w.heap.size ≤ i) ?_ (fun i hi hy => absurd hi (by omega))⟩
  exact ⟨hW.os, hW.tape, hW.output, hW.size, fun i hi hx => hW.block i (by omega)⟩
set_option maxHeartbeats 2000000 in
theorem drop_ok (B : Nat) (L : Lo) (s : Fs) (p : Fin 6) (k : Fin 8) (w : World) (h : Fb B w L s) (hp : s.has p = true) (hk : s.fd p k ≠ 0) : Calls Try.prog 38 #[.pointer (some ⟨L.r p, 0, none⟩), .int .i64 k.1] w fun r w' => r = .returned (.tuple #[.agg (opC (getO s (s.fd p k))).toArray, .bool (decide (cntN s.fd (s.fd p k) = 1))]) ∧ Drp B w w' L s p k := by
  have hn := Lv.of_fd hk
  have HF := Hid3.mk (Drp.of h p k hp hk)
  have c0 := h.at p hp k
  rw [ptr_n hk] at c0
  have f0 := (h.rg p hp).2.thaw k.1
  have hlr := (h.rg p hp).2.lt
  have hlo := (h.og _ hn).2.lt
  obtain ⟨d0, d1, d2, d3, df, dl⟩ := h.obj hn
  have df3 := df 3
  have hne := (h.rg p hp).2.ne (h.og _ hn).2 (by decide)
  have hne' := hne.symm
  have hc := hn.2
  have hle := cntN_le s.fd (s.fd p k)
  unfold opC
  generalize getO s (s.fd p k) = o at *
  generalize hob : L.o (s.fd p k) = ob at *
  generalize cntN s.fd (s.fd p k) = c at *
  have h3 : IntKind.i64.wrap ((c : Int) - 1) = ((c - 1 : Nat) : Int) := by rw [IntKind.wrap_i64]; omega
  have h4 : (((c - 1 : Nat) : Int) == 0) = decide (c = 1) := by
    rw [Bool.eq_iff_iff]; simp; omega
  generalize hc1 : ((c - 1 : Nat) : Int) = c1 at *
  generalize decide (c = 1) = q at *
  clear h df hn hk hc hle hob
  obtain ⟨k, hk8⟩ := k
  have h2 : (k : Int) < 8 := by omega
  simp only at *
  go_enter Try.func38, Try.ntmps38
  go_wp2
  go_region
  go_wp2
  refine bodyPost_ret (v := .tuple #[.agg #[.int .u8 o.k, .int .i64 o.r, .int .i64 o.p], .bool q]) (by simp [results, Try.results38, go_sem]) rfl ⟨rfl, HF.out _ ?_⟩
  exact ((Below.refl _ _).alloc (by simp) _).drew
end Go.Proofs.Ytbkpkcndmlapfaa
