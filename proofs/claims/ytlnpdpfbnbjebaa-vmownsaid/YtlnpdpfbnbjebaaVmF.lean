/- The program's vm: the store's alone: a page goes to be written. -/
import Derived.Test.YtlnpdpfbnbjebaaVmE
namespace Go.Proofs.Ytlnpdpfbnbjebaa
open Go.RowKit Go.Maps
set_option linter.unusedVariables false
set_option maxRecDepth 100000
def cpS (s : Vs) (k : Nat) (f : Int) : Vs := { s with L := cpL s.n s.L k f, cp := s.cp + 1 }
def alS (s : Vs) (f : Int) (k : Nat) : Vs := if f = -1 then jnS s k else jnS (lvS (cpS s k f) f.toNat) k
theorem alone_own (B : Nat) (l : Lo) (s : Vs) (f : Int) (hf : f = -1 ∨ (0 ≤ f ∧ f < 64)) (ho : ownB s f = true) (w : World) (h : Vb B w l s) : Calls Try.prog 49 #[.pointer (some ⟨l.b, 6, none⟩), .int .i64 f] w fun r w' => r = .returned (.int .i64 f) ∧ w' = w := by
  have cO := own_any B l s f hf w h
  rw [ho] at cO
  clear h ho hf
  go_enter Try.func49, Try.ntmps49
  go_wp2_with fail
  refine cO.mono ?_
  rintro r W ⟨rfl, rfl⟩
  go_wp2
  go_ret
  exact ⟨rfl, rfl⟩
set_option maxHeartbeats 2000000 in
theorem alone_no (B : Nat) (l : Lo) (s : Vs) (N m : Nat) (hx : Nx s N m) (w : World) (h : Vb B w l s) : Calls Try.prog 49 #[.pointer (some ⟨l.b, 6, none⟩), .int .i64 (-1)] w fun r w' => r = .returned (.int .i64 m) ∧ Vb B w' l (jnS s m) ∧ Apart (XS l) w w' := by
  have cO := own_any B l s (-1) (.inl rfl) w h
  have eo : ownB s (-1) = false := rfl
  rw [eo] at cO
  have cN := next_ok B l s N m hx w h
  have hhi := h.m.hi
  rw [hx.n] at hhi
  have hlt := hx.lt
  have hz := hx.z
  have cJ := fun W (k : Below w.heap.size w W) => join_ok B l s m (by omega) (by omega) W (h.below k)
  clear h hx hhi hz hlt eo
  go_enter Try.func49, Try.ntmps49
  go_wp2_with fail
  refine cO.mono ?_
  rintro r W ⟨rfl, rfl⟩
  clear cO
  go_wp2_with fail
  refine cN.mono ?_
  rintro r W0 ⟨rfl, hW⟩
  have HB := Hid3.mk hW
  clear hW cN
  go_wp2_with fail
  refine (leave_no l.b _).mono ?_
  rintro r W1 ⟨rfl, rfl⟩
  go_wp2_with fail
  refine (cJ _ HB.out).mono ?_
  rintro r W2 ⟨rfl, hV, hA⟩
  have HV := Hid3.mk hV
  have HA := Hid3.mk hA
  clear cJ hV hA
  go_wp2
  go_ret
  exact ⟨rfl, HV.out, (Apart.of_below HB.out).trans HA.out.sb⟩
set_option maxHeartbeats 4000000 in
theorem alone_cp (B : Nat) (l : Lo) (s : Vs) (N m f : Nat) (hx : Nx s N m) (hf : f < N) (hr : 2 ≤ s.rf.getD f 0 ∧ s.rf.getD f 0 ≤ 1000) (hc : 0 ≤ s.cp ∧ s.cp ≤ 100000) (w : World) (h : Vb B w l s) : Calls Try.prog 49 #[.pointer (some ⟨l.b, 6, none⟩), .int .i64 f] w fun r w' => r = .returned (.int .i64 m) ∧ Vb B w' l (alS s f m) ∧ Apart (XS l) w w' := by
  have hhi := h.m.hi
  rw [hx.n] at hhi
  have hf64 : f < 64 := by omega
  have cO := own_any B l s f (.inr ⟨by omega, by omega⟩) w h
  have eo : ownB s f = false := by
    unfold ownB
    have e1 : ((f : Int) != -1) = true := by simp
    have e2 : (s.rf.getD (f : Int).toNat 0 == 1) = false := by
      rw [Int.toNat_natCast]
      have : ¬ s.rf.getD f 0 = 1 := by omega
      simpa using this
    rw [e1, e2]
    rfl
  rw [eo] at cO
  have cN := next_ok B l s N m hx w h
  have hlt := hx.lt
  have hz := hx.z
  have hmf : m ≠ f := fun e => by rw [e] at hz; omega
  have e0 : alS s f m = jnS (lvS (cpS s m f) f) m := by
    unfold alS
    rw [if_neg (by omega : ¬ (f : Int) = -1), Int.toNat_natCast]
  rw [e0]
  have hgm : (cpS s m f).rf.getD m 0 = 0 := hz
  have hgf : (cpS s m f).rf.getD f 0 = s.rf.getD f 0 := rfl
  have hlen := h.len
  have hjm : (lvS (cpS s m f) f).rf.getD m 0 = 0 := by
    show (s.rf.set f (s.rf.getD f 0 - 1)).getD m 0 = 0
    rw [List.getD_eq_getElem?_getD, List.getElem?_set_ne (fun e => hmf e.symm), ← List.getD_eq_getElem?_getD]
    exact hz
  have cL := fun W (k : Vb B W l (cpS s m f)) => leave_ok B l (cpS s m f) f hf64 (by rw [hgf]; omega) W k
  have cJ := fun W (k : Vb B W l (lvS (cpS s m f) f)) => join_ok B l (lvS (cpS s m f) f) m (by omega) (by omega) W k
  have cC := fun W (k : Below w.heap.size w W) => copy_any l.m s.n m f s.L W (h.m.below k)
  have hm0 := fun W (k : Below w.heap.size w W) => (h.below k).mem
  have H := Hid3.mk h
  have hcp5 : IntKind.i64.wrap (s.cp + 1) = s.cp + 1 := by rw [IntKind.wrap_i64]; omega
  have h3 : ¬ (f : Int) = -1 := by omega
  clear h hx hhi hz hlt eo e0 hgm hgf hlen hjm hr hmf
  go_enter Try.func49, Try.ntmps49
  go_wp2_with fail
  refine cO.mono ?_
  rintro r W ⟨rfl, rfl⟩
  clear cO
  go_wp2_with fail
  refine cN.mono ?_
  rintro r W0 ⟨rfl, hW⟩
  have HB := Hid3.mk hW
  have c6 := hm0 _ hW
  clear hW cN hm0
  go_wp2_with fail
  refine (cC _ HB.out).mono ?_
  rintro r W1 ⟨rfl, hm1, ho1⟩
  have HV1 := Hid3.mk ((H.out.below HB.out).remem _ ho1 hm1)
  have HA1 := Hid3.mk ((Apart.of_below HB.out).trans ho1.sm)
  clear hm1 ho1 cC c6
  have ccp := HV1.out.cp
  have fcp := HV1.out.c.thaw 71
  have HV2 := Hid3.mk (HV1.out.setcp (s.cp + 1))
  have HA2 := Hid3.mk (HA1.out.trans (Apart.at (X := XB l.b) W1 l.b 71 (.int .i64 (s.cp + 1)) rfl).sb)
  go_wp2_with fail
  refine (cL _ HV2.out).mono ?_
  rintro r W3 ⟨rfl, hV3, hA3⟩
  have HV3 := Hid3.mk hV3
  have HA3 := Hid3.mk (HA2.out.trans hA3)
  clear hV3 hA3 cL
  go_wp2_with fail
  refine (cJ _ HV3.out).mono ?_
  rintro r W4 ⟨rfl, hV, hA⟩
  have HV := Hid3.mk hV
  have HA := Hid3.mk (HA3.out.trans hA.sb)
  clear cJ hV hA
  go_wp2
  go_ret
  exact ⟨rfl, HV.out, HA.out⟩
end Go.Proofs.Ytlnpdpfbnbjebaa
