/- NameRights: rights as letters, what letters say, or the errors: as the document says; what was written is read again. -/
import Derived.Test.YtjocjjclgebfnaaNameQ
import Derived.Test.YtjocjjclgebfnaaRefV
namespace Go.Proofs.Ytjocjjclgebfnaa
open Go.RowKit Go.Shelf
set_option linter.unusedVariables false

set_option maxHeartbeats 2000000 in
theorem rights_walk (r : BitVec 8) (s : ByteArray) (W : World) :
    Calls Try.prog 3 #[.int .u8 (r.toNat : Int), .string s] W fun e W' => e = .returned (.bool true) ∧ Below W.heap.size W W' := by
  have cS := short_any s W
  have c1 := fun w => rights_any r w
  have c2 := fun w => rrights_any r w
  have c3 := fun w => read_any (shortS s) w
  have c4 := fun w => rread_any (shortS s) w
  have cV := fun w => live2_any w
  generalize shortS s = t at *
  obtain ⟨p1, p2, hP⟩ : ∃ p1 p2, readO t.data.toList = (p1, p2) := ⟨_, _, rfl⟩
  rw [hP] at c3 c4
  clear hP
  have hok := rightsO_ok r
  have hback : r.toNat < 32 → readO (rightsO r).1 = (r, 0) := fun h => readO_hit r h
  obtain ⟨o1, o2, hO⟩ : ∃ o1 o2, rightsO r = (o1, o2) := ⟨_, _, rfl⟩
  rw [hO] at c1 c2 hok hback
  have c5 := fun w => read_any ⟨o1.toArray⟩ w
  have e5 : (⟨o1.toArray⟩ : ByteArray).data.toList = o1 := rfl
  rw [e5] at c5
  simp only at hok hback
  have HB : Hid (r.toNat < 32 → readO o1 = (r, 0)) := hback
  have HK : Hid (o2 = 0 ↔ r.toNat < 32) := hok
  clear hback hok hO e5
  unfold textV at c1 c2
  unfold bitsV at c3 c4 c5
  simp only at c1 c2 c3 c4
  by_cases h0 : o2 = 0
  · have hr := HB.out (HK.out.1 h0)
    rw [hr] at c5
    simp only at c5
    subst h0
    clear HB HK hr
    go_enter Try.func3, Try.ntmps3
    go_wp2_with fail
    refine cS.mono ?_
    rintro e W0 ⟨rfl, hw⟩
    rw [hw]
    clear hw W0
    go_wp2_with fail
    refine (c1 _).mono ?_
    rintro e W1 ⟨rfl, hB1⟩
    go_wp2_with fail
    refine (c2 _).mono ?_
    rintro e W2 ⟨rfl, hw⟩
    rw [hw]
    clear hw W2
    go_wp2_with fail
    refine (c3 _).mono ?_
    rintro e W3 ⟨rfl, hB3⟩
    go_wp2_with fail
    refine (c4 _).mono ?_
    rintro e W4 ⟨rfl, hw⟩
    rw [hw]
    clear hw W4
    go_wp2_with fail
    refine (c5 _).mono ?_
    rintro e W5 ⟨rfl, hB5⟩
    go_wp2_with fail
    refine (cV _).mono ?_
    rintro e W6 ⟨rfl, hB6⟩
    go_wp2
    go_ret
    exact ⟨rfl, ((hB1.trans (hB3.mono hB1.size)).trans (hB5.mono (Nat.le_trans hB1.size hB3.size))).trans (hB6.mono (Nat.le_trans hB1.size (Nat.le_trans hB3.size hB5.size)))⟩
  · have h0' : (o2 != 0) = true := bne_iff_ne.2 h0
    obtain ⟨q1, q2, hQ⟩ : ∃ q1 q2, readO o1 = (q1, q2) := ⟨_, _, rfl⟩
    rw [hQ] at c5
    simp only at c5
    clear HB HK hQ
    go_enter Try.func3, Try.ntmps3
    go_wp2_with fail
    refine cS.mono ?_
    rintro e W0 ⟨rfl, hw⟩
    rw [hw]
    clear hw W0
    go_wp2_with fail
    refine (c1 _).mono ?_
    rintro e W1 ⟨rfl, hB1⟩
    go_wp2_with fail
    refine (c2 _).mono ?_
    rintro e W2 ⟨rfl, hw⟩
    rw [hw]
    clear hw W2
    go_wp2_with fail
    refine (c3 _).mono ?_
    rintro e W3 ⟨rfl, hB3⟩
    go_wp2_with fail
    refine (c4 _).mono ?_
    rintro e W4 ⟨rfl, hw⟩
    rw [hw]
    clear hw W4
    go_wp2_with fail
    refine (c5 _).mono ?_
    rintro e W5 ⟨rfl, hB5⟩
    go_wp2_with fail
    refine (cV _).mono ?_
    rintro e W6 ⟨rfl, hB6⟩
    go_wp2
    go_ret
    exact ⟨rfl, ((hB1.trans (hB3.mono hB1.size)).trans (hB5.mono (Nat.le_trans hB1.size hB3.size))).trans (hB6.mono (Nat.le_trans hB1.size (Nat.le_trans hB3.size hB5.size)))⟩
end Go.Proofs.Ytjocjjclgebfnaa
