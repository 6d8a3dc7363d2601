/- ProcForks: the walk. -/
import Derived.Test.YtcnddmadmdgplaaPrI
namespace Go.Proofs.Ytcnddmadmdgplaa
open Go.RowKit Go.Maps
set_option linter.unusedVariables false
set_option maxRecDepth 100000
/-- Both, and copies of both, above a world. -/
structure Fo (w W : World) (b r f g : Nat) : Prop where
  one : ∃ s, Two w.heap.size W b r s
  two : ∃ s, Two w.heap.size W f g s
  bl : Below w.heap.size w W
  n1 : b ≠ f ∧ b ≠ g ∧ r ≠ f ∧ r ≠ g
theorem Fo.low {w W W' : World} {b r f g : Nat} (h : Fo w W b r f g) (k : Below W.heap.size W W') : Fo w W' b r f g :=
  ⟨h.one.elim fun s hs => ⟨s, hs.below k⟩, h.two.elim fun s hs => ⟨s, hs.below k⟩, h.bl.trans (k.mono h.bl.size), h.n1⟩
theorem Fo.step {w W W' : World} {b r f g : Nat} {s s' : Pt} (h : Fo w W b r f g) (h2 : Two w.heap.size W f g s) (k : Mv w.heap.size W W' f g s') : Fo w W' b r f g := by
  obtain ⟨s1, h1⟩ := h.one
  obtain ⟨a1, a2, a3, a4⟩ := h.n1
  exact ⟨⟨s1, h1.t.stay k.ap (fun e => e.elim a1 a2), h1.r.stay k.ap (fun e => e.elim a3 a4), h1.ok⟩, ⟨s', k.two⟩, h.bl.trans (k.low h2 h.bl.size), h.n1⟩
set_option maxHeartbeats 2000000 in
theorem forks_law (v u : Value) (l m : List Dd) (w : World) (hd : Dds w v l) (hm : Dds w u m) : Calls Try.prog 7 #[v, u] w fun r w' => r = .returned (.bool true) ∧ Below w.heap.size w w' := by
  have cP := play_any v l w hd
  obtain ⟨ad, cap, rfl, _⟩ := id hd
  obtain ⟨ad2, cap2, rfl, _⟩ := id hm
  have HM := Hid3.mk hm
  clear hd hm
  go_enter Try.func7, Try.ntmps7
  go_wp2_with fail
  refine cP.mono ?_
  rintro r W1 ⟨tb, rb, rfl, hPb⟩
  have HB := Hid3.mk hPb
  have cL := live_any W1
  clear cP hPb
  go_wp2_with fail
  refine cL.mono ?_
  rintro r W2 ⟨rfl, hb⟩
  obtain ⟨⟨s, hT⟩, hB2⟩ := HB.out.low hb
  have c1 := copy_any _ tb s W2 hT.t w.heap.size hB2.size
  have HT := Hid3.mk hT
  have HB2 := Hid3.mk hB2
  clear cL hb hT hB2
  go_wp2_with fail
  refine c1.mono ?_
  rintro r W3 ⟨rfl, hF, hB3⟩
  have HT3 := Hid3.mk (HT.out.below hB3)
  have HF := Hid3.mk hF
  have HB3 := Hid3.mk hB3
  have hl := HT.out.t.c.lt
  have hl2 := HT.out.r.c.lt
  have c2 := rcopy_any _ rb s W3 HT3.out.r w.heap.size (Nat.le_trans HB2.out.size hB3.size)
  have hs3 := hB3.size
  clear c1 hF hB3
  go_wp2_with fail
  refine c2.mono ?_
  rintro r W4 ⟨rfl, hG, hB4⟩
  have HFo : Hid3 (Fo w W4 tb rb W2.heap.size W3.heap.size) := ⟨⟨⟨s, HT3.out.below hB4⟩, ⟨s, HF.out.below hB4, hG, HT.out.ok⟩, HB2.out.trans ((HB3.out.trans (hB4.mono HB3.out.size)).mono HB2.out.size), by omega, by omega, by omega, by omega⟩⟩
  clear c2 hG hB4 HT HT3 HF HB3 HB2 HB hl hl2 hs3
  generalize W2.heap.size = fb at *
  generalize W3.heap.size = gb at *
  go_wp2_with fail
  go_loopw [10] (fun s7 wr => ∃ (i : Nat), i ≤ m.length ∧ i ≤ 14 ∧ s7 = .int .i64 i ∧ Hid3 (Fo w wr tb rb fb gb)) (fun s7 _ => 14 - (intOf s7).toNat)
  case atStart => exact ⟨0, Nat.zero_le _, by omega, rfl, HFo⟩
  case round =>
    obtain ⟨i, hil, hi6, rfl, HT1⟩ := hrel
    clear HFo
    by_cases hgo : i < m.length ∧ i < 14
    · have hlt := hgo.1
      have h14 := hgo.2
      have hltz : (i : Int) < (m.length : Int) := by omega
      have h60z : (i : Int) < 14 := by omega
      clear hgo
      obtain ⟨_, _, e0, hc⟩ := HM.out.below HT1.out.bl
      injection e0 with e1 e2 e3
      obtain ⟨g, off, e4, c0, c1, c2⟩ := hc i m[i] (List.getElem?_eq_getElem hlt)
      rw [← e1] at e4
      subst e4
      obtain ⟨s1, hTw⟩ := HT1.out.two
      have hcall := do_any w.heap.size fb gb s1 m[i] _ hTw
      have HTw := Hid3.mk hTw
      unfold ddV at hcall
      clear hc e1 e2 e3 hTw
      generalize m[i] = d at *
      obtain ⟨d0, d1, d2⟩ := d
      simp only at c0 c1 c2 hcall
      go_wp2_with fail
      refine hcall.mono ?_
      rintro e W5 ⟨rfl, s2, hM⟩
      have HT2 : Hid3 (Fo w W5 tb rb fb gb) := ⟨HT1.out.step HTw.out hM⟩
      clear hM hcall c0 c1 c2 HTw
      go_wp2
      go_roundw
      case rel => exact ⟨i + 1, by omega, by omega, by go_num, HT2⟩
      case measure => simp [intOf]; omega
    · obtain ⟨s1, hT1⟩ := HT1.out.one
      have c1 := same_any w.heap.size tb rb s1 _ hT1
      clear hT1
      have tail : ∀ (wq : World), Below wr.heap.size wr wq → Hid3 (Fo w wq tb rb fb gb) := fun wq hq => ⟨HT1.out.low hq⟩
      by_cases hlt : i < m.length
      · have hltz : (i : Int) < (m.length : Int) := by omega
        have h14 : ¬ i < 14 := fun e => hgo ⟨hlt, e⟩
        have hi : i = 14 := by omega
        subst hi
        go_wp2_with fail
        refine c1.mono ?_
        rintro r W5 ⟨rfl, hb⟩
        have HF5 := tail W5 hb
        obtain ⟨s2, hT2⟩ := HF5.out.two
        have c2 := same_any w.heap.size fb gb s2 _ hT2
        clear c1 hb hT2
        go_wp2_with fail
        refine c2.mono ?_
        rintro r W6 ⟨rfl, hb⟩
        have HF6 := Hid3.mk (HF5.out.low hb)
        clear c2 hb
        go_wp2
        go_ret
        exact ⟨rfl, HF6.out.bl⟩
      · have hltz : ¬ (i : Int) < (m.length : Int) := by omega
        clear hgo
        go_wp2_with fail
        refine c1.mono ?_
        rintro r W5 ⟨rfl, hb⟩
        have HF5 := tail W5 hb
        obtain ⟨s2, hT2⟩ := HF5.out.two
        have c2 := same_any w.heap.size fb gb s2 _ hT2
        clear c1 hb hT2
        go_wp2_with fail
        refine c2.mono ?_
        rintro r W6 ⟨rfl, hb⟩
        have HF6 := Hid3.mk (HF5.out.low hb)
        clear c2 hb
        go_wp2
        go_ret
        exact ⟨rfl, HF6.out.bl⟩
end Go.Proofs.Ytcnddmadmdgplaa
