/- DevCancels: what waits behind Cancel touches not the frame; what is out is told. -/
import Derived.Test.YtlnjpgcaciemnaaDevInB
namespace Go.Proofs.Ytlnjpgcaciemnaa
open Go.RowKit Go.Maps
set_option linter.unusedVariables false
set_option maxRecDepth 100000
theorem out_total (p : Rq → Bool) (Q : List Rq) : Q.length = (outQ p Q).length + (outI p Q).length := by
  induction Q with
  | nil => rfl
  | cons r Q ih =>
    unfold outQ outI at *
    cases hp : p r <;> simp [List.filter, hp] <;> simp only [List.length_map] at ih <;> omega
theorem outQ_not (f : Int) (Q : List Rq) (j : Nat) (r : Rq) (h : (outQ (fun r : Rq => decide (r.2.2.2.1 = f)) Q)[j]? = some r) : r.2.2.2.1 ≠ f := by
  have hm := List.mem_of_getElem? h
  have := (List.mem_filter.1 hm).2
  simpa using this
set_option maxHeartbeats 8000000 in
theorem cancels_law (v : Value) (l : List Dd) (f : Int) (w : World) (hd : DdsR w.heap.size w v l) : Calls Try.prog 6 #[v, .int .i64 f] w fun e w' => e = .returned (.bool true) ∧ Below w.heap.size w w' := by
  have c1 := dplay_any v l w hd
  clear hd
  go_enter Try.func6, Try.ntmps6
  go_wp2_with fail
  refine c1.mono ?_
  rintro e W1 ⟨db, sb, mb, rb, og, rmb, rg, v1, u1, rfl, hT, hB⟩
  clear c1
  have hX : (W1.alloc (.cells #[.pointer (some ⟨db, 0, none⟩), .pointer (some ⟨mb, 0, none⟩), .pointer (some ⟨rb, 0, none⟩), .pointer (some ⟨rmb, 0, none⟩)] 28)).heap[W1.heap.size]? = some (.cells #[.pointer (some ⟨db, 0, none⟩), .pointer (some ⟨mb, 0, none⟩), .pointer (some ⟨rb, 0, none⟩), .pointer (some ⟨rmb, 0, none⟩)] 28) := heap_alloc_last W1 _
  have hb : Below W1.heap.size W1 (W1.alloc (.cells #[.pointer (some ⟨db, 0, none⟩), .pointer (some ⟨mb, 0, none⟩), .pointer (some ⟨rb, 0, none⟩), .pointer (some ⟨rmb, 0, none⟩)] 28)) := (Below.refl _ W1).alloc (Nat.le_refl _) _
  have hB0 : Below w.heap.size w W1 := hB
  have HT := Hid3.mk (hT.below hb)
  have HB := Hid3.mk (hB0.trans (hb.mono hB0.size))
  have HX := Hid3.mk hX
  have c2 := dlive_any (W1.alloc (.cells #[.pointer (some ⟨db, 0, none⟩), .pointer (some ⟨mb, 0, none⟩), .pointer (some ⟨rb, 0, none⟩), .pointer (some ⟨rmb, 0, none⟩)] 28))
  have hs1 : W1.heap.size < (W1.alloc (.cells #[.pointer (some ⟨db, 0, none⟩), .pointer (some ⟨mb, 0, none⟩), .pointer (some ⟨rb, 0, none⟩), .pointer (some ⟨rmb, 0, none⟩)] 28)).heap.size := by simp
  have hWs : w.heap.size ≤ W1.heap.size := hB0.size
  have hBs : w.heap.size ≤ W1.heap.size := hB.size
  clear hT hB hB0 hb hX
  go_wp2_with fail
  refine c2.mono ?_
  rintro e W2 ⟨rfl, hB2⟩
  clear c2
  have hX2 := (hB2.block _ hs1).trans HX.out
  have HX2 := Hid3.mk hX2
  have HB2 := Hid3.mk (HB.out.trans (hB2.mono HB.out.size))
  have HT2 := Hid3.mk (HT.out.below hB2)
  have hs2 : W1.heap.size < W2.heap.size := Nat.lt_of_lt_of_le hs1 hB2.size
  clear hB2 hs1 HT HX HB hX2
  generalize W1.heap.size = b0 at *
  have HP2 := Hid3.mk HT2.out.p
  generalize plS z0 (l.take 30) = z at *
  obtain ⟨x0, x1, x2, x3⟩ := b4c HX2.out
  have c3 := waiting_any w.heap.size db sb 5 z.S v1 z.last z.Q W2 HP2.out.d
  have hBW : w.heap.size ≤ W2.heap.size := HB2.out.size
  clear HT2
  go_wp2_with fail
  refine c3.mono ?_
  rintro e W3 ⟨⟨u3, rfl, hu3⟩, hB3⟩
  clear c3
  obtain ⟨a3, k3, rfl⟩ := form5 hu3
  have hs3 := hB3.size
  have HP3 := Hid3.mk (HP2.out.below hB3)
  have HB3 := Hid3.mk (HB2.out.trans (hB3.mono hBW))
  have HX3 := Hid3.mk ((hB3.block b0 hs2).trans HX2.out)
  have c4 := cancelp_any w.heap.size db sb 5 mb 4 v1 z f W3 HP3.out (by omega)
  have HL : Hid3 (z.Q.length = (outQ (fun r : Rq => decide (r.2.2.2.1 = f)) z.Q).length + (outI (fun r : Rq => decide (r.2.2.2.1 = f)) z.Q).length ∧ z.Q.length ≤ 8) := ⟨⟨out_total _ _, HP2.out.d.few⟩⟩
  have HN : Hid3 (∀ (j : Nat) (r : Rq), (outQ (fun r : Rq => decide (r.2.2.2.1 = f)) z.Q)[j]? = some r → r.2.2.2.1 ≠ f) := ⟨outQ_not f z.Q⟩
  obtain ⟨y0, y1, y2, y3⟩ := b4c HX3.out
  clear hu3 hB3 x0 x1 x2 x3
  generalize outI (fun r : Rq => decide (r.2.2.2.1 = f)) z.Q = ids at *
  generalize outQ (fun r : Rq => decide (r.2.2.2.1 = f)) z.Q = Q5 at *
  go_wp2_with fail
  refine c4.mono ?_
  rintro e W4 ⟨⟨u4, rfl, hu4⟩, hS4⟩
  clear c4
  obtain ⟨v4, hp4, ha4, _⟩ := hS4
  obtain ⟨a4, k4, rfl, _⟩ := IdS.of_own hu4
  have hs4 := ha4.size
  have HX4 := Hid3.mk ((ha4.block b0 (by omega) (HP3.out.not_both HX3.out)).trans HX3.out)
  have HB4 := Hid3.mk (HB3.out.trans (PStp.bel HP3.out ⟨v4, hp4, ha4, by assumption⟩ (by omega)))
  have c5 := waiting_any w.heap.size db sb 5 z.S v4 z.last Q5 W4 hp4.d
  obtain ⟨z0', z1', z2', z3'⟩ := b4c HX4.out
  clear hu4 hp4 ha4 y0 y1 y2 y3
  go_wp2_with fail
  refine c5.mono ?_
  rintro e W5 ⟨⟨u5, rfl, hu5⟩, hB5⟩
  clear c5
  have hR5 := RqS.of_own hu5 (fun _ => False) (fun _ _ _ e => e)
  obtain ⟨a5, k5, rfl⟩ := form5 hu5
  have HR5 := Hid3.mk hR5
  have HB5 := Hid3.mk (HB4.out.trans (hB5.mono HB4.out.size))
  generalize z.Q.length = n3 at *
  generalize ids.length = n4 at *
  have hsum : (Q5.length : Int) + (n4 : Int) = (n3 : Int) := by have := HL.out.1; omega
  have hw : IntKind.i64.wrap (n3 : Int) = (n3 : Int) := by have := HL.out.2; rw [IntKind.wrap_i64]; omega
  clear hu5 hB5 hR5 z0' z1' z2' z3'
  go_wp2_with fail
  go_loopw [10] (fun s10 wr => ∃ j : Nat, j ≤ Q5.length ∧ s10 = .int .i64 j ∧ wr = W5) (fun s10 _ => Q5.length - (intOf s10).toNat)
  case atStart => exact ⟨0, Nat.zero_le _, rfl, rfl⟩
  case round =>
    obtain ⟨j, hj, rfl, rfl⟩ := hrel
    by_cases hlt : j < Q5.length
    · have hltz : (j : Int) < (Q5.length : Int) := by omega
      have hj0 : (0 : Int) ≤ (j : Int) := by omega
      have hj8 : (j : Int) ≤ 8 := by have := HL.out.2; omega
      have hm : Q5[j]? = some Q5[j] := List.getElem?_eq_getElem hlt
      obtain ⟨g, rfl, _, d0, d1, d2, d3, d4⟩ := HR5.out.at j _ hm
      have hnf : (Q5[j].2.2.2.1 == f) = false := beq_eq_false_iff_ne.2 (HN.out j _ hm)
      clear hm d0 d1 d2 d4
      generalize Q5[j].2.2.2.1 = fr at *
      go_wp2
      go_roundw
      case rel => exact ⟨j + 1, by omega, by go_num, (by first | rfl | trivial)⟩
      case measure => simp [intOf]; omega
    · have hltz : ¬ (j : Int) < (Q5.length : Int) := by omega
      go_wp2
      go_ret
      exact ⟨rfl, HB5.out⟩
end Go.Proofs.Ytlnjpgcaciemnaa
