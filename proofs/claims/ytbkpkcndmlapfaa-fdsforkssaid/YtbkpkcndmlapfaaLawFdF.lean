/- The document's Copy; FdsForks: the walk. -/
import Derived.Test.YtbkpkcndmlapfaaFdTf
import Derived.Test.YtbkpkcndmlapfaaFdLv
namespace Go.Proofs.Ytbkpkcndmlapfaa
open Go.RowKit Go.Maps
set_option linter.unusedVariables false
set_option maxRecDepth 100000
theorem wpList_stores {ops : Array Oper} {rest : List Oper} {o : Oper} {a : Act} {w w' : World} {Q : Exit → Act → World → Prop} (hgd : o.guard = none) (ty : TypeId) (p x : Operand) (ho : o.op = .store ty p x) (v u : Value) (hp : a.eval p = v) (hx : a.eval x = u) (hL : (Instr.storeAt ty v u).run Try.prog w = .ok () w')
    (h : wpList Try.prog ops Q rest (a.put o.dst undef) w') : wpList Try.prog ops Q (o :: rest) a w :=
  wpList_plain hgd fun K hK => by
    unfold Oper.wp execOp
    simp only [ho, hp, hx, Sem.run_bind, hL, Result.andThen_ok, Sem.run_pure]
    exact hK _ _ h
theorem dCs_one (s : Fs) (v : Value) (hv : v.oneCell' = true) : (dCs s v).toArray.all (·.oneCell') = true := by
  rw [List.all_toArray, List.all_eq_true]
  intro x hx
  unfold dCs at hx
  simp only [List.mem_append, List.mem_cons, List.not_mem_nil, or_false] at hx
  have hh : ∀ h, x ∈ hasCs h → x.oneCell' = true := fun h hx => by
    unfold hasCs at hx
    simp only [List.mem_cons, List.not_mem_nil, or_false] at hx
    rcases hx with rfl | rfl | rfl | rfl | rfl | rfl <;> rfl
  have hf : ∀ f, x ∈ fdCs f → x.oneCell' = true := fun f hx => by
    unfold fdCs at hx
    simp only [List.mem_cons, List.not_mem_nil, or_false] at hx
    rcases hx with rfl | rfl | rfl | rfl | rfl | rfl | rfl | rfl <;> rfl
  rcases hx with h | h | h | h | h | h | h | h
  · exact hh _ h
  · exact hf _ h
  · exact hf _ h
  · exact hf _ h
  · exact hf _ h
  · exact hf _ h
  · exact hf _ h
  · rw [h]; exact hv
set_option maxHeartbeats 1000000 in
theorem rcopy_any (B b : Nat) (s : Fs) (w : World) (h : Rt B w b s) : Calls Try.prog 25 #[.pointer (some ⟨b, 0, none⟩)] w fun r w' => r = .returned (.pointer (some ⟨w.heap.size, 0, none⟩)) ∧ Rt w.heap.size w' w.heap.size s ∧ Below w.heap.size w w' := by
  obtain ⟨v, h1, h2⟩ := h.ex
  obtain ⟨a0, cap0, hv, _⟩ := h2.cells
  have H : Hid3 (Rt w.heap.size (w.alloc (.cells (dCs s v).toArray 85)) w.heap.size s ∧ Below w.heap.size w (w.alloc (.cells (dCs s v).toArray 85))) := ⟨⟨Nat.le_refl _, ⟨v, Cl.new w _ _, h2.low (below_new w _)⟩, h.ok⟩, below_new w _⟩
  have hH : w.heap[b]? = some (.cells (dCs s v).toArray 85 (0, 0)) := h1
  have hsz : (dCs s v).toArray.size = 55 := rfl
  have hi0 : (Try.prog.info? 85).map (·.size) = some 55 := by kernel_rfl
  have hi : (Try.prog.info? 85).map (·.size) = some (dCs s v).toArray.size := by rw [hsz]; exact hi0
  have ho := dCs_one s v (by rw [hv]; rfl)
  have hlt := h.lt
  generalize (dCs s v).toArray = D at *
  clear h h1 h2 hi0 hv
  go_enter Try.func25, Try.ntmps25
  go_wp2_with (first | (refine wpList_load_row rfl 85 _ rfl b rfl 85 D (0, 0) _ hH Try.underlying85 rfl hi ?_) | (refine wpList_stores rfl 85 _ _ rfl _ (.agg D) rfl rfl (run_storeAt_new w 85 _ D hi (by rw [hsz]; rfl) ho) ?_))
  go_ret
  exact ⟨rfl, H.out⟩
set_option maxHeartbeats 2000000 in
theorem forks_law (v v' : Value) (l more : List Dd) (w : World) (hd : Dds w v l) (hd' : Dds w v' more) : Calls Try.prog 7 #[v, v'] w fun r w' => r = .returned (.bool true) ∧ Below w.heap.size w w' := by
  have cP := play_any v l w hd
  obtain ⟨ad, cap, rfl, _⟩ := id hd
  obtain ⟨ad', cap', rfl, hk0, _⟩ := id hd'
  have HD := Hid3.mk hd'
  have HK := Hid3.mk hk0
  clear hd hd' hk0
  go_enter Try.func7, Try.ntmps7
  go_wp2_with fail
  refine cP.mono ?_
  rintro r W1 ⟨tb, rb, rfl, hPb⟩
  have HB := Hid3.mk hPb
  have cL := live_any W1
  clear cP hPb
  go_wp2_with fail
  refine cL.mono ?_
  rintro r W2 ⟨rfl, hb⟩
  obtain ⟨⟨L, s, eL, hT, hl⟩, hB2⟩ := HB.out.low hb
  have HT := Hid3.mk (And.intro eL (And.intro hT (And.intro hl hB2)))
  have c1 := copy_any _ L s W2 hT.t
  rw [eL] at c1
  clear cL hb hT eL hl hB2 HB
  go_wp2_with fail
  refine c1.mono ?_
  rintro r W3 ⟨L2, rfl, hF3, _, hB3⟩
  have HF3 := Hid3.mk (And.intro hF3 hB3)
  have c2 := rcopy_any _ rb s W3 (HT.out.2.1.r.below hB3)
  clear c1 hF3 hB3
  go_wp2_with fail
  refine c2.mono ?_
  rintro r W4 ⟨rfl, hR4, hB4⟩
  have HP : Hid3 (Pb W2 W4 L2.t W3.heap.size 60) := ⟨⟨⟨L2, s, rfl, ⟨HF3.out.1.below hB4, ⟨Nat.le_trans HF3.out.2.size hR4.g, hR4.ex, hR4.ok⟩⟩, HT.out.2.2.1⟩, HF3.out.2.trans (hB4.mono HF3.out.2.size)⟩⟩
  have HBw : Hid3 (Below w.heap.size w W2) := ⟨HT.out.2.2.2⟩
  clear c2 hR4 hB4 HF3
  generalize W3.heap.size = b2 at *
  generalize L2.t = t2 at *
  have HEnd : Hid3 (∀ W n, n ≤ 80 → Pb W2 W t2 b2 n → (∃ L' : Lo, L'.t = tb ∧ Two w.heap.size W L' rb s) ∧ s.all.length ≤ 1000 ∧ Below w.heap.size w W ∧ ∃ L3 s3, L3.t = t2 ∧ Two W2.heap.size W L3 b2 s3 ∧ s3.all.length ≤ 1000) := ⟨fun W n hn P => ⟨⟨L, HT.out.1, HT.out.2.1.below P.bl⟩, by have := HT.out.2.2.1; omega, HBw.out.trans (P.bl.mono HBw.out.size), P.ex.elim fun L3 hL => hL.elim fun s3 hs => ⟨L3, s3, hs.1, hs.2.1, by have := hs.2.2; omega⟩⟩⟩
  clear HT
  go_wp2_with fail
  go_loopw [10] (fun s10 wr => ∃ (i : Nat), i ≤ more.length ∧ i ≤ 14 ∧ s10 = .int .i64 i ∧ Hid3 (Pb W2 wr t2 b2 (60 + i))) (fun s10 _ => 14 - (intOf s10).toNat)
  case atStart => exact ⟨0, Nat.zero_le _, by omega, rfl, HP⟩
  case round =>
    obtain ⟨i, hil, hi6, rfl, HT1⟩ := hrel
    clear HP
    have hgo : (i < more.length ∧ i < 14) ∨ (¬ i < more.length) ∨ (i < more.length ∧ ¬ i < 14) := by omega
    rcases hgo with ⟨hlt, h14⟩ | hstop
    · have hltz : (i : Int) < (more.length : Int) := by omega
      have h14z : (i : Int) < 14 := by omega
      obtain ⟨_, _, e0, _, hc⟩ := (HD.out.below HBw.out).below HT1.out.bl
      injection e0 with e1 e2 e3
      obtain ⟨g, off, e4, c0, c1, c2, c3, c4, c5, c6⟩ := hc i more[i] (List.getElem?_eq_getElem hlt)
      rw [← e1] at e4
      subst e4
      obtain ⟨L1, s1, eL1, hTw, hl1⟩ := HT1.out.ex
      have hcall := do_any W2.heap.size b2 L1 s1 more[i] _ hTw HT1.out.bl.size (by omega) (HK.out _ (List.getElem_mem hlt))
      have HTw := Hid3.mk (And.intro eL1 (And.intro hTw hl1))
      unfold ddV at hcall
      rw [eL1] at hcall
      clear hc e1 e2 e3 hTw eL1 hl1
      generalize more[i] = d at *
      obtain ⟨d0, d1, d2, d3, d4, d5, d6⟩ := d
      simp only at c0 c1 c2 c3 c4 c5 c6 hcall
      go_wp2_with fail
      refine hcall.mono ?_
      rintro e W5 ⟨rfl, s2, hM, hl2⟩
      have HT2 : Hid3 (Pb W2 W5 t2 b2 (60 + (i + 1))) := ⟨Pb.step HTw.out.1 HTw.out.2.1 HT1.out.bl hM (by have := HTw.out.2.2; omega)⟩
      clear hM hcall c0 c1 c2 c3 c4 c5 c6 hl2 HTw
      go_wp2
      go_roundw
      case rel => exact ⟨i + 1, by omega, by omega, by go_num, HT2⟩
      case measure => simp [intOf]; omega
    · obtain ⟨⟨L', eL', hTo⟩, hlo, hBo, L3, s3, eL3, hTc, hlc⟩ := HEnd.out wr (60 + i) (by omega) HT1.out
      have cS := same_any _ rb L' s wr hTo hlo
      rw [eL'] at cS
      have HBo := Hid3.mk hBo
      have HTc := Hid3.mk (And.intro eL3 (And.intro hTc hlc))
      clear hTo hBo eL' hTc hlc eL3 HEnd
      rcases hstop with hlt | ⟨hlt, h14⟩
      · have hltz : ¬ (i : Int) < (more.length : Int) := by omega
        go_wp2_with fail
        refine cS.mono ?_
        rintro r W6 ⟨rfl, hB6⟩
        have cS2 := same_any _ b2 L3 s3 W6 (HTc.out.2.1.below hB6) HTc.out.2.2
        rw [HTc.out.1] at cS2
        have HB6 := Hid3.mk (HBo.out.trans (hB6.mono HBo.out.size))
        clear cS hB6
        go_wp2_with fail
        refine cS2.mono ?_
        rintro r W7 ⟨rfl, hB7⟩
        have HB7 := Hid3.mk (HB6.out.trans (hB7.mono HB6.out.size))
        clear cS2 hB7
        go_wp2
        go_ret
        exact ⟨rfl, HB7.out⟩
      · have hltz : (i : Int) < (more.length : Int) := by omega
        have h14z : ¬ (i : Int) < 14 := by omega
        go_wp2_with fail
        refine cS.mono ?_
        rintro r W6 ⟨rfl, hB6⟩
        have cS2 := same_any _ b2 L3 s3 W6 (HTc.out.2.1.below hB6) HTc.out.2.2
        rw [HTc.out.1] at cS2
        have HB6 := Hid3.mk (HBo.out.trans (hB6.mono HBo.out.size))
        clear cS hB6
        go_wp2_with fail
        refine cS2.mono ?_
        rintro r W7 ⟨rfl, hB7⟩
        have HB7 := Hid3.mk (HB6.out.trans (hB7.mono HB6.out.size))
        clear cS2 hB7
        go_wp2
        go_ret
        exact ⟨rfl, HB7.out⟩
end Go.Proofs.Ytbkpkcndmlapfaa
