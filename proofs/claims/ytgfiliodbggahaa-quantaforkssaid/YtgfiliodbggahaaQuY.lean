/- A deed on both, deeds, live. -/
import Derived.Test.YtgfiliodbggahaaQuW
namespace Go.Proofs.Ytgfiliodbggahaa
open Go.RowKit Go.Maps
set_option linter.unusedVariables false
set_option maxRecDepth 100000
theorem goS_le : ∀ (l : List Pe) (pen : Fin 6 → Nat) (e : Fin 6), (goS l pen).1 e ≤ pen e
  | [], pen, e => Nat.le_refl _
  | x :: l, pen, e => by
    simp only [goS]
    split
    · exact Nat.le_refl _
    · refine Nat.le_trans (goS_le l _ e) ?_
      unfold upd
      split
      · rename_i e2; subst e2; omega
      · exact Nat.le_refl _
theorem ok_turn {q : Qs} (h : q.Ok) : (turnQ q).Ok := fun e => Nat.le_trans (goS_le _ _ e) (h e)
theorem ok_hand {q : Qs} (h : q.Ok) (e : Fin 6) (k : Fin 8) (o : Option (Fin 6)) : (handQ e k o q).Ok := by
  unfold handQ; split <;> exact h
theorem ok_take {q : Qs} (h : q.Ok) (e : Fin 6) (k : Fin 8) : (takeQ e k q).Ok := by
  unfold takeQ; split <;> exact h
theorem ok_out {q : Qs} (h : q.Ok) (e : Fin 6) : (outQ e q).Ok := fun i => by
  show upd q.pen e 0 i ≤ 1000
  unfold upd
  split
  · omega
  · exact h i
theorem ok_over {q : Qs} (h : q.Ok) (e : Fin 6) (s : Nat) : (overQ e s q).Ok := fun i => by
  show upd q.pen e _ i ≤ 1000
  unfold upd
  split
  · omega
  · exact h i
def doQ (d : Dd) (q : Qs) : Qs :=
  if d.1 = 0 then tkQ d.2.2.1 d.2.1 q else if d.1 = 1 then gvQ d.2.2.1 d.2.1 d.2.2.2 q else if d.1 = 2 then dpQ d.2.2.1 d.2.1 q else
  if d.1 = 3 then otQ d.2.2.1 q else if d.1 = 4 then ovQ d.2.2.1 d.2.1 q else if d.1 = 5 then turnQ q else q
theorem ok_do {q : Qs} (h : q.Ok) (d : Dd) : (doQ d q).Ok := by
  unfold doQ tkQ gvQ dpQ otQ ovQ
  repeat' split
  all_goals first
    | exact h
    | exact ok_take h _ _
    | exact ok_hand h _ _ _
    | exact ok_out h _
    | exact ok_over h _ _
    | exact ok_turn h
def playQ : List Dd → Qs → Qs
  | [], q => q
  | d :: l, q => playQ l (doQ d q)
theorem playQ_snoc : ∀ (l : List Dd) (d : Dd) (q : Qs), playQ (l ++ [d]) q = doQ d (playQ l q)
  | [], d, q => rfl
  | x :: l, d, q => playQ_snoc l d (doQ x q)
theorem ok_play : ∀ (l : List Dd) {q : Qs}, q.Ok → (playQ l q).Ok
  | [], _, h => h
  | d :: l, _, h => ok_play l (ok_do h d)
theorem ok_q0 : q0.Ok := fun _ => Nat.zero_le _
set_option maxHeartbeats 1000000 in
theorem do_5 (B vb pb rb : Nat) (q : Qs) (place env to : Int) (w : World) (h : Two B w vb pb rb q) (hq : q.Ok) : Calls Try.prog 24 #[.pointer (some ⟨vb, 0, none⟩), .pointer (some ⟨rb, 0, none⟩), .agg #[.int .i64 5, .int .i64 place, .int .u8 env, .int .u8 to]] w fun r w' => r = .returned (.bool true) ∧ Mv B w w' vb pb rb (turnQ q) := by
  have hX := below_new w (.cells #[.int .i64 5, .int .i64 place, .int .u8 env, .int .u8 to] 42)
  have HT : Hid3 (Two B (w.alloc (.cells #[.int .i64 5, .int .i64 place, .int .u8 env, .int .u8 to] 42)) vb pb rb q) := ⟨h.below hX⟩
  have HX : Hid3 (Below w.heap.size w (w.alloc (.cells #[.int .i64 5, .int .i64 place, .int .u8 env, .int .u8 to] 42))) := ⟨hX⟩
  have cT := turn_any B vb pb q _ HT.out.t hq
  have cR := fun W (hV : Rv B W rb q) => rturn_any B rb q W hV hq
  generalize turnQ q = q' at *
  generalize (turnS q).2 = o at *
  clear h hX hq
  cases o with
  | none =>
    simp only [turnV] at cT cR
    go_enter Try.func24, Try.ntmps24
    go_wp2_with fail
    refine cT.mono ?_
    rintro r W1 ⟨rfl, hs1⟩
    have HR1 : Hid3 (Rv B W1 rb q) := ⟨HT.out.r.stay hs1.ap HT.out.nv⟩
    have HS1 : Hid3 (VStp B (w.alloc (.cells #[.int .i64 5, .int .i64 place, .int .u8 env, .int .u8 to] 42)) W1 vb pb q') := ⟨hs1⟩
    clear hs1 cT
    go_wp2_with fail
    refine (cR _ HR1.out).mono ?_
    rintro r W2 ⟨rfl, hs2⟩
    have HM : Hid3 (Mv B w W2 vb pb rb q') := ⟨(Mv.mk' HT.out HS1.out hs2).pre HX.out⟩
    clear hs2 cR
    go_wp2
    go_ret
    exact ⟨rfl, HM.out⟩
  | some x =>
    simp only [turnV] at cT cR
    generalize ((x.1.1 : Nat) : Int) = a at *
    generalize ((x.2.1 : Nat) : Int) = b at *
    have haa : (a == a) = true := by simp
    have hbb : (b == b) = true := by simp
    go_enter Try.func24, Try.ntmps24
    go_wp2_with fail
    refine cT.mono ?_
    rintro r W1 ⟨rfl, hs1⟩
    have HR1 : Hid3 (Rv B W1 rb q) := ⟨HT.out.r.stay hs1.ap HT.out.nv⟩
    have HS1 : Hid3 (VStp B (w.alloc (.cells #[.int .i64 5, .int .i64 place, .int .u8 env, .int .u8 to] 42)) W1 vb pb q') := ⟨hs1⟩
    clear hs1 cT
    go_wp2_with fail
    refine (cR _ HR1.out).mono ?_
    rintro r W2 ⟨rfl, hs2⟩
    have HM : Hid3 (Mv B w W2 vb pb rb q') := ⟨(Mv.mk' HT.out HS1.out hs2).pre HX.out⟩
    clear hs2 cR
    go_wp2
    go_ret
    exact ⟨rfl, HM.out⟩
set_option maxHeartbeats 1000000 in
theorem do_else (B vb pb rb : Nat) (q : Qs) (k place env to : Int) (w : World) (h : Two B w vb pb rb q) (h0 : k ≠ 0) (h1 : k ≠ 1) (h2 : k ≠ 2) (h3 : k ≠ 3) (h4 : k ≠ 4) (h5 : k ≠ 5) : Calls Try.prog 24 #[.pointer (some ⟨vb, 0, none⟩), .pointer (some ⟨rb, 0, none⟩), .agg #[.int .i64 k, .int .i64 place, .int .u8 env, .int .u8 to]] w fun r w' => r = .returned (.bool true) ∧ Mv B w w' vb pb rb q := by
  have HM : Hid3 (Mv B w (w.alloc (.cells #[.int .i64 k, .int .i64 place, .int .u8 env, .int .u8 to] 42)) vb pb rb q) := ⟨Mv.same h (below_new w _)⟩
  have e0 : (k == 0) = false := by simpa using h0
  have e1 : (k == 1) = false := by simpa using h1
  have e2 : (k == 2) = false := by simpa using h2
  have e3 : (k == 3) = false := by simpa using h3
  have e4 : (k == 4) = false := by simpa using h4
  have e5 : (k == 5) = false := by simpa using h5
  clear h
  go_enter Try.func24, Try.ntmps24
  go_wp2
  go_ret
  exact ⟨rfl, HM.out⟩
theorem do_any (B vb pb rb : Nat) (q : Qs) (d : Dd) (w : World) (h : Two B w vb pb rb q) (hq : q.Ok) (hd : DdOk d) : Calls Try.prog 24 #[.pointer (some ⟨vb, 0, none⟩), .pointer (some ⟨rb, 0, none⟩), ddV d] w fun r w' => r = .returned (.bool true) ∧ Mv B w w' vb pb rb (doQ d q) := by
  obtain ⟨k, place, env, to⟩ := d
  obtain ⟨d0, d1⟩ := hd
  unfold doQ ddV
  simp only at d0 d1 ⊢
  by_cases h0 : k = 0
  · subst h0; exact do_0 B vb pb rb q place env to w h hq d0 d1
  by_cases h1 : k = 1
  · subst h1; exact do_1 B vb pb rb q place env to w h hq d0 d1
  by_cases h2 : k = 2
  · subst h2; exact do_2 B vb pb rb q place env to w h hq d0 d1
  by_cases h3 : k = 3
  · subst h3; exact do_3 B vb pb rb q place env to w h hq d0 d1
  by_cases h4 : k = 4
  · subst h4; exact do_4 B vb pb rb q place env to w h hq d0 d1
  by_cases h5 : k = 5
  · subst h5; exact do_5 B vb pb rb q place env to w h hq
  rw [if_neg h0, if_neg h1, if_neg h2, if_neg h3, if_neg h4, if_neg h5]
  exact do_else B vb pb rb q k place env to w h h0 h1 h2 h3 h4 h5
/-- A slice of deeds that can be read. -/
def Dds (w : World) (v : Value) (l : List Dd) : Prop := ∃ a cap, v = .slice a l.length cap ∧ ∀ (j : Nat) (d : Dd), l[j]? = some d → ∃ g off, a = some ⟨g, off, none⟩ ∧ w.cell? ⟨g, off + j * 4, none⟩ = some (.int .i64 d.1) ∧ w.cell? ⟨g, off + j * 4 + 1, none⟩ = some (.int .i64 d.2.1) ∧ w.cell? ⟨g, off + j * 4 + 2, none⟩ = some (.int .u8 d.2.2.1) ∧ w.cell? ⟨g, off + j * 4 + 3, none⟩ = some (.int .u8 d.2.2.2)
theorem Dds.below {w w' : World} {v : Value} {l : List Dd} (h : Dds w v l) (k : Below w.heap.size w w') : Dds w' v l := by
  obtain ⟨a, cap, rfl, hcell⟩ := h
  refine ⟨a, cap, rfl, fun j d hj => ?_⟩
  obtain ⟨g, off, rfl, c0, c1, c2, c3⟩ := hcell j d hj
  have hb := k.block g (World.block_lt_of_cell? w _ c0)
  refine ⟨g, off, rfl, ?_, ?_, ?_, ?_⟩ <;> (rw [World.cell?_of_block (w := w) hb]; assumption)
theorem Two.base {B B' : Nat} {w : World} {vb pb rb : Nat} {q : Qs} (h : Two B' w vb pb rb q) (hB : B ≤ B') : Two B w vb pb rb q :=
  ⟨⟨Nat.le_trans hB h.t.gv, Nat.le_trans hB h.t.gp, h.t.v, h.t.p⟩, ⟨Nat.le_trans hB h.r.g, h.r.r⟩⟩
set_option maxHeartbeats 1000000 in
theorem play_any (v : Value) (l : List Dd) (w : World) (hd : Dds w v l) (hok : ∀ d ∈ l, DdOk d) : Calls Try.prog 9 #[v] w fun e w' => ∃ vb pb rb, e = .returned (.tuple #[.pointer (some ⟨vb, 0, none⟩), .pointer (some ⟨rb, 0, none⟩), .bool true]) ∧ Two w.heap.size w' vb pb rb (playQ (l.take 60) q0) ∧ Below w.heap.size w w' := by
  have cN := new_any w
  obtain ⟨ad, cap, rfl, hcell⟩ := id hd
  have HD : Hid (Dds w (.slice ad l.length cap) l) := hd
  have HK : Hid (∀ d ∈ l, DdOk d) := hok
  clear hd hcell hok
  go_enter Try.func9, Try.ntmps9
  go_wp2_with fail
  refine cN.mono ?_
  rintro e W0 ⟨rfl, hO, hB0⟩
  have cR := rnew_any W0
  go_wp2_with fail
  refine cR.mono ?_
  rintro e W1 ⟨rfl, hO2, hB1⟩
  have HT : Hid (Two w.heap.size W1 (w.heap.size + 1) w.heap.size W0.heap.size (playQ (l.take 0) q0)) := ⟨hO.below hB1, ⟨Nat.le_trans hB0.size hO2.g, hO2.r⟩⟩
  have HB : Hid (Below w.heap.size w W1) := hB0.trans (hB1.mono hB0.size)
  clear hO hO2 hB0 hB1 cN cR
  generalize W0.heap.size = rb at *
  go_wp2_with fail
  go_loopw [7] (fun s7 wr => ∃ (i : Nat), i ≤ l.length ∧ i ≤ 60 ∧ s7 = .int .i64 i ∧ Hid (Two w.heap.size wr (w.heap.size + 1) w.heap.size rb (playQ (l.take i) q0)) ∧ Hid (Below w.heap.size w wr)) (fun s7 _ => 60 - (intOf s7).toNat)
  case atStart => exact ⟨0, Nat.zero_le _, by omega, rfl, HT.out, HB.out⟩
  case round =>
    obtain ⟨i, hil, hi6, rfl, HT1, HB1⟩ := hrel
    by_cases hlt : i < l.length
    · have hltz : (i : Int) < (l.length : Int) := by omega
      by_cases h60 : i < 60
      · have h60z : (i : Int) < 60 := by omega
        have hsz := HB1.out.size
        obtain ⟨_, _, e0, hc⟩ := HD.out.below HB1.out
        injection e0 with e1 e2 e3
        obtain ⟨g, off, e4, c0, c1, c2, c3⟩ := hc i l[i] (List.getElem?_eq_getElem hlt)
        rw [← e1] at e4
        subst e4
        have hcall := do_any w.heap.size (w.heap.size + 1) w.heap.size rb _ l[i] wr HT1.out (ok_play _ ok_q0) (HK.out _ (List.getElem_mem hlt))
        have hpl : playQ (l.take (i + 1)) q0 = doQ l[i] (playQ (l.take i) q0) := by rw [List.take_succ_eq_append_getElem hlt, playQ_snoc]
        rw [← hpl] at hcall
        unfold ddV at hcall
        clear hc e1 e2 e3 hpl
        generalize l[i] = d at *
        obtain ⟨d0, d1, d2, d3⟩ := d
        simp only at c0 c1 c2 c3 hcall
        go_wp2_with fail
        refine hcall.mono ?_
        rintro e W2 ⟨rfl, hM⟩
        have HT2 : Hid (Two w.heap.size W2 (w.heap.size + 1) w.heap.size rb (playQ (l.take (i + 1)) q0)) := hM.two
        have HB2 : Hid (Below w.heap.size w W2) := HB1.out.trans (hM.below HT1.out hsz)
        clear hM hcall c0 c1 c2 c3
        go_wp2
        go_roundw
        case rel => exact ⟨i + 1, by omega, by omega, by go_num, HT2.out, HB2.out⟩
        case measure => simp [intOf]; omega
      · have h60z : ¬ (i : Int) < 60 := by omega
        have hi : i = 60 := by omega
        subst hi
        go_wp2
        go_ret3
        exact ⟨_, _, _, rfl, HT1.out, HB1.out⟩
    · have hltz : ¬ (i : Int) < (l.length : Int) := by omega
      have HTk : Hid (l.take 60 = l.take i) := by
        show _ = _
        rw [List.take_of_length_le (by omega), List.take_of_length_le (by omega)]
      go_wp2
      go_ret3
      refine ⟨w.heap.size + 1, w.heap.size, rb, rfl, ?_, HB1.out⟩
      rw [HTk.out]
      exact HT1.out
end Go.Proofs.Ytgfiliodbggahaa
