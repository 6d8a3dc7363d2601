/- RevokeDue: the walk. -/
import Derived.Test.YtpmndhbcohjboaaLawRvD
namespace Go.Proofs.Ytpmndhbcohjboaa
open Go.RowKit Go.Maps
set_option linter.unusedVariables false
set_option maxRecDepth 100000
theorem filter_swap (L : List Dm) (p r : Dm → Bool) : (L.filter p).filter r = (L.filter r).filter p := by
  rw [List.filter_filter, List.filter_filter]
  exact List.filter_congr fun d _ => Bool.and_comm _ _
/-- Of an environment just these are asked back, and this is its vector. -/
structure At (q : Rs) (k : Nat) (D : List Dm) (V : List Int) : Prop where
  d : q.d.filter (ofP k) = D
  v : vAt k q = V
theorem at_out {k : Nat} (hk : k < 6) (q : Rs) : At (outQ k q) k [] [] := ⟨by
  show (q.d.filter (fun d => !ofP k d)).filter (ofP k) = []
  rw [List.filter_filter]
  exact List.filter_eq_nil_iff.2 (fun d _ => by cases ofP k d <;> simp), vAt_out hk q⟩
theorem At.none {q : Rs} {k : Nat} {V : List Int} (h : At q k [] V) (f : Int) : dget q.d k f = none := by
  unfold dget
  rw [List.find?_eq_none.2 (fun d hd e => ?_)]
  · rfl
  · have e2 : d.1 = k ∧ d.2.1 = f := of_decide_eq_true e
    have : d ∈ q.d.filter (ofP k) := List.mem_filter.2 ⟨hd, decide_eq_true e2.1⟩
    rw [h.d] at this
    cases this
theorem At.ask {q : Rs} {k : Nat} (hk : k < 6) {V : List Int} (h : At q k [] V) {f n w : Int} (he : askE k f n w q = 0) : At (askQ k f n w q) k [(k, f, n + w)] V := by
  unfold askQ
  rw [if_pos he]
  refine ⟨?_, ?_⟩
  · show (q.d ++ [((k : Int), f, n + w)]).filter (ofP k) = _
    rw [List.filter_append, h.d]
    simp [ofP]
  · rw [← h.v, vAt_ok _ k hk, vAt_ok _ k hk]
theorem due_at {q : Rs} {k : Nat} (hk : k < 6) {D : List Dm} {V : List Int} (h : At q k D V) (t : Int) : (dueL t q).filter (ofP k) = D.filter (dueP t) ∧ At (dueQ t q) k (D.filter (fun d => !dueP t d)) (V ++ (D.filter (dueP t)).map (fun d => d.2.1)) := by
  have h1 : (dueL t q).filter (ofP k) = D.filter (dueP t) := by
    unfold dueL
    rw [filter_swap, h.d]
  refine ⟨h1, ?_, ?_⟩
  · show (q.d.filter (fun d => !dueP t d)).filter (ofP k) = _
    rw [filter_swap, h.d]
  · rw [vAt_ok _ k hk]
    show q.v ⟨k, hk⟩ ++ ((dueL t q).filter (ofP k)).map (fun d => d.2.1) = _
    rw [h1, ← h.v, vAt_ok _ k hk]
theorem done_at {q : Rs} {k : Nat} (hk : k < 6) {f T : Int} {V : List Int} (h : At q k [((k : Int), f, T)] V) : doneE k f q = 0 ∧ At (doneQ k f q) k [] V := by
  have hm : ((k : Int), f, T) ∈ q.d := (List.mem_filter.1 (by rw [h.d]; exact List.mem_singleton.2 rfl : ((k : Int), f, T) ∈ q.d.filter (ofP k))).1
  refine ⟨?_, ?_, ?_⟩
  · unfold doneE
    rw [if_neg (fun e => ?_)]
    have : ((k : Int), f, T) ∈ q.d.filter (hasK k f) := List.mem_filter.2 ⟨hm, decide_eq_true ⟨rfl, rfl⟩⟩
    rw [List.eq_nil_of_length_eq_zero e] at this
    cases this
  · show (q.d.filter (fun d => !hasK k f d)).filter (ofP k) = []
    rw [filter_swap, h.d]
    simp [hasK]
  · rw [← h.v, vAt_ok _ k hk, vAt_ok _ k hk]
    rfl
theorem early_no {q : Rs} {k : Nat} (hk : k < 6) {f T : Int} {V : List Int} (h : At q k [((k : Int), f, T)] V) {t : Int} (ht : t < T) : (∀ i (hi : i < (dueL t q).length), ¬ (dueL t q)[i].1 = k) ∧ At (dueQ t q) k [((k : Int), f, T)] V := by
  have hp : dueP t ((k : Int), f, T) = false := decide_eq_false (by simp only; omega)
  obtain ⟨h1, h2⟩ := due_at hk h t
  have e1 : [((k : Int), f, T)].filter (dueP t) = [] := by simp [hp]
  have e2 : [((k : Int), f, T)].filter (fun d => !dueP t d) = [((k : Int), f, T)] := by simp [hp]
  rw [e1] at h1 h2
  rw [e2] at h2
  refine ⟨fun i hi e => ?_, by simpa using h2⟩
  have : (dueL t q)[i] ∈ (dueL t q).filter (ofP k) := List.mem_filter.2 ⟨List.getElem_mem hi, decide_eq_true e⟩
  rw [h1] at this
  cases this
theorem late_one {q : Rs} {k : Nat} (hk : k < 6) {f T : Int} (h : At q k [((k : Int), f, T)] []) : At (dueQ T q) k [] [f] := by
  have hp : dueP T ((k : Int), f, T) = true := decide_eq_true (Int.le_refl _)
  have := (due_at hk h T).2
  simpa [hp] using this
theorem late_no {q : Rs} {k : Nat} (hk : k < 6) {T : Int} (h : At q k [] []) : At (dueQ T q) k [] [] := by simpa using (due_at hk h T).2
set_option maxHeartbeats 16000000 in
theorem due_law (v : Value) (l : List Dd) (x : Dd) (up : Bool) (w : World) (hd : Dds w v l) (hok : ∀ d ∈ l, d.Ok) (hx : x.Ok) (hx2 : x.e ≤ 255 ∧ x.f ≤ 255) : Calls Try.prog 4 #[v, x.V, .bool up] w fun e w' => e = .returned (.bool true) ∧ Below w.heap.size w w' := by
  obtain ⟨kk, n, h, e, f⟩ := x
  have hx0 : 0 ≤ e ∧ 0 ≤ f := hx
  have hx3 : e ≤ 255 ∧ f ≤ 255 := hx2
  obtain ⟨k, hk⟩ : ∃ k : Nat, e % 6 = k := ⟨(e % 6).toNat, by omega⟩
  have hk6 : k < 6 := by omega
  obtain ⟨g, hg⟩ : ∃ g : Nat, f % 64 = g := ⟨(f % 64).toNat, by omega⟩
  have hg64 : g < 64 := by omega
  have hk2 : e.tmod 6 = (k : Int) := by rw [Int.tmod_eq_emod_of_nonneg hx0.1]; exact hk
  have hg2 : f.tmod 64 = (g : Int) := by rw [Int.tmod_eq_emod_of_nonneg hx0.2]; exact hg
  have hX := below_new w (.cells #[.int .i64 kk, .int .i64 n, .int .i64 h, .int .u8 e, .int .u8 f] 31)
  have HX := Hid3.mk hX
  have cP := play_any v l (w.alloc (.cells #[.int .i64 kk, .int .i64 n, .int .i64 h, .int .u8 e, .int .u8 f] 31)) (hd.below hX) hok
  have hbx := Cl.new w 31 [.int .i64 kk, .int .i64 n, .int .i64 h, .int .u8 e, .int .u8 f]
  have hwsz : w.heap.size < (w.alloc (.cells #[.int .i64 kk, .int .i64 n, .int .i64 h, .int .u8 e, .int .u8 f] 31)).heap.size := by simp
  clear hd hX hx hx2 hx0 hx3
  change Calls _ _ #[_, .agg #[.int .i64 kk, .int .i64 n, .int .i64 h, .int .u8 e, .int .u8 f], _] _ _
  go_enter Try.func4, Try.ntmps4
  go_wp2_with fail
  generalize (w.alloc (.cells #[.int .i64 kk, .int .i64 n, .int .i64 h, .int .u8 e, .int .u8 f] 31)) = w0 at *
  refine cP.mono ?_
  rintro r W1 ⟨b, m, rb, rfl, hM, hO⟩
  generalize playQ (l.take 50) q0 = q at *
  have HO := Hid3.mk hO
  have HL1 := Hid3.mk hM.liv
  have hbx1 : Cl W1 w.heap.size 31 [.int .i64 kk, .int .i64 n, .int .i64 h, .int .u8 e, .int .u8 f] := (hM.below.block w.heap.size hwsz).trans hbx
  clear cP hM hO hbx
  go_wp2_with fail
  refine (live_any _).mono ?_
  rintro r W2 ⟨rfl, hB⟩
  have HL2 := Hid3.mk ((HL1.out.post hB).post (below_drew _))
  have hbx2 := hbx1.below hB
  have y1 : W2.cell? ⟨w.heap.size, 1, none⟩ = some (.int .i64 n) := hbx2.cell 1
  have y2 : W2.cell? ⟨w.heap.size, 2, none⟩ = some (.int .i64 h) := hbx2.cell 2
  have y3 : W2.cell? ⟨w.heap.size, 3, none⟩ = some (.int .u8 e) := hbx2.cell 3
  have y4 : W2.cell? ⟨w.heap.size, 4, none⟩ = some (.int .u8 f) := hbx2.cell 4
  have yl := hbx2.lt
  clear hB HL1 hbx1 hbx2
  have HW : Hid3 (∀ W, Below w0.heap.size w0 W → Below w.heap.size w W) := ⟨fun W hW => HX.out.trans (hW.mono HX.out.size)⟩
  go_wp2_with fail
  refine still_tail 13 (by kernel_rfl) (by kernel_rfl) ?_
  simp only [List.take_succ_cons, List.take_zero, List.drop_succ_cons, List.drop_zero]
  repeat still_step
  refine wpStill_nil ?_
  clear y1 y2 y3 y4 yl
  generalize W2.drew = W3 at *
  by_cases b0 : n < 0
  · have HB := Hid3.mk (HW.out _ HL2.out.below)
    clear HL2 HW
    go_wp2
    go_ret
    exact ⟨rfl, HB.out⟩
  by_cases b1 : 1000000 < n
  · have HB := Hid3.mk (HW.out _ HL2.out.below)
    clear HL2 HW
    go_wp2
    go_ret
    exact ⟨rfl, HB.out⟩
  by_cases b2 : h < 0
  · have HB := Hid3.mk (HW.out _ HL2.out.below)
    clear HL2 HW
    go_wp2
    go_ret
    exact ⟨rfl, HB.out⟩
  by_cases b3 : 1000 < h
  · have HB := Hid3.mk (HW.out _ HL2.out.below)
    clear HL2 HW
    go_wp2
    go_ret
    exact ⟨rfl, HB.out⟩
  have hsum1 : n + h ≤ 1001000 := by omega
  have hsum0 : 0 ≤ n + h := by omega
  have hws : IntKind.i64.wrap (n + h) = n + h := by rw [IntKind.wrap_i64]; omega
  have hwt : IntKind.i64.wrap (n + h - 1) = n + h - 1 := by rw [IntKind.wrap_i64]; omega
  obtain ⟨av3, vs3, hb3⟩ := HL2.out.out
  have c3 := outc_any w0.heap.size b m av3 vs3 q 50 k (by omega) W3 hb3 HO.out
  have H3 := Hid3.mk hb3
  have HO4 := Hid3.mk (out_ok (x := (k : Int)) HO.out)
  have HA4 := Hid3.mk (at_out hk6 q)
  clear hb3
  generalize outQ k q = q4 at *
  go_wp2_with fail
  refine c3.mono ?_
  rintro r W4 ⟨rfl, hs⟩
  have HL4 := Hid3.mk (Liv.step H3.out HL2.out.below hs)
  clear c3 hs H3 HL2
  obtain ⟨av4, vs4, hb4⟩ := HL4.out.out
  have c4 := ask_any w0.heap.size b m av4 vs4 q4 51 k g n h W4 hb4 HO4.out
  have H4 := Hid3.mk hb4
  have hnb : ¬ askBad k g n h := by unfold askBad; omega
  have heq : askE k g n h q4 = if q4.d.length = 8 then 4 else 0 := by
    unfold askE
    rw [if_neg hnb, HA4.out.none g]
    rfl
  have HO5 := Hid3.mk (ask_ok (x := (k : Int)) (y := (g : Int)) (n := n) (k := h) (by omega) (by omega) HO4.out)
  clear hb4
  by_cases h8 : q4.d.length = 8
  · rw [if_pos h8] at heq
    have hq5 : askQ k g n h q4 = q4 := by unfold askQ; rw [heq]; rfl
    rw [heq, hq5] at c4
    clear heq hq5
    go_wp2_with fail
    refine c4.mono ?_
    rintro r W5 ⟨rfl, hs⟩
    have HL5 := Hid3.mk (Liv.step H4.out HL4.out.below hs)
    obtain ⟨av5, vs5, hb5⟩ := HL5.out.out
    have c5 := open_any w0.heap.size b m av5 vs5 q4 51 W5 hb5 HO4.out
    rw [h8] at c5
    clear c4 hs H4 HL4 hb5 h8
    go_wp2_with fail
    refine c5.mono ?_
    rintro r W6 ⟨u6, rfl, hr6, hB6⟩
    obtain ⟨a6, k6, rfl⟩ := hr6.sl
    have HB := Hid3.mk (HW.out _ (HL5.out.post hB6).below)
    clear c5 hr6 hB6 HL5
    go_wp2
    go_ret
    exact ⟨rfl, HB.out⟩
  · rw [if_neg h8] at heq
    have HA5 := Hid3.mk (HA4.out.ask hk6 heq)
    rw [heq] at c4
    clear heq h8 HA4
    generalize askQ k g n h q4 = q5 at *
    go_wp2_with fail
    refine c4.mono ?_
    rintro r W5 ⟨rfl, hs⟩
    have HL5 := Hid3.mk (Liv.step H4.out HL4.out.below hs)
    clear c4 hs H4 HL4
    by_cases hh : 0 < h
    · obtain ⟨av6, vs6, hb6⟩ := HL5.out.out
      have c6 := due_any w0.heap.size b m av6 vs6 q5 52 (n + h - 1) W5 hb6 HO5.out (by omega)
      have H6 := Hid3.mk hb6
      obtain ⟨hno, hA6⟩ := early_no hk6 HA5.out (t := n + h - 1) (by omega)
      have HNO := Hid3.mk hno
      have HA6 := Hid3.mk hA6
      have HO6 := Hid3.mk (due_ok (t := n + h - 1) HO5.out)
      have hl6 : (dueL (n + h - 1) q5).length ≤ 8 := Nat.le_trans (List.length_filter_le _ _) HO5.out.few
      clear hb6 hno hA6 HA5
      generalize dueQ (n + h - 1) q5 = q6 at *
      generalize dueL (n + h - 1) q5 = L6 at *
      go_wp2_with fail
      refine c6.mono ?_
      rintro r W6 ⟨u6, rfl, hr6, hs⟩
      obtain ⟨a6, k6, rfl⟩ := hr6.sl
      have HL6 := Hid3.mk (Liv.step H6.out HL5.out.below hs)
      have HR6 := Hid3.mk hr6
      clear c6 hs H6 HL5 hr6
      go_wp2
      go_loopw [16] (fun s16 wr => ∃ jj : Nat, jj ≤ L6.length ∧ s16 = .int .i64 jj ∧ wr = W6) (fun s16 _ => L6.length - (intOf s16).toNat)
      case atStart => exact ⟨0, Nat.zero_le _, rfl, rfl⟩
      case round =>
        obtain ⟨jj, hjj, rfl, rfl⟩ := hrel
        by_cases hlt : jj < L6.length
        · have hltz : (jj : Int) < (L6.length : Int) := by omega
          obtain ⟨g', off, rfl, hg', z0, _, _⟩ := Row3.at HR6.out jj hlt
          have hne := HNO.out jj hlt
          generalize L6[jj].1 = z at *
          go_wp2
          go_roundw
          case rel => exact ⟨jj + 1, by omega, by go_num, by trivial⟩
          case measure => simp [intOf]; omega
        · have hltz : ¬ (jj : Int) < (L6.length : Int) := by omega
          clear HNO HR6
          cases up with
          | true =>
            obtain ⟨avd, vsd, hbd⟩ := HL6.out.out
            have cd := done_any w0.heap.size b m avd vsd q6 53 k g wr hbd HO6.out
            rw [(done_at hk6 HA6.out).1] at cd
            have HAd := Hid3.mk (done_at hk6 HA6.out).2
            have HOd := Hid3.mk (done_ok (x := (k : Int)) (y := (g : Int)) HO6.out)
            have Hd := Hid3.mk hbd
            clear hbd
            generalize doneQ k g q6 = qd at *
            go_wp2_with fail
            refine cd.mono ?_
            rintro r Wd ⟨rfl, hs⟩
            have HLd := Hid3.mk (Liv.step Hd.out HL6.out.below hs)
            clear cd hs Hd HL6
            obtain ⟨avt, vst, hbt⟩ := HLd.out.out
            have ct := due_any w0.heap.size b m avt vst qd (53 + 1) (n + h) Wd hbt HOd.out (by omega)
            have Ht := Hid3.mk hbt
            have HAt := Hid3.mk (late_no hk6 (T := n + h) HAd.out)
            have HOt := Hid3.mk (due_ok (t := n + h) HOd.out)
            clear hbt
            generalize dueQ (n + h) qd = qt at *
            go_wp2_with fail
            refine ct.mono ?_
            rintro r Wt ⟨ut, rfl, hrt, hs⟩
            obtain ⟨at1, kt1, rfl⟩ := hrt.sl
            have HLt := Hid3.mk (Liv.step Ht.out HLd.out.below hs)
            clear ct hs Ht HLd hrt
            obtain ⟨avu, vsu, hbu⟩ := HLt.out.out
            have cu := asked_any w0.heap.size b m avu vsu qt k g Wt hbu
            rw [HAt.out.none g] at cu
            have cv := lost_any w0.heap.size b m avu vsu qt ((53 + 1) + 1) k (by omega) Wt hbu HOt.out (by omega)
            rw [HAt.out.v] at cv
            clear hbu
            go_wp2_with fail
            refine cu.mono ?_
            rintro r Wu ⟨rfl, hWu⟩
            rw [hWu]
            clear cu hWu
            go_wp2_with fail
            refine cv.mono ?_
            rintro r Wv ⟨uv, rfl, hrv, hBv⟩
            have HB := Hid3.mk (HW.out _ (HLt.out.post hBv).below)
            obtain ⟨av1, kv1, rfl⟩ := hrv.sl
            clear cv hrv hBv HLt
            go_wp2
            go_ret
            exact ⟨rfl, HB.out⟩
          | false =>
            obtain ⟨avt, vst, hbt⟩ := HL6.out.out
            have ct := due_any w0.heap.size b m avt vst q6 53 (n + h) wr hbt HO6.out (by omega)
            have Ht := Hid3.mk hbt
            have HAt := Hid3.mk (late_one hk6 (T := n + h) HA6.out)
            have HOt := Hid3.mk (due_ok (t := n + h) HO6.out)
            clear hbt
            generalize dueQ (n + h) q6 = qt at *
            go_wp2_with fail
            refine ct.mono ?_
            rintro r Wt ⟨ut, rfl, hrt, hs⟩
            obtain ⟨at1, kt1, rfl⟩ := hrt.sl
            have HLt := Hid3.mk (Liv.step Ht.out HL6.out.below hs)
            clear ct hs Ht HL6 hrt
            obtain ⟨avu, vsu, hbu⟩ := HLt.out.out
            have cu := asked_any w0.heap.size b m avu vsu qt k g Wt hbu
            rw [HAt.out.none g] at cu
            have cv := lost_any w0.heap.size b m avu vsu qt (53 + 1) k (by omega) Wt hbu HOt.out (by omega)
            rw [HAt.out.v] at cv
            clear hbu
            go_wp2_with fail
            refine cu.mono ?_
            rintro r Wu ⟨rfl, hWu⟩
            rw [hWu]
            clear cu hWu
            go_wp2_with fail
            refine cv.mono ?_
            rintro r Wv ⟨uv, rfl, hrv, hBv⟩
            have HB := Hid3.mk (HW.out _ (HLt.out.post hBv).below)
            rcases hrv.form with ⟨_, i, _⟩ | ⟨gv, ov, cv1, rfl, _, _, hgv, hcv⟩
            · cases i
            have z0 : Wv.cell? ⟨gv, ov, none⟩ = some (.int .u8 (g : Int)) := hcv 0 _ rfl
            clear cv hrv hBv HLt hcv
            go_wp2
            go_ret
            exact ⟨rfl, HB.out⟩
    · have hh0 : ¬ 0 < h := hh
      cases up with
      | true =>
        obtain ⟨avd, vsd, hbd⟩ := HL5.out.out
        have cd := done_any w0.heap.size b m avd vsd q5 52 k g W5 hbd HO5.out
        rw [(done_at hk6 HA5.out).1] at cd
        have HAd := Hid3.mk (done_at hk6 HA5.out).2
        have HOd := Hid3.mk (done_ok (x := (k : Int)) (y := (g : Int)) HO5.out)
        have Hd := Hid3.mk hbd
        clear hbd
        generalize doneQ k g q5 = qd at *
        go_wp2_with fail
        refine cd.mono ?_
        rintro r Wd ⟨rfl, hs⟩
        have HLd := Hid3.mk (Liv.step Hd.out HL5.out.below hs)
        clear cd hs Hd HL5
        obtain ⟨avt, vst, hbt⟩ := HLd.out.out
        have ct := due_any w0.heap.size b m avt vst qd (52 + 1) (n + h) Wd hbt HOd.out (by omega)
        have Ht := Hid3.mk hbt
        have HAt := Hid3.mk (late_no hk6 (T := n + h) HAd.out)
        have HOt := Hid3.mk (due_ok (t := n + h) HOd.out)
        clear hbt
        generalize dueQ (n + h) qd = qt at *
        go_wp2_with fail
        refine ct.mono ?_
        rintro r Wt ⟨ut, rfl, hrt, hs⟩
        obtain ⟨at1, kt1, rfl⟩ := hrt.sl
        have HLt := Hid3.mk (Liv.step Ht.out HLd.out.below hs)
        clear ct hs Ht HLd hrt
        obtain ⟨avu, vsu, hbu⟩ := HLt.out.out
        have cu := asked_any w0.heap.size b m avu vsu qt k g Wt hbu
        rw [HAt.out.none g] at cu
        have cv := lost_any w0.heap.size b m avu vsu qt ((52 + 1) + 1) k (by omega) Wt hbu HOt.out (by omega)
        rw [HAt.out.v] at cv
        clear hbu
        go_wp2_with fail
        refine cu.mono ?_
        rintro r Wu ⟨rfl, hWu⟩
        rw [hWu]
        clear cu hWu
        go_wp2_with fail
        refine cv.mono ?_
        rintro r Wv ⟨uv, rfl, hrv, hBv⟩
        have HB := Hid3.mk (HW.out _ (HLt.out.post hBv).below)
        obtain ⟨av1, kv1, rfl⟩ := hrv.sl
        clear cv hrv hBv HLt
        go_wp2
        go_ret
        exact ⟨rfl, HB.out⟩
      | false =>
        obtain ⟨avt, vst, hbt⟩ := HL5.out.out
        have ct := due_any w0.heap.size b m avt vst q5 52 (n + h) W5 hbt HO5.out (by omega)
        have Ht := Hid3.mk hbt
        have HAt := Hid3.mk (late_one hk6 (T := n + h) HA5.out)
        have HOt := Hid3.mk (due_ok (t := n + h) HO5.out)
        clear hbt
        generalize dueQ (n + h) q5 = qt at *
        go_wp2_with fail
        refine ct.mono ?_
        rintro r Wt ⟨ut, rfl, hrt, hs⟩
        obtain ⟨at1, kt1, rfl⟩ := hrt.sl
        have HLt := Hid3.mk (Liv.step Ht.out HL5.out.below hs)
        clear ct hs Ht HL5 hrt
        obtain ⟨avu, vsu, hbu⟩ := HLt.out.out
        have cu := asked_any w0.heap.size b m avu vsu qt k g Wt hbu
        rw [HAt.out.none g] at cu
        have cv := lost_any w0.heap.size b m avu vsu qt (52 + 1) k (by omega) Wt hbu HOt.out (by omega)
        rw [HAt.out.v] at cv
        clear hbu
        go_wp2_with fail
        refine cu.mono ?_
        rintro r Wu ⟨rfl, hWu⟩
        rw [hWu]
        clear cu hWu
        go_wp2_with fail
        refine cv.mono ?_
        rintro r Wv ⟨uv, rfl, hrv, hBv⟩
        have HB := Hid3.mk (HW.out _ (HLt.out.post hBv).below)
        rcases hrv.form with ⟨_, i, _⟩ | ⟨gv, ov, cv1, rfl, _, _, hgv, hcv⟩
        · cases i
        have z0 : Wv.cell? ⟨gv, ov, none⟩ = some (.int .u8 (g : Int)) := hcv 0 _ rfl
        clear cv hrv hBv HLt hcv
        go_wp2
        go_ret
        exact ⟨rfl, HB.out⟩
end Go.Proofs.Ytpmndhbcohjboaa
