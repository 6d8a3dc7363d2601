/- The document's Ask, Out. -/
import Derived.Test.YtpmndhbcohjboaaRvS
namespace Go.Proofs.Ytpmndhbcohjboaa
open Go.RowKit Go.Maps
set_option linter.unusedVariables false
set_option maxRecDepth 100000
set_option maxHeartbeats 4000000 in
theorem rask_bad (b : Nat) (x y n k : Int) (w : World) (hb : askBad x y n k) : Calls Try.prog 43 #[.pointer (some ⟨b, 0, none⟩), .int .u8 x, .int .u8 y, .int .i64 n, .int .i64 k] w fun e w' => e = .returned (.int .i64 2) ∧ w' = w := by
  unfold askBad at hb
  by_cases hc1 : 6 ≤ x
  · clear hb
    go_enter Try.func43, Try.ntmps43
    go_wp2
    go_ret
    exact ⟨rfl, rfl⟩
  by_cases hc2 : 64 ≤ y
  · clear hb
    go_enter Try.func43, Try.ntmps43
    go_wp2
    go_ret
    exact ⟨rfl, rfl⟩
  by_cases hc3 : n < 0
  · clear hb
    go_enter Try.func43, Try.ntmps43
    go_wp2
    go_ret
    exact ⟨rfl, rfl⟩
  by_cases hc4 : 1073741824 < n
  · clear hb
    go_enter Try.func43, Try.ntmps43
    go_wp2
    go_ret
    exact ⟨rfl, rfl⟩
  by_cases hc5 : k < 0
  · clear hb
    go_enter Try.func43, Try.ntmps43
    go_wp2
    go_ret
    exact ⟨rfl, rfl⟩
  have hf : 1000 < k := by omega
  clear hb
  go_enter Try.func43, Try.ntmps43
  go_wp2
  go_ret
  exact ⟨rfl, rfl⟩
set_option maxHeartbeats 4000000 in
theorem rask_good (B b : Nat) (lv : Value) (ls : Fin 6 → Value) (q : Rs) (N : Nat) (x y n k : Int) (w : World) (h : Rk B w b lv ls q) (hO : q.Ok N) (hb : ¬ askBad x y n k) : Calls Try.prog 43 #[.pointer (some ⟨b, 0, none⟩), .int .u8 x, .int .u8 y, .int .i64 n, .int .i64 k] w fun e w' => e = .returned (.int .i64 (askE x y n k q)) ∧ RStp B w w' b lv ls (askQ x y n k q) := by
  have hc1 : ¬ 6 ≤ x := fun e => hb (by unfold askBad; omega)
  have hc2 : ¬ 64 ≤ y := fun e => hb (by unfold askBad; omega)
  have hc3 : ¬ n < 0 := fun e => hb (by unfold askBad; omega)
  have hc4 : ¬ 1073741824 < n := fun e => hb (by unfold askBad; omega)
  have hc5 : ¬ k < 0 := fun e => hb (by unfold askBad; omega)
  have hc6 : ¬ 1000 < k := fun e => hb (by unfold askBad; omega)
  have hfew := hO.few
  have cA := rat_any B b lv ls q x y w h hfew
  unfold askQ
  unfold askE
  simp only [if_neg hb]
  have HS0 := Hid3.mk (RStp.same h (Below.refl _ w))
  have HB := Hid3.mk h
  obtain ⟨a0, cap0, rfl⟩ := h.l.sl
  have c0 := h.c.c0
  have f0 := h.c.f 0
  have hbl := h.c.l
  rcases at_get q.d x y with ⟨h1, h2⟩ | ⟨i, hi, h1, h2, _, _⟩
  · rw [h1] at cA
    simp only [h2, Option.isSome_none, Bool.false_eq_true, if_false]
    by_cases h8 : q.d.length = 8
    · simp only [if_pos h8]
      rw [if_neg (by decide)]
      have h8z : (8 : Int) ≤ (q.d.length : Int) := by omega
      clear h hO hb h1 h2 HB h8 hfew
      go_enter Try.func43, Try.ntmps43
      go_wp2_with fail
      refine cA.mono ?_
      rintro e W ⟨rfl, rfl⟩
      go_wp2
      go_ret
      exact ⟨rfl, HS0.out⟩
    · simp only [if_neg h8, if_true]
      have h8z : ¬ (8 : Int) ≤ (q.d.length : Int) := by omega
      have hk1 : n + k ≤ 2000000000 := by omega
      have hk2 : 0 ≤ n + k := by omega
      have hX := below_new w (.cells #[] 39)
      have HR := Hid3.mk (h.l.below hX)
      have H0 := Hid3.mk (row_none w 39 3 w.heap.size (Nat.le_refl _))
      have HX := Hid3.mk hX
      clear h hO hb h1 h2 h8 hX HS0
      go_enter Try.func43, Try.ntmps43
      go_wp2_with fail
      refine cA.mono ?_
      rintro e W ⟨rfl, rfl⟩
      clear cA
      go_wp2_with (at_builtin; first
        | (refine wpList_appR rfl _ _ 35 39 3 appA rfl W.heap.size _ 0 [] rfl H0.out B _ q.d.length (aCs q.d) rfl HR.out (aCs_one _) (by omega) HX.out.size ?_; intro v1 W1 hown1 hgrow1 hat1; have H1 := Hid3.mk (And.intro hown1 (below_grown (B := B) HX.out H0.out hgrow1)); clear hown1 hgrow1 hat1 H0 HR)
        | (refine wpList_appR rfl _ _ 35 39 3 appA rfl W.heap.size _ (0 + q.d.length) ([] ++ aCs q.d) rfl (H1.out.1.below (below_new W1 (.cells #[.int .u8 x, .int .u8 y, .int .i64 (n + k)] 39))) W.heap.size _ 1 [.int .u8 x, .int .u8 y, .int .i64 (n + k)] rfl (row_lit W1 39 3 W.heap.size 1 [.int .u8 x, .int .u8 y, .int .i64 (n + k)] H1.out.2.size rfl (by omega)) (by simp [Value.oneCell']) (by omega) (Nat.le_trans H1.out.2.size (below_new W1 (.cells #[.int .u8 x, .int .u8 y, .int .i64 (n + k)] 39)).size) ?_; intro v2 W2 hown2 hgrow2 hat2; have hb2 := below_grown (B := B) (H1.out.2.trans ((below_new W1 (.cells #[.int .u8 x, .int .u8 y, .int .i64 (n + k)] 39)).mono H1.out.2.size)) (H1.out.1.below (below_new W1 (.cells #[.int .u8 x, .int .u8 y, .int .i64 (n + k)] 39))) hgrow2; obtain ⟨a2, k2, rfl⟩ := hown2.sl; have H2 := Hid3.mk (And.intro hown2 hb2); have e0 := (HB.out.below hb2).c.c0; have e1 := (HB.out.below hb2).c.f 0; have e2 := (HB.out.below hb2).c.l; clear hown2 hgrow2 hat2 hb2 H1))
      go_ret
      refine ⟨rfl, ?_⟩
      have hrow := H2.out.1
      have hrow2 : RowO W2 W.heap.size 39 3 (.slice a2 (0 + q.d.length + 1) k2) (q.d ++ [(x, y, n + k)]).length (aCs (q.d ++ [(x, y, n + k)])) := by
        rw [aCs_append, List.length_append]
        rw [Nat.zero_add, List.nil_append] at hrow
        rw [Nat.zero_add]
        exact hrow
      have := RStp.list (q.d ++ [(x, y, n + k)]) HB.out H2.out.2 hrow2
      rw [Nat.zero_add] at this
      exact this
  · rw [h1] at cA
    have hiz : (0 : Int) ≤ (i : Int) := by omega
    simp only [h2, Option.isSome_some, if_true]
    rw [if_neg (by decide)]
    clear h hO hb h1 h2 HB
    go_enter Try.func43, Try.ntmps43
    go_wp2_with fail
    refine cA.mono ?_
    rintro e W ⟨rfl, rfl⟩
    go_wp2
    go_ret
    exact ⟨rfl, HS0.out⟩
theorem rask_any (B b : Nat) (lv : Value) (ls : Fin 6 → Value) (q : Rs) (N : Nat) (x y n k : Int) (w : World) (h : Rk B w b lv ls q) (hO : q.Ok N) : Calls Try.prog 43 #[.pointer (some ⟨b, 0, none⟩), .int .u8 x, .int .u8 y, .int .i64 n, .int .i64 k] w fun e w' => e = .returned (.int .i64 (askE x y n k q)) ∧ RStp B w w' b lv ls (askQ x y n k q) := by
  by_cases hb : askBad x y n k
  · refine (rask_bad b x y n k w hb).mono ?_
    rintro e W ⟨rfl, rfl⟩
    have h2 : askE x y n k q = 2 := if_pos hb
    unfold askQ
    rw [h2, if_neg (by decide)]
    exact ⟨rfl, RStp.same h (Below.refl _ _)⟩
  · exact rask_good B b lv ls q N x y n k w h hO hb
set_option maxHeartbeats 4000000 in
theorem rout_any (B b : Nat) (lv : Value) (ls : Fin 6 → Value) (q : Rs) (N : Nat) (x : Int) (hx : 0 ≤ x) (w : World) (h : Rk B w b lv ls q) (hO : q.Ok N) : Calls Try.prog 47 #[.pointer (some ⟨b, 0, none⟩), .int .u8 x] w fun e w' => e = .returned (.int .i64 (outN x q)) ∧ RStp B w w' b lv ls (outQ x q) := by
  have hfew := hO.few
  have HB := Hid3.mk h
  have HO := Hid3.mk hO
  unfold outN
  obtain ⟨a0, cap0, rfl⟩ := h.l.sl
  have HR := Hid3.mk h.l
  have hbl := h.c.l
  clear h hO
  go_enter Try.func47, Try.ntmps47
  go_wp2
  go_loopw [5, 6, 7] (fun s5 s6 s7 wr => ∃ kk : Nat, kk ≤ q.d.length ∧ s7 = .int .i64 kk ∧ s6 = .int .i64 (((q.d.take kk).filter (ofP x)).length : Nat) ∧ Hid3 (RowO wr w.heap.size 39 3 s5 ((q.d.take kk).filter (fun d => !ofP x d)).length (aCs ((q.d.take kk).filter (fun d => !ofP x d))) ∧ Below w.heap.size w wr)) (fun _ _ s7 _ => q.d.length - (intOf s7).toNat)
  case atStart => exact ⟨0, Nat.zero_le _, rfl, rfl, ⟨RowO.nil _ _ _ _, Below.refl _ _⟩⟩
  case round =>
    obtain ⟨kk, hkk, rfl, rfl, HI⟩ := hrel
    have hbW := HI.out.2
    have c0 := (HB.out.below hbW).c.c0
    have hblW := (HB.out.below hbW).c.l
    obtain ⟨a5, c5, rfl⟩ := HI.out.1.sl
    by_cases hlt : kk < q.d.length
    · have hltz : (kk : Int) < (q.d.length : Int) := by omega
      obtain ⟨g, off, rfl, hg, k0, k1, k2⟩ := Row3.at (HR.out.below hbW) kk hlt
      have hcnt : ((q.d.take kk).filter (ofP x)).length ≤ 8 := Nat.le_trans (List.length_filter_le _ _) (by rw [List.length_take]; omega)
      have hcnt2 : ((q.d.take kk).filter (fun d => !ofP x d)).length ≤ 8 := Nat.le_trans (List.length_filter_le _ _) (by rw [List.length_take]; omega)
      by_cases he : q.d[kk].1 = x
      · have hp : ofP x q.d[kk] = true := decide_eq_true he
        have HL : Hid3 (((q.d.take (kk + 1)).filter (ofP x)).length = ((q.d.take kk).filter (ofP x)).length + 1 ∧ (q.d.take (kk + 1)).filter (fun d => !ofP x d) = (q.d.take kk).filter (fun d => !ofP x d)) := ⟨by rw [filter_take hlt, if_pos hp, List.length_append]; rfl, by rw [filter_take hlt, if_neg (by simp [hp]), List.append_nil]⟩
        rw [he] at k0
        clear k1 k2 hp he hbW
        generalize ((q.d.take kk).filter (ofP x)).length = cn at *
        go_wp2
        go_roundw
        case rel => exact ⟨kk + 1, by omega, by go_num, by rw [HL.out.1]; go_num, ⟨by rw [HL.out.2]; exact HI.out.1, HI.out.2⟩⟩
        case measure => simp [intOf]; omega
      · have hp : ofP x q.d[kk] = false := decide_eq_false he
        have HL : Hid3 (((q.d.take (kk + 1)).filter (ofP x)).length = ((q.d.take kk).filter (ofP x)).length ∧ (q.d.take (kk + 1)).filter (fun d => !ofP x d) = (q.d.take kk).filter (fun d => !ofP x d) ++ [q.d[kk]]) := ⟨by rw [filter_take hlt, if_neg (by simp [hp]), List.append_nil], by rw [filter_take hlt, if_pos (by simp [hp])]⟩
        have hX := below_new wr (.cells #[.int .u8 q.d[kk].1, .int .u8 q.d[kk].2.1, .int .i64 q.d[kk].2.2] 39)
        have HQ1 := Hid3.mk (HI.out.1.below hX)
        have HQ2 := Hid3.mk (HI.out.2.trans (hX.mono HI.out.2.size))
        have HM := Hid3.mk (row_lit wr 39 3 w.heap.size 1 [.int .u8 q.d[kk].1, .int .u8 q.d[kk].2.1, .int .i64 q.d[kk].2.2] HI.out.2.size rfl (by omega))
        have HA : Hid3 (aCs [q.d[kk]] = [.int .u8 q.d[kk].1, .int .u8 q.d[kk].2.1, .int .i64 q.d[kk].2.2]) := ⟨rfl⟩
        clear hX hp hbW HI
        generalize q.d[kk] = dd at *
        generalize dd.1 = e0 at *
        generalize dd.2.1 = e1 at *
        generalize dd.2.2 = e2 at *
        generalize ((q.d.take kk).filter (ofP x)).length = cn at *
        go_wp2_with (at_builtin; refine wpList_appR rfl _ _ 35 39 3 appA rfl w.heap.size _ _ _ rfl HQ1.out w.heap.size _ 1 [.int .u8 e0, .int .u8 e1, .int .i64 e2] rfl HM.out (by simp [Value.oneCell']) (by omega) HQ2.out.size ?_; intro v' W4 hown4 hgrow hat; have H4 := Hid3.mk (And.intro hown4 (below_grown (B := B) HQ2.out HQ1.out hgrow)); clear hown4 hgrow hat)
        go_roundw
        case rel => exact ⟨kk + 1, by omega, by go_num, by rw [HL.out.1], ⟨by rw [HL.out.2, aCs_append, List.length_append, HA.out]; exact H4.out.1, H4.out.2⟩⟩
        case measure => simp [intOf]; omega
    · have hltz : ¬ (kk : Int) < (q.d.length : Int) := by omega
      obtain rfl : kk = q.d.length := by omega
      rw [List.take_length] at *
      have hS1 := RStp.list _ HB.out HI.out.2 HI.out.1
      have f0 := (HB.out.below hbW).c.f 0
      by_cases h6 : 6 ≤ x
      · have h6z : ¬ x < 6 := by omega
        have HF : Hid3 (RStp B w (wr.setCell ⟨b, 0, none⟩ (.slice a5 (q.d.filter (fun d => !ofP x d)).length c5)) b (.slice a0 q.d.length cap0) ls (outQ x q)) := ⟨by
          have hv : (outQ x q) = ⟨q.d.filter (fun d => !ofP x d), q.v⟩ := by
            have h1 := (out_bad HO.out h6).2
            unfold outQ at h1 ⊢
            congr 1
            exact congrArg Rs.v h1
          rw [hv]
          exact hS1⟩
        clear hS1 HI hbW HB
        generalize (q.d.filter (fun d => !ofP x d)).length = n5 at *
        go_wp2
        go_ret
        exact ⟨rfl, HF.out⟩
      · obtain ⟨k, rfl⟩ : ∃ k : Nat, x = k := ⟨x.toNat, by omega⟩
        have hk6 : k < 6 := by omega
        have hk7 : (k : Int) < 6 := by omega
        obtain ⟨lv1, ls1, g1, g2, g3⟩ := hS1.out
        have hs2 := RStp.trans g2 g3 (RStp.vec (v := .slice none 0 0) ⟨k, hk6⟩ [] g1 (Below.refl _ _) (RowO.nil _ _ _ _))
        have HF : Hid3 (RStp B w ((wr.setCell ⟨b, 0, none⟩ (.slice a5 (q.d.filter (fun d => !ofP k d)).length c5)).setCell ⟨b, 1 + k, none⟩ (.slice none 0 0)) b (.slice a0 q.d.length cap0) ls (outQ k q)) := ⟨by
          have hv : (outQ k q) = ⟨q.d.filter (fun d => !ofP k d), upd q.v ⟨k, hk6⟩ []⟩ := by
            unfold outQ
            congr 1
            funext e
            unfold upd
            by_cases he : e = ⟨k, hk6⟩
            · rw [if_pos he, if_pos (by rw [he])]
            · rw [if_neg he, if_neg (fun i => he (Fin.ext (by have : (e.1 : Int) = (k : Int) := i; exact Int.ofNat.inj this)))]
          rw [hv]
          exact hs2⟩
        have cv := (HB.out.below hbW).c.cv ⟨k, hk6⟩
        have fv := (HB.out.below hbW).c.f (1 + k)
        obtain ⟨ak, ck, hck⟩ := (HB.out.v ⟨k, hk6⟩).sl
        rw [hck] at cv
        simp only at cv
        clear hS1 HI hbW HB g1 g2 g3 hs2 hck HO
        generalize (q.d.filter (fun d => !ofP k d)).length = n5 at *
        go_wp2
        go_ret
        exact ⟨rfl, HF.out⟩
end Go.Proofs.Ytpmndhbcohjboaa
