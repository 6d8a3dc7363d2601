/- The link that is come to by going on. The link ahead of an extent's; how many extents there are; the link of an extent that is an environment's. -/
import Derived.Test.YtdegjmceeggldaaExG
namespace Go.Proofs.Ytdegjmceeggldaa
open Go.RowKit Go.Shelf Go.Maps
set_option linter.unusedVariables false
set_option maxRecDepth 100000
/-- The link that is come to, and those behind it. -/
def pst (p : Ex → Bool) : Ln → List Ln → Ln × List Ln
  | a, [] => (a, [])
  | a, b :: r => if p b.2 then pst p b r else (a, b :: r)
theorem pst_go (p : Ex → Bool) (a b : Ln) (r : List Ln) (h : p b.2 = true) : pst p a (b :: r) = pst p b r := by simp [pst, h]
theorem pst_no (p : Ex → Bool) (a b : Ln) (r : List Ln) (h : p b.2 = false) : pst p a (b :: r) = (a, b :: r) := by simp [pst, h]
def notId (id : Nat) (x : Ex) : Bool := decide (x.id ≠ id)
def before (start : Int) (x : Ex) : Bool := decide ((x.st : Int) < start)
theorem toldA_any (v : Nat) (bi : Nat) (x : Ex) (w : World) (hc : w.cell? ⟨bi, 0, none⟩ = some (.int .u32 v)) :
    Calls Try.prog 31 #[exV x, .pointer (some ⟨bi, 0, none⟩)] w fun e w' => e = .returned (.bool (notId v x)) ∧ w' = w.alloc (.cells (exCs x).toArray 37) := by
  have hl := World.block_lt_of_cell? w _ hc
  unfold exV exCs notId
  by_cases h : x.id = v
  · have h' : (x.id : Int) = (v : Int) := by omega
    go_enter Try.func31, Try.ntmps31
    go_wp2
    go_ret
    simp
  · have h' : ¬ (x.id : Int) = (v : Int) := by omega
    go_enter Try.func31, Try.ntmps31
    go_wp2
    go_ret
    simp
    exact h'
set_option maxHeartbeats 1000000 in
theorem pastA_any (v : Nat) (bi n₀ hb : Nat) (ns : List Ln) (w : World) (hc : w.cell? ⟨bi, 0, none⟩ = some (.int .u32 v)) (h : Lst n₀ w hb ns) (hn0 : n₀ ≤ w.heap.size) :
    Calls Try.prog 13 #[.pointer (some ⟨hb, 0, none⟩), .func (.func 31) #[] #[.pointer (some ⟨bi, 0, none⟩)]] w fun e w' =>
      e = .returned (.pointer (some ⟨(pst (notId v) (hb, zEx) ns).1.1, 0, none⟩)) ∧ Below w.heap.size w w' := by
  have hbl := World.block_lt_of_cell? w _ hc
  have cT := fun x w h => toldA_any v bi x w h
  unfold exV at cT
  have hU := h.u
  go_enter Try.func13, Try.ntmps13
  go_wp2
  go_loopw [0] (fun st wr => ∃ (pre : List Ln) (a : Ln) (r : List Ln), st = .pointer (some ⟨a.1, 0, none⟩) ∧ Hid (pre ++ a :: r = (hb, zEx) :: ns) ∧ Hid (pst (notId v) a r = pst (notId v) (hb, zEx) ns) ∧ Hid (Below w.heap.size w wr)) (fun s0 _ => lenB ((hb, zEx) :: ns) s0)
  case atStart => exact ⟨[], (hb, zEx), ns, rfl, rfl, rfl, Below.refl _ _⟩
  case round =>
    obtain ⟨pre, a, r, rfl, HE, HP, HB⟩ := hrel
    obtain ⟨b, y⟩ := a
    have hK : Lks wr ((b, y) :: r) := by
      have := (h.k.below HB.out)
      rw [← HE.out] at this
      exact this.drop
    have c6 := hK.c.c6
    cases r with
    | nil =>
      rw [show nxP ([] : List Ln) = .pointer none from rfl] at c6
      clear hK
      go_wp2
      go_ret
      refine ⟨?_, HB.out⟩
      rw [← HP.out]
      rfl
    | cons q r =>
      obtain ⟨d, x⟩ := q
      rw [show nxP ((d, x) :: r) = .pointer (some ⟨d, 0, none⟩) from rfl] at c6
      have hc2 := hK.2.c
      have g0 := hc2.c0
      have g1 := hc2.c1
      have g2 := hc2.c2
      have g3 := hc2.c3
      have g4 := hc2.c4
      have g5 := hc2.c5
      have hb' : wr.cell? ⟨bi, 0, none⟩ = some (.int .u32 v) := (HB.out.cell hbl).trans hc
      have hlb : b < wr.heap.size := hK.1.lt
      have cC := cT x wr hb'
      have hBn : Hid (Below w.heap.size w (wr.alloc (.cells (exCs x).toArray 37))) := HB.out.trans (((Below.refl _ wr).alloc HB.out.size _))
      have c6' : (wr.alloc (.cells (exCs x).toArray 37)).cell? ⟨b, 6, none⟩ = some (.pointer (some ⟨d, 0, none⟩)) := ((below_new wr _).cell hlb).trans c6
      have hM : Hid (lenB ((hb, zEx) :: ns) (.pointer (some ⟨d, 0, none⟩)) < lenB ((hb, zEx) :: ns) (.pointer (some ⟨b, 0, none⟩))) := by
        have := lenB_lt pre (b, y) ((d, x) :: r) (by rw [HE.out]; exact hU)
        rw [HE.out] at this
        exact this
      clear hc2 hK
      cases hp : notId v x with
      | true =>
        rw [hp] at cC
        have hP2 : Hid (pst (notId v) (d, x) r = pst (notId v) (hb, zEx) ns) := (pst_go _ (b, y) (d, x) r hp).symm.trans HP.out
        go_wp2_with fail
        refine cC.mono ?_
        rintro e W2 ⟨rfl, rfl⟩
        clear g0 g1 g2 g3 g4 g5 c6
        go_wp2
        go_roundw
        case rel => exact ⟨pre ++ [(b, y)], (d, x), r, rfl, by have := HE.out; show _ = _; simpa using this, hP2.out, hBn.out⟩
        case measure => exact hM.out
      | false =>
        rw [hp] at cC
        have hP2 : Hid (((b, y), (d, x) :: r) = pst (notId v) (hb, zEx) ns) := (pst_no _ (b, y) (d, x) r hp).symm.trans HP.out
        go_wp2_with fail
        refine cC.mono ?_
        rintro e W2 ⟨rfl, rfl⟩
        clear g0 g1 g2 g3 g4 g5 c6
        go_wp2
        go_ret
        refine ⟨?_, hBn.out⟩
        rw [← hP2.out]
        rfl
theorem toldS_any (v : Int) (bi : Nat) (x : Ex) (w : World) (hc : w.cell? ⟨bi, 0, none⟩ = some (.int .i64 v)) :
    Calls Try.prog 14 #[exV x, .pointer (some ⟨bi, 0, none⟩)] w fun e w' => e = .returned (.bool (before v x)) ∧ w' = w.alloc (.cells (exCs x).toArray 37) := by
  have hl := World.block_lt_of_cell? w _ hc
  unfold exV exCs before
  by_cases h : (x.st : Int) < v
  · have h' : ¬ v ≤ (x.st : Int) := by omega
    go_enter Try.func14, Try.ntmps14
    go_wp2
    go_ret
    simp
  · have h' : v ≤ (x.st : Int) := by omega
    go_enter Try.func14, Try.ntmps14
    go_wp2
    go_ret
    simp
    exact h'
set_option maxHeartbeats 1000000 in
theorem pastS_any (v : Int) (bi n₀ hb : Nat) (ns : List Ln) (w : World) (hc : w.cell? ⟨bi, 0, none⟩ = some (.int .i64 v)) (h : Lst n₀ w hb ns) (hn0 : n₀ ≤ w.heap.size) :
    Calls Try.prog 13 #[.pointer (some ⟨hb, 0, none⟩), .func (.func 14) #[] #[.pointer (some ⟨bi, 0, none⟩)]] w fun e w' =>
      e = .returned (.pointer (some ⟨(pst (before v) (hb, zEx) ns).1.1, 0, none⟩)) ∧ Below w.heap.size w w' := by
  have hbl := World.block_lt_of_cell? w _ hc
  have cT := fun x w h => toldS_any v bi x w h
  unfold exV at cT
  have hU := h.u
  go_enter Try.func13, Try.ntmps13
  go_wp2
  go_loopw [0] (fun st wr => ∃ (pre : List Ln) (a : Ln) (r : List Ln), st = .pointer (some ⟨a.1, 0, none⟩) ∧ Hid (pre ++ a :: r = (hb, zEx) :: ns) ∧ Hid (pst (before v) a r = pst (before v) (hb, zEx) ns) ∧ Hid (Below w.heap.size w wr)) (fun s0 _ => lenB ((hb, zEx) :: ns) s0)
  case atStart => exact ⟨[], (hb, zEx), ns, rfl, rfl, rfl, Below.refl _ _⟩
  case round =>
    obtain ⟨pre, a, r, rfl, HE, HP, HB⟩ := hrel
    obtain ⟨b, y⟩ := a
    have hK : Lks wr ((b, y) :: r) := by
      have := (h.k.below HB.out)
      rw [← HE.out] at this
      exact this.drop
    have c6 := hK.c.c6
    cases r with
    | nil =>
      rw [show nxP ([] : List Ln) = .pointer none from rfl] at c6
      clear hK
      go_wp2
      go_ret
      refine ⟨?_, HB.out⟩
      rw [← HP.out]
      rfl
    | cons q r =>
      obtain ⟨d, x⟩ := q
      rw [show nxP ((d, x) :: r) = .pointer (some ⟨d, 0, none⟩) from rfl] at c6
      have hc2 := hK.2.c
      have g0 := hc2.c0
      have g1 := hc2.c1
      have g2 := hc2.c2
      have g3 := hc2.c3
      have g4 := hc2.c4
      have g5 := hc2.c5
      have hb' : wr.cell? ⟨bi, 0, none⟩ = some (.int .i64 v) := (HB.out.cell hbl).trans hc
      have hlb : b < wr.heap.size := hK.1.lt
      have cC := cT x wr hb'
      have hBn : Hid (Below w.heap.size w (wr.alloc (.cells (exCs x).toArray 37))) := HB.out.trans (((Below.refl _ wr).alloc HB.out.size _))
      have c6' : (wr.alloc (.cells (exCs x).toArray 37)).cell? ⟨b, 6, none⟩ = some (.pointer (some ⟨d, 0, none⟩)) := ((below_new wr _).cell hlb).trans c6
      have hM : Hid (lenB ((hb, zEx) :: ns) (.pointer (some ⟨d, 0, none⟩)) < lenB ((hb, zEx) :: ns) (.pointer (some ⟨b, 0, none⟩))) := by
        have := lenB_lt pre (b, y) ((d, x) :: r) (by rw [HE.out]; exact hU)
        rw [HE.out] at this
        exact this
      clear hc2 hK
      cases hp : before v x with
      | true =>
        rw [hp] at cC
        have hP2 : Hid (pst (before v) (d, x) r = pst (before v) (hb, zEx) ns) := (pst_go _ (b, y) (d, x) r hp).symm.trans HP.out
        go_wp2_with fail
        refine cC.mono ?_
        rintro e W2 ⟨rfl, rfl⟩
        clear g0 g1 g2 g3 g4 g5 c6
        go_wp2
        go_roundw
        case rel => exact ⟨pre ++ [(b, y)], (d, x), r, rfl, by have := HE.out; show _ = _; simpa using this, hP2.out, hBn.out⟩
        case measure => exact hM.out
      | false =>
        rw [hp] at cC
        have hP2 : Hid (((b, y), (d, x) :: r) = pst (before v) (hb, zEx) ns) := (pst_no _ (b, y) (d, x) r hp).symm.trans HP.out
        go_wp2_with fail
        refine cC.mono ?_
        rintro e W2 ⟨rfl, rfl⟩
        clear g0 g1 g2 g3 g4 g5 c6
        go_wp2
        go_ret
        refine ⟨?_, hBn.out⟩
        rw [← hP2.out]
        rfl
end Go.Proofs.Ytdegjmceeggldaa
namespace Go.Proofs.Ytdegjmceeggldaa
open Go.RowKit Go.Shelf Go.Maps
set_option linter.unusedVariables false
set_option maxRecDepth 100000
attribute [local go_sem] Oper.semAt_some
theorem all_seq (n : Nat) (hn : 1 ≤ n) (n₀ bl hb : Nat) (ns : List Ln) (X : Nat → Prop) (w : World) (hXn : ∀ k, X k → n₀ ≤ k) (hnW : n₀ ≤ w.heap.size)
    (hv : w.cell? ⟨bl, 0, none⟩ = some (.pointer (some ⟨hb, 0, none⟩))) (h : Lst n₀ w hb ns) :
    SeqU Fence.wide n Try.prog 32 #[.pointer (some ⟨bl, 0, none⟩)] exA X (fun ys => ys = ns.map Prod.snd) (fun pre => pre <+: ns.map Prod.snd) ns.length w := fun l J Jx W hW hX hJ hJx hY h0 => by
  refine (all1_in n hn l bl n₀ hb ns (fun pre V => J pre V ∧ n₀ ≤ V.heap.size) Jx W (fun pre x W1 hj hl => (hY pre x W1 hj.1 hl).mono ?_) ((hW.cell (World.block_lt_of_cell? w _ hv)).trans hv) (h.below hW) ⟨h0, Nat.le_trans hnW hW.size⟩).mono ?_
  · rintro e W' ⟨ap, hq⟩
    rcases hq with ⟨rfl, hJ1⟩ | ⟨rfl, hJ1⟩
    · exact .inl ⟨rfl, ⟨hJ1, Nat.le_trans hj.2 ap.size⟩, ap.os, ap.tape, ap.output, ap.size, fun k hk => ap.block k (Nat.lt_of_lt_of_le hk hj.2) (fun hx => by have := hXn k hx; omega)⟩
    · exact .inr ⟨rfl, hJ1⟩
  · rintro e W' ⟨hv', hq⟩
    rcases hq with ⟨xs, hS, hj⟩ | ⟨pre, hS, hj⟩
    · exact ⟨hv', .inl ⟨xs, hS, hj.1⟩⟩
    · exact ⟨hv', .inr ⟨pre, hS, hj⟩⟩
theorem ahead_any (n₀ tb hb N last : Nat) (ns : List Ln) (id : Nat) (w : World) (h : Tp n₀ w tb hb N last ns) (hn0 : n₀ ≤ w.heap.size) :
    Calls Try.prog 24 #[.pointer (some ⟨tb, 0, none⟩), .int .u32 id] w fun e w' =>
      e = .returned (.pointer (some ⟨(pst (notId id) (hb, zEx) ns).1.1, 0, none⟩)) ∧ Below w.heap.size w w' := by
  have hB := below_new w (.cells #[.int .u32 id] 24)
  have c1 := (h.below hB).t.cell 1
  have cP := pastA_any id w.heap.size n₀ hb ns (w.alloc (.cells #[.int .u32 id] 24)) (Boxed.new w 24 (.int .u32 id)).cell (h.below hB).l (by simp; omega)
  simp only [List.getElem?_cons_zero, List.getElem?_cons_succ] at c1
  clear h
  go_enter Try.func24, Try.ntmps24
  go_wp2_with fail
  refine cP.mono ?_
  rintro e W1 ⟨rfl, hB1⟩
  go_wp2
  go_ret
  exact ⟨rfl, hB.trans (hB1.mono (by simp))⟩
set_option maxHeartbeats 1000000 in
theorem size_in (n : Nat) (hn : 8 ≤ n) (n₀ tb hb N last : Nat) (ns : List Ln) (hns : ns.length ≤ 100) (w : World) (h : Tp n₀ w tb hb N last ns) (hn0 : n₀ ≤ w.heap.size) :
    CallsIn Fence.wide n Try.prog 22 #[.pointer (some ⟨tb, 0, none⟩)] w fun e w' => e = .returned (.int .i64 ns.length) ∧ Below w.heap.size w w' := by
  have hro : Fence.wide.round = none := rfl
  have cG := fun w h => (callsIn_wide (n := n - 1)).2 (tall_any n₀ tb hb N last ns w h)
  refine callsIn_of_wp_marks Try.func22 rfl trivial ?_ rfl
  simp only [Try.ntmps22, List.size_toArray, List.length_cons, List.length_nil, Nat.reduceAdd, Nat.reduceSub, Array.replicate_succ, Array.replicate_zero, List.push_toArray, List.append_toArray, List.nil_append, List.cons_append]
  gi_wp2_with (refine ⟨trivial, fun _ => by omega, ?_⟩; refine (cG _ (h.below (below_new w _))).mono ?_; rintro e w' ⟨rfl, rfl⟩)
  have b1 := (Boxed.new w 3 (.int .i64 0)).alloc (.cells #[.pointer (some ⟨hb, 0, none⟩)] 39)
  have b2 := Boxed.new (w.alloc (.cells #[.int .i64 0] 3)) 39 (.pointer (some ⟨hb, 0, none⟩))
  have hB : Below w.heap.size w ((w.alloc (.cells #[.int .i64 0] 3)).alloc (.cells #[.pointer (some ⟨hb, 0, none⟩)] 39)) := ((Below.refl _ w).alloc (Nat.le_refl _) _).alloc (by simp) _
  have hz : ((w.alloc (.cells #[.int .i64 0] 3)).alloc (.cells #[.pointer (some ⟨hb, 0, none⟩)] 39)).heap.size = w.heap.size + 2 := by simp
  simp only [World.size_alloc] at b2
  generalize ((w.alloc (.cells #[.int .i64 0] 3)).alloc (.cells #[.pointer (some ⟨hb, 0, none⟩)] 39)) = W at *
  have hT : Tp n₀ W tb hb N last ns := h.below hB
  refine wpIn_rangeFunc_U (n := n) (w := W) (ps := #[6]) (encs := exA) hro (by omega) (gf := 32) (lb := #[.pointer (some ⟨w.heap.size + 1, 0, none⟩)]) rfl trivial (enters_of Try.func32 (by kernel_rfl) rfl)
    (Y := fun k => k = w.heap.size)
    (all_seq (n - 1) (by omega) n₀ (w.heap.size + 1) hb ns (fun k => k = w.heap.size ∨ k = W.heap.size + 1) W (by rintro k (rfl | rfl) <;> omega) (by omega) b2.cell hT.l)
    (fun k hk e => by omega) (Below.refl _ _) (fun _ => rfl)
    (fun pre V => (Boxed V w.heap.size 3 (.int .i64 pre.length) ∧ Below w.heap.size w V))
    (fun _ _ _ => False)
    (fun s A C hs hb => ⟨(hb.block _ (by omega)).trans hs.1, hs.2.trans (hb.mono (by omega))⟩) (fun _ _ _ _ hf _ => hf) ⟨b1, hB⟩
    (fun x => { tmps := #[.pointer (some ⟨tb, 0, none⟩), undef, .int .i64 0, .pointer (some ⟨w.heap.size, 0, none⟩), .pointer (some ⟨tb, 0, none⟩), .func (.func 32) #[] #[.pointer (some ⟨w.heap.size + 1, 0, none⟩)], exV x, undef, undef, undef], defers := [] }) ?assign ?body ?done ?stop
  case assign =>
    intro l x V K hK
    simp only [exA]
    gi_wp2
    simpa using hK
  case body =>
    rintro l pre x V ⟨hb1, hbl⟩ hlen
    have hc := hb1.cell
    have hf := hb1.frozen
    have hw : IntKind.i64.wrap ((pre.length : Int) + 1) = (pre.length : Int) + 1 := by rw [IntKind.wrap_i64]; omega
    gi_wp2
    refine ⟨Apart.at V _ _ _ rfl, ?_, hbl.trans (below_setC _ _ _ _ (Nat.le_refl _))⟩
    rw [show (((pre ++ [x]).length : Nat) : Int) = (pre.length : Int) + 1 by simp]
    exact hb1.set _
  case done =>
    rintro D ys V hD rfl ⟨hb1, hbl⟩ hK
    have hc := hb1.cell
    simp only [List.length_map] at hc
    gi_wp2
    refine ⟨by simp, .inl ⟨_, _, rfl, run_takeDeferred hK, ?_⟩⟩
    exact ⟨.int .i64 ns.length, by simp [results, Try.f22, go_sem], rfl, hbl.trans (below_put _ (by omega))⟩
  case stop =>
    rintro D c pre V hD hpre hf hK
    exact hf.elim
theorem size_any (n₀ tb hb N last : Nat) (ns : List Ln) (hns : ns.length ≤ 100) (w : World) (h : Tp n₀ w tb hb N last ns) (hn0 : n₀ ≤ w.heap.size) :
    Calls Try.prog 22 #[.pointer (some ⟨tb, 0, none⟩)] w fun e w' => e = .returned (.int .i64 ns.length) ∧ Below w.heap.size w w' :=
  (callsIn_wide (n := 8)).1 (size_in 8 (by decide) n₀ tb hb N last ns hns w h hn0)
end Go.Proofs.Ytdegjmceeggldaa
