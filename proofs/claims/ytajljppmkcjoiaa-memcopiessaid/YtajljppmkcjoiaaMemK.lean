/- A memory: the frames that are as one. -/
import Derived.Test.YtajljppmkcjoiaaMemJ
import Derived.OwnWalk
import Derived.OwnWalkIn
import Derived.Maps.AppendAt
namespace Go.Proofs.Ytajljppmkcjoiaa
open Go.RowKit Go.Maps
set_option linter.unusedVariables false
set_option maxRecDepth 100000
theorem cell_one (w : World) (x : Value) (t : TypeId) : ∀ j v, [x][j]? = some v → (w.alloc (.cells #[x] t)).cell? ((⟨w.heap.size, 0, none⟩ : Addr).add j) = some v := by
  intro j v h
  match j, h with
  | 0, h =>
    injection h with h
    subst h
    simp [Addr.add, go_sem]
theorem infoI : (Try.prog.info? 3).map (fun i => (i.zero, i.size, i.bytes)) = some (some (.int .i64 0), 1, 8) := by kernel_rfl
/-- Numbers that can be read. -/
def Nts (w : World) (v : Value) (xs : List Int) : Prop := ∃ a cap, v = .slice a xs.length cap ∧ xs.length ≤ cap ∧ ∀ j x, xs[j]? = some x → ∃ g off, a = some ⟨g, off, none⟩ ∧ w.cell? ⟨g, off + j, none⟩ = some (.int .i64 x)
theorem Nts.below {w w' : World} {v : Value} {xs : List Int} (h : Nts w v xs) (k : Below w.heap.size w w') : Nts w' v xs := by
  obtain ⟨a, cap, rfl, hc, hcell⟩ := h
  refine ⟨a, cap, rfl, hc, fun j x hj => ?_⟩
  obtain ⟨g, off, rfl, c0⟩ := hcell j x hj
  refine ⟨g, off, rfl, ?_⟩
  rw [World.cell?_of_block (w := w) (k.block g (World.block_lt_of_cell? w _ c0))]
  exact c0
theorem Nts.nil (w : World) : Nts w (.slice none 0 0) [] := ⟨none, 0, rfl, Nat.le_refl _, fun j x h => by cases h⟩
theorem Nts.of_own {w : World} {base : Nat} {v : Value} {n : Nat} {xs : List Int} (h : w.ownsRow base 3 1 v n (xs.map (Value.int .i64))) : Nts w v xs := by
  have hn : n = xs.length := by have := h.1; simpa using this.symm
  subst hn
  rcases h.2 with ⟨rfl, h0⟩ | ⟨g, cap, cur, rfl, _, hb, hk, _, _, htk⟩
  · obtain rfl : xs = [] := List.eq_nil_of_length_eq_zero h0
    exact Nts.nil w
  · refine ⟨_, cap, rfl, hk, fun j x hx => ⟨g, 0, rfl, ?_⟩⟩
    have h1 : (List.take (xs.length * 1) cur.toList)[j]? = some (.int .i64 x) := by rw [htk, List.getElem?_map, hx]; rfl
    have hj : j < xs.length := (List.getElem?_eq_some_iff.1 hx).1
    rw [List.getElem?_take, if_pos (by omega)] at h1
    simp only [Nat.zero_add, World.cell?, hb]
    simpa using h1
theorem quiet_load_mid {C : World → Prop} {K : Act → Prop} {o : Oper} {a : Act} (ty : TypeId) (x : Operand) (ho : o.op = .load ty x) (b off : Nat) (hx : a.eval x = .pointer (some ⟨b, off, none⟩)) (cs : List Value) (d : TypeDesc) (hC : ∀ w, C w → w.rangeAt b off cs)
    (hu : Try.prog.underlying ty = some d) (hd : d.isRow = true) (hi : (Try.prog.info? ty).map (·.size) = some cs.length) (hk : K (a.put o.dst (.agg cs.toArray))) : o.quiet Try.prog a C K :=
  ⟨_, fun w hw => by
    unfold Oper.quietAt execOp
    simp only [ho, hx, Instr.loadAt, Instr.sureAddr, Sem.run_bind, Sem.run_pure, Result.andThen_ok, run_loadVar_mid w b off ty cs d (hC w hw) hu hd hi]
    exact ⟨rfl, rfl⟩, hk⟩
/-- The frames below k, but f, whose bytes are f's. -/
def smL (L : List Int) (f : Nat) : Nat → List Int
  | 0 => []
  | k + 1 => if k ≠ f ∧ frL L k = frL L f then smL L f k ++ [(k : Int)] else smL L f k
theorem smL_len (L : List Int) (f : Nat) : ∀ k, (smL L f k).length ≤ k
  | 0 => Nat.le_refl 0
  | k + 1 => by
    have := smL_len L f k
    unfold smL
    split
    · rw [List.length_append, List.length_singleton]
      omega
    · omega
set_option maxHeartbeats 4000000 in
theorem same_ok (b f N : Nat) (L : List Int) (w : World) (h : Mem w b N L) (h1 : f < N) : Calls Try.prog 22 #[.pointer (some ⟨b, 0, none⟩), .int .i64 f] w fun e w' => (∃ v, e = .returned v ∧ Nts w' v (smL L f N)) ∧ Below w.heap.size w w' := by
  have c1 := there_ok b N L f w h (by omega) (by omega)
  have hhi := h.hi
  have hsz := h.size
  have hf : (f : Int) < 64 := by omega
  obtain ⟨i0, hi0, hz0, hz1, hz2⟩ := info_parts infoI
  have HM : Hid3 (Mem w b N L) := ⟨h⟩
  have eG := eqGuardC
  have hu := Try.underlying70
  clear h
  go_enter Try.func22, Try.ntmps22
  go_wp2_with fail
  refine c1.mono ?_
  rintro e W1 ⟨rfl, rfl⟩
  clear c1
  go_wp2
  clear hsz
  go_loopw [5, 15] (fun v i wr => ∃ k : Nat, k ≤ N ∧ i = .int .i64 k ∧ wr.ownsRow W1.heap.size 3 1 v (smL L f k).length ((smL L f k).map (Value.int .i64)) ∧ Below W1.heap.size W1 wr) (fun _ i _ => N - (intOf i).toNat)
  case atStart => exact ⟨0, by omega, rfl, World.ownsRow_nil _ _ _ _, Below.refl _ _⟩
  case round =>
    obtain ⟨k, hk, rfl, hown, hB⟩ := hrel
    obtain ⟨a0, cap0, rfl⟩ : ∃ a cap, u5 = .slice a (smL L f k).length cap := by
      rcases hown.2 with ⟨hv, h0⟩ | ⟨g, cap, cur, hv, _⟩
      · exact ⟨none, 0, by rw [h0]; exact hv⟩
      · exact ⟨_, _, hv⟩
    have hsb := hB.size
    by_cases hlt : k < N
    · have hlt' : (k : Int) < (N : Int) := by omega
      have hk64 : (k : Int) < 64 := by omega
      have hL := smL_len L f k
      have HO : Hid3 (wr.ownsRow W1.heap.size 3 1 (.slice a0 (smL L f k).length cap0) (smL L f k).length ((smL L f k).map (Value.int .i64))) := ⟨hown⟩
      clear hown
      by_cases hkf : k = f
      · have hne : ((k : Int) != (f : Int)) = false := by subst hkf; simp
        have HL : Hid3 (smL L f (k + 1) = smL L f k) := ⟨by rw [smL, if_neg (by omega)]⟩
        clear hkf
        go_wp2_with fail
        go_quiet (fail)
        go_wp2
        go_roundw
        case rel => exact ⟨k + 1, by omega, by go_num, by rw [HL.out]; exact HO.out, ⟨hB.os, hB.tape, hB.output, hB.size, hB.block⟩⟩
        case measure => simp [intOf]; omega
      · have hne : ((k : Int) != (f : Int)) = true := by simp; omega
        have hMr := HM.out.below hB
        have hr1 := hMr.range (k * 32) 32 (by omega)
        have hr2 := hMr.range (f * 32) 32 (by omega)
        have l1 := frL_len HM.out.len (f := k) (by omega)
        have l2 := frL_len HM.out.len (f := f) (by omega)
        have eM := fun W => eqC W (frL L k) (frL L f) l1 l2
        have hi1 : (Try.prog.info? 70).map (·.size) = some ((frL L k).map (Value.int .u8)).length := by rw [List.length_map, l1]; exact con_size
        have hi2 : (Try.prog.info? 70).map (·.size) = some ((frL L f).map (Value.int .u8)).length := by rw [List.length_map, l2]; exact con_size
        have HR1 : Hid3 (wr.rangeAt b (1 + k * 32) ((frL L k).map (Value.int .u8)) ∧ wr.rangeAt b (1 + f * 32) ((frL L f).map (Value.int .u8))) := ⟨hr1, hr2⟩
        have HQ1 : Hid3 (decide (frL L k = frL L f) = true → smL L f (k + 1) = smL L f k ++ [(k : Int)]) := ⟨fun e => by rw [smL, if_pos ⟨hkf, of_decide_eq_true e⟩]⟩
        have HQ2 : Hid3 (decide (frL L k = frL L f) = false → smL L f (k + 1) = smL L f k) := ⟨fun e => by rw [smL, if_neg (fun h => of_decide_eq_false e h.2)]⟩
        clear hr1 hr2 l1 l2 hMr hkf
        generalize decide (frL L k = frL L f) = q at *
        generalize (frL L k).map (Value.int .u8) = FK at *
        generalize (frL L f).map (Value.int .u8) = FF at *
        generalize smL L f k = M at *
        generalize hn : M.length = n at *
        have HN : Hid3 (M.length = n) := ⟨hn⟩
        clear hn
        cases q with
        | false =>
          have HL := HQ2.out rfl
          have HL2 : Hid3 (smL L f (k + 1) = M) := ⟨HL⟩
          clear HL HQ1 HQ2
          go_wp2_with fail
          have hr := HR1.out
          refine wp_region_quiet_lit (by kernel_rfl) (by kernel_rfl) ?_
          quiet_step (fail)
          quiet_step (fail)
          quiet_step (fail)
          quiet_step (fail)
          quiet_step (fail)
          quiet_step (fail)
          quiet_step (fail)
          quiet_step (fail)
          quiet_step (fail)
          refine BigFrame.wpQuiet_want (by rfl) (fun K hK => quiet_load_mid _ _ rfl b (1 + k * 32) rfl FK _ (fun W hW => by obtain ⟨n, rfl⟩ := hW; exact hr.1) hu rfl hi1 (hK _ ?_))
          simp only [Act.put, List.setIfInBounds_toArray, List.set_cons_zero, List.set_cons_succ]
          quiet_step (fail)
          quiet_step (fail)
          quiet_step (fail)
          quiet_step (fail)
          quiet_step (fail)
          refine BigFrame.wpQuiet_want (by rfl) (fun K hK => quiet_load_mid _ _ rfl b (1 + f * 32) rfl FF _ (fun W hW => by obtain ⟨n, rfl⟩ := hW; exact hr.2) hu rfl hi2 (hK _ ?_))
          simp only [Act.put, List.setIfInBounds_toArray, List.set_cons_zero, List.set_cons_succ]
          quiet_step (fail)
          quiet_step (fail)
          refine wpQuiet_nil ?_
          intro _ hw'
          obtain ⟨nq, hw2⟩ := hw'
          subst hw2
          go_wp2
          go_roundw
          case rel => exact ⟨k + 1, by omega, by go_num, by rw [HL2.out, HN.out]; exact HO.out, ⟨hB.os, hB.tape, hB.output, hB.size, hB.block⟩⟩
          case measure => simp [intOf]; omega
        | true =>
          have HL2 : Hid3 (smL L f (k + 1) = M ++ [(k : Int)]) := ⟨HQ1.out rfl⟩
          clear HQ1 HQ2
          go_wp2_with fail
          have hr := HR1.out
          refine wp_region_quiet_lit (by kernel_rfl) (by kernel_rfl) ?_
          quiet_step (fail)
          quiet_step (fail)
          quiet_step (fail)
          quiet_step (fail)
          quiet_step (fail)
          quiet_step (fail)
          quiet_step (fail)
          quiet_step (fail)
          quiet_step (fail)
          refine BigFrame.wpQuiet_want (by rfl) (fun K hK => quiet_load_mid _ _ rfl b (1 + k * 32) rfl FK _ (fun W hW => by obtain ⟨n, rfl⟩ := hW; exact hr.1) hu rfl hi1 (hK _ ?_))
          simp only [Act.put, List.setIfInBounds_toArray, List.set_cons_zero, List.set_cons_succ]
          quiet_step (fail)
          quiet_step (fail)
          quiet_step (fail)
          quiet_step (fail)
          quiet_step (fail)
          refine BigFrame.wpQuiet_want (by rfl) (fun K hK => quiet_load_mid _ _ rfl b (1 + f * 32) rfl FF _ (fun W hW => by obtain ⟨n, rfl⟩ := hW; exact hr.2) hu rfl hi2 (hK _ ?_))
          simp only [Act.put, List.setIfInBounds_toArray, List.set_cons_zero, List.set_cons_succ]
          quiet_step (fail)
          quiet_step (fail)
          refine wpQuiet_nil ?_
          intro _ hw'
          obtain ⟨nq, hw2⟩ := hw'
          subst hw2
          have hown : (wr.drewN nq).ownsRow W1.heap.size 3 1 (.slice a0 n cap0) n (M.map (Value.int .i64)) := HO.out
          have hBd : Below W1.heap.size W1 (wr.drewN nq) := ⟨hB.os, hB.tape, hB.output, hB.size, hB.block⟩
          have hsd : W1.heap.size ≤ (wr.drewN nq).heap.size := hsb
          generalize wr.drewN nq = wd at *
          go_wp2_with (at_builtin; refine wpList_append_own _ rfl _ _ 52 rfl W1.heap.size 3 i0 (.int .i64 0) 1 8 Try.underlying52 hi0 hz0 hz1 hz2 rfl (by decide) _ _ _ rfl (hown.alloc _) ⟨wd.heap.size, 0, none⟩ 1 1 [.int .i64 (k : Int)] rfl rfl (cell_one wd (.int .i64 (k : Int)) 3) (by simp [Value.oneCell']) (by unfold maxLen; omega) (by omega) (by simp; omega) ?_; intro v' w1 hown' hgrow _)
          have hb3 : Below W1.heap.size W1 w1 := (hBd.alloc hBd.size _).grown hgrow (by simp; omega) (fun j hj => (hown.lt j hj).1)
          go_roundw
          case rel =>
            refine ⟨k + 1, by omega, by go_num, ?_, hb3⟩
            rw [HL2.out, List.length_append, List.map_append, HN.out, List.map_cons, List.map_nil]
            exact hown'
          case measure => simp [intOf]; omega
    · obtain rfl : k = N := by omega
      have HO : Hid3 (wr.ownsRow W1.heap.size 3 1 (.slice a0 (smL L f k).length cap0) (smL L f k).length ((smL L f k).map (Value.int .i64))) := ⟨hown⟩
      clear hown
      go_wp2
      go_ret
      exact ⟨⟨_, rfl, Nts.of_own HO.out⟩, hB⟩
end Go.Proofs.Ytajljppmkcjoiaa
