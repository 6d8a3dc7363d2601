/- The program's table: Revoke. -/
import Derived.Test.YtedknoadcdnioaaCaJ
import Derived.Test.YtedknoadcdnioaaCaX
import Derived.Test.YtedknoadcdnioaaCaH
import Derived.Test.YtedknoadcdnioaaRounds2
namespace Go.Proofs.Ytedknoadcdnioaa
open Go.RowKit Go.Shelf Go.Maps
set_option linter.unusedVariables false
set_option maxRecDepth 100000
attribute [local go_sem] Oper.semAt_some
/-- What is left behind some slots that were emptied. -/
def outS (s : Sl) (pre : List (Fin 12)) : Sl := fun k => if k ∈ pre then none else s k
theorem outS_nil (s : Sl) : outS s [] = s := by funext k; simp [outS]
theorem outS_snoc (s : Sl) (pre : List (Fin 12)) (x : Fin 12) : outS s (pre ++ [x]) = upd (outS s pre) x none := by
  funext k
  unfold outS upd
  by_cases h : k = x
  · subst h; simp
  · simp [h]
theorem thL_mem (q : Fin 12 → Bool) : ∀ (n : Nat), n ≤ 12 → ∀ i : Fin 12, i ∈ thL q n ↔ i.1 < n ∧ q i = true
  | 0, _, i => by simp [thL]
  | n + 1, hn, i => by
    rw [thL_snoc q n (by omega), List.mem_append, thL_mem q n (by omega) i]
    by_cases h : i = ⟨n, by omega⟩
    · subst h
      cases hq : q ⟨n, by omega⟩ <;> simp
    · have h1 : i.1 ≠ n := fun e => h (Fin.ext e)
      have h2 : i.1 < n + 1 ↔ i.1 < n := by omega
      have h3 : ¬ i ∈ (if q ⟨n, by omega⟩ then [(⟨n, by omega⟩ : Fin 12)] else []) := by split <;> simp [h]
      simp only [h2, h3, or_false]
theorem outS_gone (s : Sl) (q : Fin 12 → Bool) : outS s (thL q 12) = goneS s q 12 := by
  funext k
  unfold outS goneS
  have := thL_mem q 12 (Nat.le_refl _) k
  by_cases h : k.1 < 12 ∧ q k = true
  · rw [if_pos h, if_pos (this.2 h)]
  · rw [if_neg h, if_neg (fun e => h (this.1 e))]
theorem above_nil (t : List UInt8) : aboveB t [] = false := by
  unfold aboveB
  cases splitO t <;> simp [splitO]
/-- Which slots a name stands above. -/
def revQ (top : ByteArray) (s : Sl) (k : Fin 12) : Bool := aboveB top.data.toList (slF s k).1.data.toList
theorem revQ_some (top : ByteArray) (s : Sl) (k : Fin 12) : revQ top s k = ((s k).isSome && aboveB top.data.toList (slotC (s k)).1.data.toList) := by
  unfold revQ slF
  cases s k with
  | none =>
    show aboveB _ [] = _
    rw [above_nil]
    rfl
  | some c => rfl
theorem slotC_len (o : Option Rc) : (slotC o).1.size ≤ 1000 := by
  cases o with
  | none => exact Nat.zero_le _
  | some c => exact Nat.le_trans c.2.2 (by omega)
theorem hFrevoke : ∀ args w, (callFunc 20 args).run Try.prog w = .ok (.enter 20 args) w := enters_fn Try.func20 (by kernel_rfl) rfl
theorem kpX_of {bf bx : Nat} {W W' : World} {tf tx : TypeId} {xf xx : Value} (hk : KeepsWalks W W') (b3 : Boxed W bf tf xf) (b4 : Boxed W' bf tf xf) (c3 : Boxed W bx tx xx) (c4 : Boxed W' bx tx xx) : KpC (XB bf bx) W W' := by
  refine ⟨hk, fun a v hx h => ?_⟩
  have h3 : W.heap[bx]? = some (.cells #[xx] tx (0, 0)) := c3
  rcases hx with rfl | rfl | rfl
  · rw [b3.cell] at h; cases h; exact b4.cell
  · rw [c3.cell] at h; cases h; exact c4.cell
  · rw [Lib.cell_of_heap h3] at h; simp at h
theorem bxFar {W : World} {d : Nat} {t : TypeId} {v : Value} (h : Boxed W d t v) (b j : Nat) (hne : d ≠ b) (u : Value) : Boxed (W.setCell ⟨b, j, none⟩ u) d t v := (Below.heap_setCell W ⟨b, j, none⟩ u d hne).trans h
theorem bxLow {W W' : World} {d : Nat} {t : TypeId} {v : Value} (h : Boxed W d t v) (k : Below W.heap.size W W') : Boxed W' d t v := (k.block d h.lt).trans h
theorem takeD {ops : Array Oper} {Q : Exit → Act → World → Prop} {S : World → Prop} {i : Nat} {oi : Oper} {v : Value} {fuel : Nat} {listed : Array Bool} {a : Act} {w : World} (d : Option Nat) (hi : ops[i]? = some oi) (hd : oi.dst = d)
    (hs : Region.noSelect ops = true) (hf : Region.free .any ops listed i = true) (hr : (Region.ready .any ops listed).contains i = true)
    (hQ : ∀ c a w, Q (.panic c) (a.put d v) w → Q (.panic c) a w) (hy : YieldsIf Try.prog ops S oi v a) (hS : S w)
    (h : wpAnyH Try.prog .any ops Q S fuel (listed.setIfInBounds i true) (a.put d v) w) : wpAnyH Try.prog .any ops Q S (fuel + 1) listed a w := by
  subst hd
  exact wpAnyH_take hi hs hf hr hQ hy hS h
theorem keeps_low {W W' : World} (h : Below W.heap.size W W') : KeepsOthers W W' := ⟨h.size, fun k o hk _ => (h.block k (Array.getElem?_eq_some_iff.1 hk).1).trans hk⟩
theorem round_held2 {ops : Array Oper} {L m id : Nat} {Q : Exit → Act → World → Prop} {S : World → Prop} {a : Act} {w : World} (hm : Try.prog.follows .mixedOrders = true) (hd : noDefer ops = true) (hS : S w.drew)
    (h : S w.drew → wpAnyH Try.prog .any ops (fun e a w => e = .normal ∧ Q .normal a w) S ops.size (Array.replicate ops.size false) a w.drew) : (Code.region id ops true).wpIn (Fence.wide.inRound L) m Try.prog Q a w :=
  round_held (Kn := Q .normal) hm hd hS (fun _ _ h => h) h
set_option maxHeartbeats 4000000 in
theorem revoke_in (B b : Nat) (s : Sl) (top : ByteArray) (w : World) (h : Tb 44 B w b s) (hb : b < w.heap.size) (htop : top.size ≤ 1000) (n : Nat) (hn : 5 ≤ n) :
    CallsIn Fence.wide n Try.prog 10 #[.pointer (some ⟨b, 0, none⟩), .string top] w fun e W' => ∃ v, e = .returned v ∧ W'.ownsRow w.heap.size 3 1 v (thL (revQ top s) 12).length ((thL (revQ top s) 12).map slI) ∧ TStp 44 B w W' b (goneS s (revQ top s) 12) := by
  have hw1 : 1 ≤ n := by omega
  have hro : Fence.wide.round = none := rfl
  obtain ⟨i0, hi, hz0, hz1, hz2⟩ := info_parts infoI
  refine callsIn_of_wp_marks Try.func10 rfl trivial ?_ rfl
  simp only [Try.ntmps10, List.size_toArray, List.length_cons, List.length_nil, Nat.reduceAdd, Nat.reduceSub, Array.replicate_succ, Array.replicate_zero, List.push_toArray, List.append_toArray, List.nil_append, List.cons_append]
  gi_wp2_with (refine ⟨trivial, ?_⟩; gi_at_call 19; refine (those_in (n - 1) _ _ _ _ _).mono ?_; rintro e w' ⟨rfl, rfl⟩)
  have bT := Boxed.new w 24 (.pointer (some ⟨b, 0, none⟩))
  have bP := Boxed.new (w.alloc (.cells #[.pointer (some ⟨b, 0, none⟩)] 24)) 9 (.string top)
  have bO := Boxed.new ((w.alloc (.cells #[.pointer (some ⟨b, 0, none⟩)] 24)).alloc (.cells #[.string top] 9)) 34 (.slice none 0 0)
  have bV := Boxed.new (((w.alloc (.cells #[.pointer (some ⟨b, 0, none⟩)] 24)).alloc (.cells #[.string top] 9)).alloc (.cells #[.slice none 0 0] 34)) 24 (.pointer (some ⟨b, 0, none⟩))
  have bF := Boxed.new ((((w.alloc (.cells #[.pointer (some ⟨b, 0, none⟩)] 24)).alloc (.cells #[.string top] 9)).alloc (.cells #[.slice none 0 0] 34)).alloc (.cells #[.pointer (some ⟨b, 0, none⟩)] 24)) 33 (.func (.func 20) #[] #[.pointer (some ⟨w.heap.size + 1, 0, none⟩)])
  simp only [World.size_alloc] at bT bP bO bV bF
  have bT0 := (((bT.alloc (.cells #[.string top] 9)).alloc (.cells #[.slice none 0 0] 34)).alloc (.cells #[.pointer (some ⟨b, 0, none⟩)] 24)).alloc (.cells #[(.func (.func 20) #[] #[.pointer (some ⟨w.heap.size + 1, 0, none⟩)])] 33)
  have bP0 := ((bP.alloc (.cells #[.slice none 0 0] 34)).alloc (.cells #[.pointer (some ⟨b, 0, none⟩)] 24)).alloc (.cells #[(.func (.func 20) #[] #[.pointer (some ⟨w.heap.size + 1, 0, none⟩)])] 33)
  have bO0 := (bO.alloc (.cells #[.pointer (some ⟨b, 0, none⟩)] 24)).alloc (.cells #[(.func (.func 20) #[] #[.pointer (some ⟨w.heap.size + 1, 0, none⟩)])] 33)
  have bV0 := bV.alloc (.cells #[(.func (.func 20) #[] #[.pointer (some ⟨w.heap.size + 1, 0, none⟩)])] 33)
  have hB0 : Below w.heap.size w (((((w.alloc (.cells #[.pointer (some ⟨b, 0, none⟩)] 24)).alloc (.cells #[.string top] 9)).alloc (.cells #[.slice none 0 0] 34)).alloc (.cells #[.pointer (some ⟨b, 0, none⟩)] 24)).alloc (.cells #[.func (.func 20) #[] #[.pointer (some ⟨w.heap.size + 1, 0, none⟩)]] 33)) := (((((Below.refl _ w).alloc (Nat.le_refl _) _).alloc (by simp) _).alloc (by simp; omega) _).alloc (by simp; omega) _).alloc (by simp; omega) _
  have hsz : (((((w.alloc (.cells #[.pointer (some ⟨b, 0, none⟩)] 24)).alloc (.cells #[.string top] 9)).alloc (.cells #[.slice none 0 0] 34)).alloc (.cells #[.pointer (some ⟨b, 0, none⟩)] 24)).alloc (.cells #[.func (.func 20) #[] #[.pointer (some ⟨w.heap.size + 1, 0, none⟩)]] 33)).heap.size = w.heap.size + 1 + 1 + 1 + 1 + 1 := by simp
  clear bT bP bO bV
  generalize (((((w.alloc (.cells #[.pointer (some ⟨b, 0, none⟩)] 24)).alloc (.cells #[.string top] 9)).alloc (.cells #[.slice none 0 0] 34)).alloc (.cells #[.pointer (some ⟨b, 0, none⟩)] 24)).alloc (.cells #[.func (.func 20) #[] #[.pointer (some ⟨w.heap.size + 1, 0, none⟩)]] 33)) = W0 at *
  have h0 := h.below hB0
  have hTS0 : TStp 44 B w W0 b (outS s []) := by rw [outS_nil]; exact TStp.same h hB0
  clear h
  refine wpIn_rangeFunc_ownG hro hw1 (gf := 30) (lb := #[.pointer (some ⟨w.heap.size + 1 + 1 + 1, 0, none⟩), .pointer (some ⟨w.heap.size + 1 + 1 + 1 + 1, 0, none⟩)]) rfl trivial (enters_of Try.func30 (by kernel_rfl) rfl)
    (th_stops (n - 1) (by omega) B (w.heap.size + 1 + 1 + 1) (w.heap.size + 1 + 1 + 1 + 1) (w.heap.size + 1) b _ #[.pointer (some ⟨w.heap.size + 1, 0, none⟩)] hFrevoke s (revQ top s) W0 bV0.cell bF.cell h0 (fun k W' hW' => callsIn_wide.2 (revoke1_any (slF s k) top (w.heap.size + 1) W' (slotC_len (s k)) htop (hW'.2 _ _ (.inr (.inl rfl)) bP0.cell)))) kpC_t kpC_b (Below.refl _ _) (fun _ => rfl)
    (fun pre W => ((((∃ v, Boxed W (w.heap.size + 1 + 1) 34 v ∧ W.ownsRow (w.heap.size + 1 + 1 + 1 + 1 + 1) 3 1 v pre.length (pre.map slI) ∧ pre.length ≤ 12) ∧ Boxed W (w.heap.size + 1 + 1 + 1 + 1) 33 (.func (.func 20) #[] #[.pointer (some ⟨w.heap.size + 1, 0, none⟩)])) ∧ Boxed W w.heap.size 24 (.pointer (some ⟨b, 0, none⟩))) ∧ Boxed W (w.heap.size + 1) 9 (.string top)) ∧ TStp 44 B w W b (outS s pre))
    (fun _ _ _ => False)
    (OwnFrom.and (OwnFrom.and (OwnFrom.and (OwnFrom.and (Own.from (holdsRow_own (w.heap.size + 1 + 1 + 1 + 1 + 1) (w.heap.size + 1 + 1) 34 3 1 (fun pre : List (Fin 12) => pre.length) (fun pre : List (Fin 12) => pre.map slI) (fun pre _ => pre.length ≤ 12)) _) (Own.from (fun s A B row hs hg hr => box_kept hs hg hr) _)) (Own.from (fun s A B row hs hg hr => box_kept hs hg hr) _)) (Own.from (fun s A B row hs hg hr => box_kept hs hg hr) _)) (fun pre W W' row hs hg hr => hs.grown hg (fun r e => by have := (hr r e).1; omega) hb))
    (fun c => Own.from (fun _ _ _ _ h _ _ => h) _)
    ⟨⟨⟨⟨⟨_, bO0, World.ownsRow_nil _ _ _ _, by simp⟩, bF⟩, bT0⟩, bP0⟩, hTS0⟩
    (fun x => { tmps := #[.pointer (some ⟨b, 0, none⟩), .string top, .pointer (some ⟨w.heap.size, 0, none⟩), .pointer (some ⟨w.heap.size + 1, 0, none⟩), .slice none 0 0, .pointer (some ⟨w.heap.size + 1 + 1, 0, none⟩), .int .i64 x.1, .pointer (some ⟨b, 0, none⟩), (.func (.func 20) #[] #[.pointer (some ⟨w.heap.size + 1, 0, none⟩)]), .func (.func 30) #[] #[.pointer (some ⟨w.heap.size + 1 + 1 + 1, 0, none⟩), .pointer (some ⟨w.heap.size + 1 + 1 + 1 + 1, 0, none⟩)], .int .i64 x.1, undef, undef, undef, undef, undef, undef, undef, undef, undef, undef, undef], defers := [] }) ?assign ?body ?done ?stop
  case assign =>
    intro l x W K hK
    simp only [slV]
    gi_wp2
    exact hK
  case body =>
    rintro l pre x W ⟨⟨⟨⟨⟨v, hv, hrow, hlen⟩, hF⟩, hT⟩, hP⟩, hS⟩ hlt
    obtain ⟨a0, cap0, hvf⟩ : ∃ a cap, v = .slice a pre.length cap := by
      rcases hrow.2 with ⟨hv0, hk0⟩ | ⟨g, cap, cur, hv0, _⟩
      · exact ⟨none, 0, by rw [hk0]; exact hv0⟩
      · exact ⟨_, _, hv0⟩
    subst hvf
    have hcT := hT.cell
    obtain ⟨xi, hxi⟩ := x
    have hxz : (xi : Int) < 12 := by omega
    clear bV0 bF h0 hTS0 bT0 bP0 bO0
    gi_wp2
    refine round_held2 (S := fun w' => w'.cell? ⟨w.heap.size, 0, none⟩ = some (.pointer (some ⟨b, 0, none⟩))) (by kernel_rfl) (by kernel_rfl) hcT (fun hHeld => ?_)
    refine takeD (i := 1) (v := ?v1) (some 12) rfl rfl (by kernel_rfl) (by kernel_rfl) (by kernel_rfl) (fun _ _ _ h => by cases h.1) (Or.inl ⟨by rfl, ?hy1⟩) (by assumption) ?_
    case hy1 => (intro w' hSw; (try dsimp only at hSw); go_simp; try (with_reducible rfl))
    simp only [Act.put, List.setIfInBounds_toArray, List.set_cons_zero, List.set_cons_succ]
    refine takeD (i := 0) (v := ?v0) (some 11) rfl rfl (by kernel_rfl) (by kernel_rfl) (by kernel_rfl) (fun _ _ _ h => by cases h.1) (Or.inl ⟨by rfl, ?hy0⟩) (by assumption) ?_
    case hy0 => (intro w' hSw; (try dsimp only at hSw); go_simp; try (with_reducible rfl))
    simp only [Act.put, List.setIfInBounds_toArray, List.set_cons_zero, List.set_cons_succ]
    refine takeD (i := 3) (v := ?v3) (some 14) rfl rfl (by kernel_rfl) (by kernel_rfl) (by kernel_rfl) (fun _ _ _ h => by cases h.1) (Or.inl ⟨by rfl, ?hy3⟩) (by assumption) ?_
    case hy3 => (intro w' hSw; (try dsimp only at hSw); go_simp; try (with_reducible rfl))
    simp only [Act.put, List.setIfInBounds_toArray, List.set_cons_zero, List.set_cons_succ]
    refine takeD (i := 4) (v := ?v4) (some 15) rfl rfl (by kernel_rfl) (by kernel_rfl) (by kernel_rfl) (fun _ _ _ h => by cases h.1) (Or.inl ⟨by rfl, ?hy4⟩) (by assumption) ?_
    case hy4 => (intro w' hSw; (try dsimp only at hSw); go_simp; try (with_reducible rfl))
    simp only [Act.put, List.setIfInBounds_toArray, List.set_cons_zero, List.set_cons_succ]
    refine wpAnyH_ready (rs := [2]) (by kernel_rfl) (by simp) (AllReadyH.cons rfl (fun K hK => ?_) AllReadyH.nil)
    go_simp
    with_reducible refine (none_any W.drew).mono ?_
    rintro e W1 ⟨rfl, hB1⟩
    have hB1' : Below W.heap.size W W1 := ((Below.refl _ W).drew).trans hB1
    have HS1 := Hid3.mk (hS.post hB1')
    have HB1 := Hid3.mk hB1'
    obtain ⟨⟨c0, c1⟩, f0, f1⟩ := HS1.out.tb.at ⟨xi, hxi⟩
    have hbl1 := HS1.out.tb.c.lt
    simp only at c0 c1 f0 f1
    have hTc1 := (bxLow hT hB1').cell
    clear hB1 hB1' hS
    refine hK.out _ _ hTc1 (fun hHeld2 => ?_)
    clear hK K hHeld
    have hHeld := hHeld2
    clear hHeld2
    try simp only [Act.put, List.setIfInBounds_toArray, List.set_cons_zero, List.set_cons_succ]
    refine takeD (i := 5) (v := ?v5) (some 16) rfl rfl (by kernel_rfl) (by kernel_rfl) (by kernel_rfl) (fun _ _ _ h => by cases h.1) (Or.inl ⟨by rfl, ?hy5⟩) (by assumption) ?_
    case hy5 => (intro w' hSw; (try dsimp only at hSw); go_simp; try (with_reducible rfl))
    simp only [Act.put, List.setIfInBounds_toArray, List.set_cons_zero, List.set_cons_succ]
    refine wpAnyH_ready (rs := [6]) (by kernel_rfl) (by simp) (AllReadyH.cons rfl (fun K hK => ?_) AllReadyH.nil)
    have HT5 : Hid3 (TStp 44 B w ((W1.setCell ⟨b, xi * 2, none⟩ (.string ⟨#[]⟩)).setCell ⟨b, xi * 2 + 1, none⟩ (.int .u8 0)) b (outS s (pre ++ [⟨xi, hxi⟩]))) := ⟨by rw [outS_snoc]; exact HS1.out.trans (TStp.slot HS1.out.tb ⟨xi, hxi⟩ none)⟩
    have HV5 : Hid3 (Boxed ((W1.setCell ⟨b, xi * 2, none⟩ (.string ⟨#[]⟩)).setCell ⟨b, xi * 2 + 1, none⟩ (.int .u8 0)) (w.heap.size + 1 + 1) 34 (.slice a0 pre.length cap0)) := ⟨bxFar (bxFar (bxLow hv HB1.out) b _ (by omega) _) b _ (by omega) _⟩
    have HF5 : Hid3 (Boxed ((W1.setCell ⟨b, xi * 2, none⟩ (.string ⟨#[]⟩)).setCell ⟨b, xi * 2 + 1, none⟩ (.int .u8 0)) (w.heap.size + 1 + 1 + 1 + 1) 33 (.func (.func 20) #[] #[.pointer (some ⟨w.heap.size + 1, 0, none⟩)])) := ⟨bxFar (bxFar (bxLow hF HB1.out) b _ (by omega) _) b _ (by omega) _⟩
    have HU5 : Hid3 (Boxed ((W1.setCell ⟨b, xi * 2, none⟩ (.string ⟨#[]⟩)).setCell ⟨b, xi * 2 + 1, none⟩ (.int .u8 0)) w.heap.size 24 (.pointer (some ⟨b, 0, none⟩))) := ⟨bxFar (bxFar (bxLow hT HB1.out) b _ (by omega) _) b _ (by omega) _⟩
    have HP5 : Hid3 (Boxed ((W1.setCell ⟨b, xi * 2, none⟩ (.string ⟨#[]⟩)).setCell ⟨b, xi * 2 + 1, none⟩ (.int .u8 0)) (w.heap.size + 1) 9 (.string top)) := ⟨bxFar (bxFar (bxLow hP HB1.out) b _ (by omega) _) b _ (by omega) _⟩
    have hown1 := hrow.kept (grownB HB1.out) (Classical.em _)
    have hnb : (Value.slice a0 pre.length cap0).ownBlock ≠ some b := (row_block hown1 (by omega)).symm
    have HR5 := Hid3.mk ((hown1.kept (grownSet W1 b (xi * 2) (.string ⟨#[]⟩)) (.inr hnb)).kept (grownSet _ b (xi * 2 + 1) (.int .u8 0)) (.inr hnb))
    have HK5 : Hid3 (KeepsOthers W ((W1.setCell ⟨b, xi * 2, none⟩ (.string ⟨#[]⟩)).setCell ⟨b, xi * 2 + 1, none⟩ (.int .u8 0))) := ⟨((keeps_low HB1.out).trans (KeepsOthers.setCell _ _ _)).trans (KeepsOthers.setCell _ _ _)⟩
    have hTc5 := HU5.out.cell
    clear hown1 hnb hTc1
    go_simp
    refine hK.out _ _ hTc5 (fun hHeld2 => ?_)
    clear hK K hHeld
    have hHeld := hHeld2
    clear hHeld2
    try simp only [Act.put, List.setIfInBounds_toArray, List.set_cons_zero, List.set_cons_succ]
    refine wpAnyH_done (by kernel_rfl) ⟨rfl, ?_⟩ _
    clear c0 c1 f0 f1 hbl1 hTc5 hHeld HS1 HB1 hcT
    generalize (W1.setCell ⟨b, xi * 2, none⟩ (.string ⟨#[]⟩)).setCell ⟨b, xi * 2 + 1, none⟩ (.int .u8 0) = Wm at *
    have hrow5 := HR5.out
    have hv5 := HV5.out
    have hcv := hv5.cell
    have hfv := hv5.frozen
    have hszm : w.heap.size + 1 + 1 + 1 + 1 + 1 ≤ Wm.heap.size := HF5.out.lt
    gi_wp2_with (gi_at_builtin; refine wpListIn_append_own _ rfl _ _ 34 rfl (w.heap.size + 1 + 1 + 1 + 1 + 1) 3 i0 (.int .i64 0) 1 8 Try.underlying34 hi hz0 hz1 hz2 rfl (by decide) _ _ _ rfl (hrow5.alloc _) ⟨Wm.heap.size, 0, none⟩ 1 1 [slI ⟨xi, hxi⟩] rfl rfl (cell_one_new _ _ _) (by simp [Value.oneCell', slI]) (by unfold maxLen; omega) (by omega) (by simp; omega) ?_; intro v' w1 hown' hgrow _; obtain ⟨g', cap', rfl⟩ := ownsRow_succ hown'; have hv1' := (hv5.alloc _).kept hgrow (row_block hrow5 (by omega)); have hv1c := hv1'.cell; have hv1f := hv1'.frozen)
    obtain ⟨_, hA2, _, hA4, hA5⟩ := Boxed.appended (n₀ := w.heap.size) hv5 (by decide) (Go.Joins.ownsRow_le hrow5 (by omega)) (by omega) (by omega) (Go.Joins.ownsRow_le hown' (by omega)) hgrow
    have hrn : ∀ B, B < w.heap.size + 1 + 1 + 1 + 1 + 1 → some B ≠ (Value.slice a0 pre.length cap0).ownBlock := fun B hb => row_block hrow5 hb
    have bx : ∀ d t u, d < w.heap.size + 1 + 1 + 1 + 1 + 1 → d ≠ w.heap.size + 1 + 1 → Boxed Wm d t u → Boxed (w1.setCell ⟨w.heap.size + 1 + 1, 0, none⟩ (.slice (some ⟨g', 0, none⟩) (pre.length + 1) cap')) d t u := fun d t u h1 h2 h3 => (((h3.alloc _).kept hgrow (hrn _ h1)).other (B' := w.heap.size + 1 + 1) h2 _)
    have hF2 := bx _ _ _ (by omega) (by omega) HF5.out
    have hT2 := bx _ _ _ (by omega) (by omega) HU5.out
    have hP2 := bx _ _ _ (by omega) (by omega) HP5.out
    have hTS : TStp 44 B w (w1.setCell ⟨w.heap.size + 1 + 1, 0, none⟩ (.slice (some ⟨g', 0, none⟩) (pre.length + 1) cap')) b (outS s (pre ++ [⟨xi, hxi⟩])) := ((HT5.out.post (below_new _ _)).grown hgrow (fun j ej => by have := (hrow5.lt j ej).1; omega) hb).grown (grownBy_setCell' w1 _ _) (fun j ej => by cases ej; omega) hb
    refine ⟨(HK5.out.trans hA4).from _, kpX_of (HK5.out.trans hA4).walks hF hF2 hP hP2, ⟨⟨⟨⟨_, hA2, ?_, by simp; omega⟩, hF2⟩, hT2⟩, hP2⟩, hTS⟩
    rw [List.length_append, List.map_append]
    exact hown'.kept (grownBy_setCell' w1 _ _) (.inr (row_block hown' (by omega)).symm)
  case done =>
    rintro D ys W hD rfl ⟨⟨⟨⟨⟨v, hv, hrow, _⟩, hF⟩, hT⟩, hP⟩, hS⟩ hK
    have hcv := hv.cell
    gi_wp2
    have hrow2 := ownsRow_putObj hrow (.deferred none) hK rfl
    refine ⟨by simp, .inl ⟨_, _, rfl, run_takeDeferred hK, ?_⟩⟩
    refine ⟨v, by simp [results, Try.f10, go_sem], v, rfl, Go.Joins.ownsRow_le hrow2 (by omega), ?_⟩
    rw [← outS_gone]
    exact hS.grown (grownBy_putObj' W D _) (fun r e => by cases e; omega) hb
  case stop =>
    rintro D c pre W hD hpre hf hK
    exact hf.elim
theorem revoke_any (B b : Nat) (s : Sl) (top : ByteArray) (w : World) (h : Tb 44 B w b s) (htop : top.size ≤ 1000) :
    Calls Try.prog 10 #[.pointer (some ⟨b, 0, none⟩), .string top] w fun e W' => ∃ v, e = .returned v ∧ W'.ownsRow w.heap.size 3 1 v (thL (revQ top s) 12).length ((thL (revQ top s) 12).map slI) ∧ TStp 44 B w W' b (goneS s (revQ top s) 12) :=
  (callsIn_wide (n := 5)).1 (revoke_in B b s top w h h.c.lt htop 5 (by omega))
end Go.Proofs.Ytedknoadcdnioaa
