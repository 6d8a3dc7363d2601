/- vm: the program's Pages: a map's keys, sorted. -/
import Derived.Test.YtfmcoibpbcheiaaVrX
import Derived.Test.YtfmcoibpbcheiaaShK
import Derived.Lib.SlKeysI
namespace Go.Proofs.Ytfmcoibpbcheiaa
open Go.RowKit Go.Maps Go.Sort Go.Shelf
set_option linter.unusedVariables false
set_option maxRecDepth 100000
def rdV : Value → Option (DataW Unit × List MemPlace) := fun _ => some (.nil, [])
theorem enV_key (ik : IntKind) (x : Int × Value) : (enV ik x).1 = .int ik x.1 := rfl
theorem upN_mem (f : Int → Option Int) (z : Int) (hk : ∀ z, f z ≠ none → 0 ≤ z ∧ z < 16) : z ∈ (upN f 16).map (fun n : Nat => (n : Int)) ↔ f z ≠ none := by
  unfold upN
  rw [List.mem_map]
  constructor
  · rintro ⟨n, hn, rfl⟩
    rw [List.mem_filter] at hn
    intro e
    rw [e] at hn
    cases hn.2
  · intro h
    obtain ⟨h0, h1⟩ := hk z h
    obtain ⟨n, rfl⟩ := Int.eq_ofNat_of_zero_le h0
    refine ⟨n, List.mem_filter.2 ⟨List.mem_range.2 (by omega), ?_⟩, rfl⟩
    cases e : f (n : Int) with
    | none => exact absurd e h
    | some v => rfl
theorem upN_nodup (f : Int → Option Int) : ((upN f 16).map (fun n : Nat => (n : Int))).Nodup := by
  refine nodup_map (g := fun n : Nat => (n : Int)) (fun a b h => ?_) (upN f 16) ?_
  · have h2 : (a : Int) = (b : Int) := h
    omega
  · unfold upN
    exact List.Pairwise.filter _ List.nodup_range
theorem keys_up {es : List (Int × Value)} {f : Int → Option Int} (hn : (keys es).Nodup) (hl : ∀ k, lk es k = (f k).map (Value.int .i64)) (hk : ∀ z, f z ≠ none → 0 ≤ z ∧ z < 16) : (keys es).Perm ((upN f 16).map (fun n : Nat => (n : Int))) := by
  refine (List.perm_ext_iff_of_nodup hn (upN_nodup f)).2 fun z => ?_
  rw [upN_mem f z hk, keys_lk, hl]
  cases f z <;> simp
theorem upN_sorted (f : Int → Option Int) : ((upN f 16).map (fun n : Nat => (n : Int))).mergeSort leI = (upN f 16).map (fun n : Nat => (n : Int)) := by
  refine List.mergeSort_of_pairwise ?_
  unfold upN
  rw [List.pairwise_map]
  refine List.Pairwise.filter _ (List.pairwise_lt_range.imp ?_)
  intro a b h
  simp only [leI, decide_eq_true_eq]
  omega
theorem sp_owns {w : World} {r : Nat} {f : Int → Option Int} (h : Sp w r f) (hk : ∀ z, f z ≠ none → 0 ≤ z ∧ z < 16) : ∃ D0 : DataW Unit, w.ownsMap Try.prog 3 rdV r 16 D0 ∧ Maps.size D0 ≤ 16 ∧ (intKeys D0).Perm ((upN f 16).map (fun n : Nat => (n : Int))) := by
  obtain ⟨es, ⟨arr, clock, hb, hes, hnd, hlt⟩, hn, hl⟩ := h
  have hp := keys_up hn hl hk
  have hat : ∀ x ∈ arr.toList, ∃ z : Int, x.key = .int .i64 z ∧ keyOf Try.prog 3 x.key = some (.int .i64 z) := fun x hx => by
    have hm : (x.key, x.val) ∈ es.map (enV .i64) := by rw [← hes]; exact List.mem_map.2 ⟨x, hx, rfl⟩
    obtain ⟨y, hy, e⟩ := List.mem_map.1 hm
    have e1 : x.key = .int .i64 y.1 := by
      have := congrArg Prod.fst e
      exact this.symm
    have h1 : y.1 ∈ keys es := List.mem_map.2 ⟨y, hy, rfl⟩
    have h2 : f y.1 ≠ none := fun c => by
      have := (keys_lk es y.1).1 h1
      rw [hl, c] at this
      exact this rfl
    have h3 := hk _ h2
    refine ⟨y.1, e1, ?_⟩
    rw [e1]
    exact keyOf_int_mk Try.underlying3 (by
      simp only [Lit.wf, IntKind.min, IntKind.max, IntKind.signed, IntKind.bits]
      simp
      omega)
  have hsz : arr.size = es.length := by
    have := congrArg List.length hes
    simpa using this
  have hlen : es.length ≤ 16 := by
    have h1 := hp.length_eq
    have h2 := upN_len f 16
    rw [List.length_map, keys, List.length_map] at h1
    omega
  have hrd : ∀ x ∈ arr.toList, ∃ z : Int, x.key = .int .i64 z ∧ WideElems.rd Try.prog 3 rdV x = some (.int .i64 z, .nil) := fun x hx => by
    obtain ⟨z, e, hz⟩ := hat x hx
    refine ⟨z, e, ?_⟩
    simp [WideElems.rd, hz, rdV]
  have F : WideElems.Fit Try.prog 3 rdV arr clock := ⟨by rw [hsz]; unfold maxLen; omega, ⟨fun x hx => hlt x hx, hnd, by rw [keys_eq hes]; exact nodup_map (fun a b h => by unfold kV at h; simpa using h) _ hn⟩, fun x hx => by obtain ⟨z, _, e⟩ := hrd x hx; exact ⟨_, e⟩⟩
  refine ⟨.map ((arr.toList.map (WideElems.rg Try.prog 3 rdV)).foldr DataW.insert []), ⟨arr, clock, hb, F, by rw [hsz]; exact hlen, rfl⟩, ?_, ?_⟩
  · show ((arr.toList.map (WideElems.rg Try.prog 3 rdV)).foldr DataW.insert []).length ≤ 16
    rw [(WideShapes.sorted_perm _).length_eq, List.length_map, Array.length_toList, hsz]
    exact hlen
  · show (((arr.toList.map (WideElems.rg Try.prog 3 rdV)).foldr DataW.insert []).map fun p => Go.intOf p.1).Perm _
    refine ((WideShapes.sorted_perm _).map _).trans ?_
    rw [List.map_map]
    have e : arr.toList.map ((fun p : Lit × DataW Unit => Go.intOf p.1) ∘ WideElems.rg Try.prog 3 rdV) = keys es := by
      have e1 : arr.toList.map ((fun p : Lit × DataW Unit => Go.intOf p.1) ∘ WideElems.rg Try.prog 3 rdV) = (arr.toList.map (fun e => (e.key, e.val))).map (fun p => match p.1 with | .int _ a => a | _ => 0) := by
        rw [List.map_map]
        refine List.map_congr_left (fun x hx => ?_)
        obtain ⟨z, e, hz⟩ := hrd x hx
        show Go.intOf (WideElems.rg Try.prog 3 rdV x).1 = (match x.key with | .int _ a => a | _ => 0)
        rw [WideElems.rg_of hz, e]
        rfl
      rw [e1, hes, List.map_map]
      rfl
    rw [e]
    exact hp
/-- slices.Sort's contracts, at the fence that asks nothing. -/
theorem sorts_in (m : Nat) : AnyZI.SortsIn Try.prog Try.sortedA_ren Fence.wide m :=
  ⟨fun blk off cap ss W hH hblk hsz => callsIn_wide.2 (AnyM.slices_Sort_int Try.sortA blk off cap ss W hH hblk hsz),
   fun p cap W => callsIn_wide.2 (AnyM.slices_Sort_int_none Try.sortA p cap W)⟩
set_option maxHeartbeats 2000000 in
theorem vpages_in (B : Nat) (l : Lo) (s : Vs) (p : Fin 6) (w : World) (h : Vb B w l s) (hp : s.has p = true) (hk : ∀ z, s.pg p z ≠ none → 0 ≤ z ∧ z < 16) : Calls Try.prog 27 #[.pointer (some ⟨l.b, 0, none⟩), .int .i64 p.1] w fun r w' => ∃ v, r = .returned v ∧ Ints w' v (upN (s.pg p) 16) ∧ Below w.heap.size w w' := by
  have cO := of_ok B l s p w h hp
  obtain ⟨D0, hown, hD, hperm⟩ := sp_owns (h.sp p hp).2 hk
  have hsort := upN_sorted (s.pg p)
  generalize upN (s.pg p) 16 = U at *
  generalize l.r p = b at *
  clear h hp hk
  refine (callsIn_wide (n := 6)).1 ?_
  have hbl := hown.lt
  have hseq : SeqGives Fence.wide 2 Try.prog 81 #[.pointer (some ⟨w.heap.size, 0, none⟩)] encZ (fun ss => ss.Perm (intKeys D0)) (Maps.size D0) (w.alloc (.cells #[.map (some b)] 60)) :=
    AnyZI.keys_gives (ρ := Try.keysA_ren) { Try.keysA with } Fence.wide _ trivial rfl (by omega) w.heap.size b 16 D0 _ (by simp) (by simp) (by
      obtain ⟨es, clock, hb, Ft, hs, hD⟩ := hown
      exact ⟨es, clock, (Below.heap_alloc _ _ b hbl).trans hb, Ft, hs, hD⟩)
  have cK : ∀ mb W, CallsIn Fence.wide 5 Try.prog 60 #[.map mb] W fun e w' => e = .returned (.func (.func 81) #[] #[.pointer (some ⟨W.heap.size, 0, none⟩)]) ∧ w' = W.alloc (.cells #[.map mb] 60) := fun mb W => AnyZI.keys_in Try.keysA Fence.wide 5 trivial rfl mb W
  have cS := AnyZI.sorted_in Try.sortedA Fence.wide 5 trivial trivial trivial trivial rfl (by omega) (sorts_in _) (enters_of Try.func80 (by kernel_rfl) rfl) 81 #[.pointer (some ⟨w.heap.size, 0, none⟩)] trivial (enters_of Try.func81 (by kernel_rfl) rfl) _ _ (by unfold maxLen; omega) (by omega) _ hseq
  change CallsIn _ _ Try.prog 59 _ _ _ at cS
  have hfK : Fence.wide.fn 60 := trivial
  have hfS : Fence.wide.fn 59 := trivial
  have hfO : Fence.wide.fn 35 := trivial
  have cOI := (callsIn_wide (n := 5)).2 cO
  clear cO hown hseq
  refine callsIn_of_wp Try.func27 rfl trivial ?_ rfl
  simp only [Try.ntmps27, List.size_toArray, List.length_cons, List.length_nil, Nat.reduceAdd, Nat.reduceSub, Array.replicate_succ, Array.replicate_zero, List.push_toArray, List.append_toArray, List.nil_append, List.cons_append]
  gi_wp2_with (first
    | (gi_at_call 35; refine cOI.mono ?_; rintro e w' ⟨rfl, hW⟩; rw [hW])
    | (gi_at_call 60; refine (cK _ _).mono ?_; rintro e w' ⟨rfl, rfl⟩)
    | (gi_at_call 59; refine cS.mono ?_; rintro e w' ⟨v, ss, rfl, hS, hrow, hnil, hb⟩))
  go_ret
  have hB : Below w.heap.size w w' := ((Below.refl _ w).alloc (Nat.le_refl _) _).trans (hb.mono (by simp))
  refine ⟨v, rfl, ?_, hB⟩
  have hp2 : ss.Perm (U.map (fun n : Nat => (n : Int))) := hS.trans hperm
  have e1 : ss.mergeSort (fun x y => decide (x ≤ y)) = U.map (fun n : Nat => (n : Int)) := (mergeSort_of_perm_i hp2).trans hsort
  have e2 : ss.length = U.length := by have := hp2.length_eq; rw [List.length_map] at this; exact this
  rw [e1, e2, List.map_map] at hrow
  exact Ints.of_own hrow
set_option maxHeartbeats 1000000 in
theorem vpages_no (B : Nat) (l : Lo) (s : Vs) (pid : Int) (w : World) (h : Vb B w l s) (hp : NoP s pid) : Calls Try.prog 27 #[.pointer (some ⟨l.b, 0, none⟩), .int .i64 pid] w fun r w' => r = .returned (.slice none 0 0) ∧ w' = w := by
  have cO := of_bad B l s pid w h hp
  clear h hp
  go_enter Try.func27, Try.ntmps27
  go_wp2_with fail
  refine cO.mono ?_
  rintro r0 W ⟨rfl, hW⟩
  rw [hW]
  clear cO hW
  go_wp2
  go_ret
  exact ⟨rfl, rfl⟩
theorem vpages_any (B : Nat) (l : Lo) (s : Vs) (N : Nat) (pid : Int) (w : World) (h : Vb B w l s) (hF : Fr N s) : Calls Try.prog 27 #[.pointer (some ⟨l.b, 0, none⟩), .int .i64 pid] w fun r w' => ∃ v, r = .returned v ∧ Ints w' v (pgsV s pid) ∧ Below w.heap.size w w' := by
  unfold pgsV
  rcases prc_cases s pid with ⟨h1, h2⟩ | ⟨p, h1, rfl, h2⟩
  · rw [h1]
    refine (vpages_no B l s pid w h h2).mono ?_
    rintro r w' ⟨rfl, rfl⟩
    exact ⟨_, rfl, Ints.nil _, Below.refl _ _⟩
  · rw [h1]
    refine vpages_in B l s p w h h2 (fun z hz => ?_)
    cases e : s.pg p z with
    | none => exact absurd e hz
    | some v => exact (hF.pgs p z v e).1
end Go.Proofs.Ytfmcoibpbcheiaa
