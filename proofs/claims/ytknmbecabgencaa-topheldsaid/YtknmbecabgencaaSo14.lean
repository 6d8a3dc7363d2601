/- The library's sort at uint8. -/
import Derived.Test.YtknmbecabgencaaSo13
namespace Go.Proofs.Ytknmbecabgencaa
open Go.RowKit Go.Maps
set_option linter.unusedVariables false
set_option maxRecDepth 100000
/-- A slice of numbers that can be read. -/
def Rd (w : World) (base : Nat) (v : Value) (ys : List Int) : Prop := (v = .slice none 0 0 ∧ ys = []) ∨ ∃ g cap, v = .slice (some ⟨g, 0, none⟩) ys.length cap ∧ base ≤ g ∧ Ro w g ys.length (fun i => ys.getD i 0)
theorem ro_congr {w : World} {g n : Nat} {f f' : Nat → Int} (h : Ro w g n f) (e : ∀ i, i < n → f i = f' i) : Ro w g n f' := by
  obtain ⟨arr, h1, h2, h3⟩ := h.r
  exact ⟨arr, h1, h2, fun i hi => by rw [← e i hi]; exact h3 i hi⟩
theorem ro_own {w : World} {base n : Nat} {v : Value} {zs : List Int} (h : w.ownsRow base 5 1 v zs.length (zs.map fun z => Value.int .u8 z)) : (v = .slice none 0 0 ∧ zs = []) ∨ ∃ g cap, v = .slice (some ⟨g, 0, none⟩) zs.length cap ∧ base ≤ g ∧ Ro w g zs.length (fun i => zs.getD i 0) := by
  rcases h.2 with ⟨h1, h2⟩ | ⟨g, cap, cur, h1, h2, h3, h4, h5, h6, h7⟩
  · exact .inl ⟨h1, List.eq_nil_of_length_eq_zero h2⟩
  · refine .inr ⟨g, cap, h1, h2, cur, h3, by omega, fun i hi => ?_⟩
    have e : (cur.toList.take (zs.length * 1))[i]? = (zs.map fun z => Value.int .u8 z)[i]? := by rw [h7]
    rw [List.getElem?_take_of_lt (by omega), List.getElem?_map, List.getElem?_eq_getElem hi] at e
    rw [← Array.getElem?_toList, e]
    simp [List.getD_eq_getElem?_getD, List.getElem?_eq_getElem hi]
theorem sh_perm {n : Nat} {f f' : Nat → Int} (h : Sh 0 n f f') : ((List.range n).map f').Perm ((List.range n).map f) := by
  obtain ⟨⟨s, t, h1, h2⟩, _⟩ := h
  have e : (List.range n).map f' = ((List.range n).map s).map f := by
    rw [List.map_map]
    refine List.map_congr_left fun i hi => ?_
    rw [h2 i (Nat.zero_le _) (List.mem_range.1 hi)]
    rfl
  rw [e]
  refine List.Perm.map f ?_
  refine (List.perm_ext_iff_of_nodup ?_ List.nodup_range).2 fun x => ?_
  · rw [List.Nodup, List.pairwise_map]
    refine List.Pairwise.imp_of_mem ?_ List.nodup_range
    intro x y hx hy hne e2
    have k1 := (h1 x (Nat.zero_le _) (List.mem_range.1 hx)).1.2.2
    have k2 := (h1 y (Nat.zero_le _) (List.mem_range.1 hy)).1.2.2
    rw [e2] at k1
    exact hne (k1.symm.trans k2)
  · rw [List.mem_map, List.mem_range]
    constructor
    · rintro ⟨i, hi, rfl⟩
      exact (h1 i (Nat.zero_le _) (List.mem_range.1 hi)).1.2.1
    · intro hx
      have k := (h1 x (Nat.zero_le _) hx).2
      exact ⟨t x, List.mem_range.2 k.2.1, k.2.2⟩
theorem range_getD (zs : List Int) : (List.range zs.length).map (fun i => zs.getD i 0) = zs := by
  refine List.ext_getElem (by simp) fun i h1 h2 => ?_
  simp [List.getD_eq_getElem?_getD, List.getElem?_eq_getElem h2]
set_option maxHeartbeats 2000000 in
theorem ins0_any (o : Option Addr) (c : Nat) (w : World) : Calls Try.prog 18 #[.slice o 0 c, .int .i64 0, .int .i64 0] w fun r w' => r = .returned (.tuple #[]) ∧ w' = w := by
  go_enter Try.func18, Try.ntmps18
  go_wp2_with fail
  go_loopw [6] (fun s6 wr => s6 = .int .i64 1 ∧ wr = w) (fun _ _ => 0)
  case atStart => exact ⟨rfl, rfl⟩
  case round =>
    obtain ⟨rfl, rfl⟩ := hrel
    go_wp2
    go_end0
    exact ⟨rfl, rfl⟩
set_option maxHeartbeats 2000000 in
theorem pdq0_any (o : Option Addr) (c : Nat) (lim : Int) (w : World) : Calls Try.prog 16 #[.slice o 0 c, .int .i64 0, .int .i64 0, .int .i64 lim] w fun r w' => r = .returned (.tuple #[]) ∧ w' = w := by
  go_enter Try.func16, Try.ntmps16
  go_wp2_with fail
  go_loopw [1, 2, 3, 8, 9] (fun s1 s2 s3 s8 s9 wr => s1 = .int .i64 0 ∧ s2 = .int .i64 0 ∧ s3 = .int .i64 lim ∧ s8 = .bool true ∧ s9 = .bool true ∧ wr = w) (fun _ _ _ _ _ _ => 0)
  case atStart => exact ⟨rfl, rfl, rfl, rfl, rfl, rfl⟩
  case round =>
    obtain ⟨rfl, rfl, rfl, rfl, rfl, rfl⟩ := hrel
    go_wp2_with fail
    refine (ins0_any o c wr).mono ?_
    rintro r w' ⟨rfl, rfl⟩
    go_wp2
    (try simp only [Exit.inBlock, Exit.then])
    refine bodyPost_ret (results_none rfl _ _ _) rfl ?_
    exact ⟨rfl, rfl⟩
set_option maxHeartbeats 2000000 in
theorem sort0_any (o : Option Addr) (c : Nat) (w : World) : Calls Try.prog 15 #[.slice o 0 c] w fun r w' => r = .returned (.tuple #[]) ∧ w' = w := by
  have hwu : IntKind.u64.wrap 0 = 0 := by decide
  go_enter Try.func15, Try.ntmps15
  go_wp2_with fail
  refine (Try.bits_Len 0 w (by omega) (by omega)).mono ?_
  rintro r w' ⟨rfl, rfl⟩
  go_wp2_with fail
  refine (pdq0_any o c _ _).mono ?_
  rintro r w' ⟨rfl, rfl⟩
  go_wp2
  go_end0
  exact ⟨rfl, rfl⟩
set_option maxHeartbeats 2000000 in
theorem sortn_any (g n cap : Nat) (f : Nat → Int) (w : World) (h : Ro w g n f) (hn : n ≤ 64) : Calls Try.prog 15 #[.slice (some ⟨g, 0, none⟩) n cap] w fun r w' => r = .returned (.tuple #[]) ∧ ∃ f', Ro w' g n f' ∧ Sh 0 n f f' ∧ Srt 0 n f' ∧ Apart (XB g) w w' := by
  have hwu : IntKind.u64.wrap (n : Int) = (n : Int) := by rw [IntKind.wrap_u64]; omega
  have H0 := Hid3.mk h
  clear h
  go_enter Try.func15, Try.ntmps15
  go_wp2_with fail
  refine (Try.bits_Len (n : Int) w (by omega) (by omega)).mono ?_
  rintro r w' ⟨rfl, rfl⟩
  go_wp2_with fail
  refine (pdq_all g n cap hn n 0 n _ f _ (by omega) (by omega) (by omega) H0.out (fun e => by omega)).mono ?_
  rintro r w' ⟨rfl, hr⟩
  have HE := Hid3.mk hr
  clear hr
  go_wp2
  go_end0
  exact ⟨rfl, HE.out⟩
/-- What a sort of numbers comes to. -/
theorem sort_c (base : Nat) (W : World) (v : Value) (zs : List Int) (h : W.ownsRow base 5 1 v zs.length (zs.map fun z => Value.int .u8 z)) (hb : base ≤ W.heap.size) (hn : zs.length ≤ 64) : Calls Try.prog 15 #[v] W fun e w' => e = .returned (.tuple #[]) ∧ ∃ ys : List Int, ys.Perm zs ∧ ys.Pairwise (· ≤ ·) ∧ Rd w' base v ys ∧ Below base W w' := by
  rcases ro_own (n := 0) h with ⟨rfl, rfl⟩ | ⟨g, cap, rfl, hg, hr⟩
  · refine (sort0_any none 0 W).mono ?_
    rintro e w' ⟨rfl, rfl⟩
    exact ⟨rfl, [], List.Perm.refl _, List.Pairwise.nil, .inl ⟨rfl, rfl⟩, Below.refl _ _⟩
  · refine (sortn_any g zs.length cap _ W hr hn).mono ?_
    rintro e w' ⟨rfl, f', h1, h2, h3, h4⟩
    have e : ((List.range zs.length).map f').length = zs.length := by simp
    refine ⟨rfl, (List.range zs.length).map f', ?_, ?_, .inr ⟨g, cap, by rw [e], hg, ?_⟩, h4.below base (fun k e => by have e' : k = g := e; omega) hb⟩
    · have := sh_perm h2
      rwa [range_getD] at this
    · rw [List.pairwise_map]
      refine List.Pairwise.imp_of_mem ?_ List.pairwise_lt_range
      intro x y hx hy hlt
      exact h3 x y (Nat.zero_le _) hlt (List.mem_range.1 hy)
    · rw [e]
      refine ro_congr h1 fun i hi => ?_
      simp [List.getD_eq_getElem?_getD, List.getElem?_map, List.getElem?_range hi]
end Go.Proofs.Ytknmbecabgencaa
