/- Requests as plain data; a disk. -/
import Derived.Test.YtdmahmolhdbegaaMemN
namespace Go.Proofs.Ytdmahmolhdbegaa
open Go.RowKit Go.Maps
set_option linter.unusedVariables false
set_option maxRecDepth 100000
/-- A request: number, write, sector, frame, owner. -/
abbrev Rq := Int × Bool × Int × Int × Int
def rqV (r : Rq) : Value := .agg #[.int .u32 r.1, .bool r.2.1, .int .i64 r.2.2.1, .int .i64 r.2.2.2.1, .int .u8 r.2.2.2.2]
def zR : Rq := (0, false, 0, 0, 0)
def rqsCs : List Rq → List Value
  | [] => []
  | r :: l => .int .u32 r.1 :: .bool r.2.1 :: .int .i64 r.2.2.1 :: .int .i64 r.2.2.2.1 :: .int .u8 r.2.2.2.2 :: rqsCs l
theorem rqsCs_append (l r : List Rq) : rqsCs (l ++ r) = rqsCs l ++ rqsCs r := by
  induction l with
  | nil => rfl
  | cons i l ih => simp [rqsCs, ih]
theorem rqsCs_len (l : List Rq) : (rqsCs l).length = l.length * 5 := by
  induction l with
  | nil => rfl
  | cons i l ih => simp [rqsCs, ih]; omega
theorem rqsCs_at : ∀ (l : List Rq) (j : Nat) (i : Rq), l[j]? = some i → (rqsCs l)[j * 5]? = some (.int .u32 i.1) ∧ (rqsCs l)[j * 5 + 1]? = some (.bool i.2.1) ∧ (rqsCs l)[j * 5 + 2]? = some (.int .i64 i.2.2.1) ∧ (rqsCs l)[j * 5 + 3]? = some (.int .i64 i.2.2.2.1) ∧ (rqsCs l)[j * 5 + 4]? = some (.int .u8 i.2.2.2.2)
  | [], j, i, h => by cases h
  | x :: l, 0, i, h => by
    simp at h
    subst h
    simp [rqsCs]
  | x :: l, j + 1, i, h => by
    have := rqsCs_at l j i (by simpa using h)
    simp only [rqsCs]
    rw [show (j + 1) * 5 = j * 5 + 1 + 1 + 1 + 1 + 1 by omega]
    simpa using this
theorem rqsCs_one (l : List Rq) : ∀ u ∈ rqsCs l, u.oneCell' = true := by
  induction l with
  | nil => intro u h; cases h
  | cons i l ih =>
    intro u h
    simp only [rqsCs, List.mem_cons] at h
    rcases h with rfl | rfl | rfl | rfl | rfl | h
    · rfl
    · rfl
    · rfl
    · rfl
    · rfl
    · exact ih u h
theorem rqsCs_take (l : List Rq) (n : Nat) : rqsCs (l.take n) = (rqsCs l).take (n * 5) := by
  induction l generalizing n with
  | nil => simp [rqsCs]
  | cons i l ih =>
    cases n with
    | zero => simp [rqsCs]
    | succ n => simp [rqsCs, ih, show (n + 1) * 5 = n * 5 + 1 + 1 + 1 + 1 + 1 by omega]
theorem rqsCs_drop (l : List Rq) (n : Nat) : rqsCs (l.drop n) = (rqsCs l).drop (n * 5) := by
  induction l generalizing n with
  | nil => simp [rqsCs]
  | cons i l ih =>
    cases n with
    | zero => simp [rqsCs]
    | succ n => simp [rqsCs, ih, show (n + 1) * 5 = n * 5 + 1 + 1 + 1 + 1 + 1 by omega]
/-- A disk: its block, its sectors' bytes (a row with room), its requests. -/
structure Dk (B : Nat) (w : World) (db sb n : Nat) (S : List Int) (v : Value) (last : Int) (Q : List Rq) : Prop where
  blk : ∃ C, n ≤ C ∧ w.heap[db]? = some (.cells #[v, .int .u32 last, .slice (some ⟨sb, 0, none⟩) n C] 74)
  row : ∃ rest, w.heap[sb]? = some (.cells (S.map (Value.int .u8) ++ rest).toArray 82)
  len : S.length = n * 32
  own : w.ownsRow B 37 5 v Q.length (rqsCs Q)
  n1 : 1 ≤ n
  n64 : n ≤ 64
  few : Q.length ≤ 8
  ge : B ≤ db
  gs : B ≤ sb
  la : 0 ≤ last ∧ last ≤ 1000000
theorem Dk.lt {B : Nat} {w : World} {db sb n : Nat} {S : List Int} {v : Value} {last : Int} {Q : List Rq} (h : Dk B w db sb n S v last Q) : db < w.heap.size := by
  obtain ⟨C, _, e⟩ := h.blk
  exact (Array.getElem?_eq_some_iff.1 e).1
theorem Dk.lts {B : Nat} {w : World} {db sb n : Nat} {S : List Int} {v : Value} {last : Int} {Q : List Rq} (h : Dk B w db sb n S v last Q) : sb < w.heap.size := by
  obtain ⟨C, e⟩ := h.row
  exact (Array.getElem?_eq_some_iff.1 e).1
theorem Dk.ne {B : Nat} {w : World} {db sb n : Nat} {S : List Int} {v : Value} {last : Int} {Q : List Rq} (h : Dk B w db sb n S v last Q) : db ≠ sb := by
  intro e
  subst e
  obtain ⟨C, _, e1⟩ := h.blk
  obtain ⟨r, e2⟩ := h.row
  rw [e1] at e2
  injection e2 with e2
  injection e2 with _ e2
  exact absurd e2 (by decide)
theorem Dk.c {B : Nat} {w : World} {db sb n : Nat} {S : List Int} {v : Value} {last : Int} {Q : List Rq} (h : Dk B w db sb n S v last Q) : ∃ C : Nat, n ≤ C ∧ w.cell? ⟨db, 0, none⟩ = some v ∧ w.cell? ⟨db, 1, none⟩ = some (.int .u32 last) ∧ w.cell? ⟨db, 2, none⟩ = some (.slice (some ⟨sb, 0, none⟩) n C) := by
  obtain ⟨C, hC, e⟩ := h.blk
  exact ⟨C, hC, by rw [Lib.cell_of_heap e]; rfl, by rw [Lib.cell_of_heap e]; rfl, by rw [Lib.cell_of_heap e]; rfl⟩
theorem Dk.below {B : Nat} {w w' : World} {db sb n : Nat} {S : List Int} {v : Value} {last : Int} {Q : List Rq} (h : Dk B w db sb n S v last Q) (k : Below w.heap.size w w') : Dk B w' db sb n S v last Q := by
  obtain ⟨C, hC, e⟩ := h.blk
  obtain ⟨r, e2⟩ := h.row
  refine ⟨⟨C, hC, (k.block db h.lt).trans e⟩, ⟨r, (k.block sb h.lts).trans e2⟩, h.len, ⟨h.own.1, ?_⟩, h.n1, h.n64, h.few, h.ge, h.gs, h.la⟩
  rcases h.own.2 with h0 | ⟨g, cap, cur, h1, h2, h3, h4⟩
  · exact .inl h0
  · exact .inr ⟨g, cap, cur, h1, h2, (k.block g (Array.getElem?_eq_some_iff.1 h3).1).trans h3, h4⟩
theorem dthere_nil (i : Int) (w : World) : Calls Try.prog 24 #[.pointer none, .int .i64 i] w fun e w' => e = .returned (.int .i64 1) ∧ w' = w := by
  go_enter Try.func24, Try.ntmps24
  go_wp2
  go_ret
  exact ⟨rfl, rfl⟩
def thE (n : Nat) (i : Int) : Int := if 0 ≤ i ∧ i < n then 0 else 2
theorem dthere_any (B db sb n : Nat) (S : List Int) (v : Value) (last : Int) (Q : List Rq) (i : Int) (w : World) (h : Dk B w db sb n S v last Q) : Calls Try.prog 24 #[.pointer (some ⟨db, 0, none⟩), .int .i64 i] w fun e w' => e = .returned (.int .i64 (thE n i)) ∧ w' = w := by
  obtain ⟨C, hC, c0, c1, c2⟩ := h.c
  unfold thE
  by_cases h1 : i < 0
  · rw [if_neg (by omega)]
    go_enter Try.func24, Try.ntmps24
    go_wp2
    go_ret
    exact ⟨rfl, rfl⟩
  by_cases h2 : (n : Int) ≤ i
  · rw [if_neg (by omega)]
    go_enter Try.func24, Try.ntmps24
    go_wp2
    go_ret
    exact ⟨rfl, rfl⟩
  · rw [if_pos (by omega)]
    go_enter Try.func24, Try.ntmps24
    go_wp2
    go_ret
    exact ⟨rfl, rfl⟩
set_option maxHeartbeats 1000000 in
theorem ask_nil (r0 : Int) (r1 : Bool) (r2 r3 r4 : Int) (w : World) : Calls Try.prog 10 #[.pointer none, .agg #[.int .u32 r0, .bool r1, .int .i64 r2, .int .i64 r3, .int .u8 r4]] w fun e w' => e = .returned (.tuple #[.int .u32 0, .int .i64 1]) ∧ Below w.heap.size w w' := by
  have c1 := dthere_nil r2 (w.alloc (.cells #[.int .u32 r0, .bool r1, .int .i64 r2, .int .i64 r3, .int .u8 r4] 37))
  go_enter Try.func10, Try.ntmps10
  go_wp2_with fail
  refine c1.mono ?_
  rintro e W1 ⟨rfl, rfl⟩
  go_wp2
  go_ret2
  exact ⟨rfl, (Below.refl _ w).alloc (Nat.le_refl _) _⟩
set_option maxHeartbeats 1000000 in
theorem deliver_nil (d m : Option Addr) (i : Int) (w : World) (h : d = none ∨ m = none) : Calls Try.prog 12 #[.pointer d, .int .i64 i, .pointer m] w fun e w' => e = .returned (.tuple #[.agg #[.int .u32 0, .bool false, .int .i64 0, .int .i64 0, .int .u8 0], .int .i64 1]) ∧ Below w.heap.size w w' := by
  by_cases hd : d = none
  · subst hd
    clear h
    go_enter Try.func12, Try.ntmps12
    go_wp2
    refine bodyPost_ret (v := .tuple #[.agg #[.int .u32 0, .bool false, .int .i64 0, .int .i64 0, .int .u8 0], .int .i64 1]) (by simp [results, Try.results12, go_sem]) rfl ⟨rfl, (Below.refl _ w).alloc (Nat.le_refl _) _⟩
  · obtain rfl : m = none := h.resolve_left hd
    obtain ⟨a, rfl⟩ := Option.ne_none_iff_exists'.1 hd
    clear h hd
    go_enter Try.func12, Try.ntmps12
    go_wp2
    refine bodyPost_ret (v := .tuple #[.agg #[.int .u32 0, .bool false, .int .i64 0, .int .i64 0, .int .u8 0], .int .i64 1]) (by simp [results, Try.results12, go_sem]) rfl ⟨rfl, (Below.refl _ w).alloc (Nat.le_refl _) _⟩
theorem sector_nil (i : Int) (w : World) : Calls Try.prog 37 #[.pointer none, .int .i64 i] w fun e w' => e = .returned (.tuple #[.slice none 0 0, .int .i64 1]) ∧ w' = w := by
  have c1 := dthere_nil i w
  go_enter Try.func37, Try.ntmps37
  go_wp2_with fail
  refine c1.mono ?_
  rintro e W1 ⟨rfl, rfl⟩
  go_wp2
  go_ret2
  exact ⟨rfl, rfl⟩
theorem dset_nil (i : Int) (v : Value) (w : World) : Calls Try.prog 9 #[.pointer none, .int .i64 i, v] w fun e w' => e = .returned (.int .i64 1) ∧ w' = w := by
  have c1 := dthere_nil i w
  go_enter Try.func9, Try.ntmps9
  go_wp2_with fail
  refine c1.mono ?_
  rintro e W1 ⟨rfl, rfl⟩
  go_wp2
  go_ret
  exact ⟨rfl, rfl⟩
theorem cancel_nil (i : Int) (w : World) : Calls Try.prog 57 #[.pointer none, .int .i64 i] w fun e w' => e = .returned (.slice none 0 0) ∧ Below w.heap.size w w' := by
  go_enter Try.func57, Try.ntmps57
  go_wp2
  go_ret
  exact ⟨rfl, (Below.refl _ w).alloc (Nat.le_refl _) _⟩
theorem ddrop_nil (i : Int) (w : World) : Calls Try.prog 59 #[.pointer none, .int .u8 i] w fun e w' => e = .returned (.slice none 0 0) ∧ Below w.heap.size w w' := by
  go_enter Try.func59, Try.ntmps59
  go_wp2
  go_ret
  exact ⟨rfl, (Below.refl _ w).alloc (Nat.le_refl _) _⟩
theorem waiting_nil (w : World) : Calls Try.prog 44 #[.pointer none] w fun e w' => e = .returned (.slice none 0 0) ∧ w' = w := by
  go_enter Try.func44, Try.ntmps44
  go_wp2
  go_ret
  exact ⟨rfl, rfl⟩
theorem dsize_nil (w : World) : Calls Try.prog 46 #[.pointer none] w fun e w' => e = .returned (.int .i64 0) ∧ w' = w := by
  go_enter Try.func46, Try.ntmps46
  go_wp2
  go_ret
  exact ⟨rfl, rfl⟩
theorem dnew_bad (n : Int) (w : World) (h : n < 1 ∨ 64 < n) : Calls Try.prog 6 #[.int .i64 n] w fun e w' => e = .returned (.pointer none) ∧ w' = w := by
  by_cases h1 : n < 1
  · go_enter Try.func6, Try.ntmps6
    go_wp2
    go_ret
    exact ⟨rfl, rfl⟩
  · have h2 : 64 < n := by omega
    go_enter Try.func6, Try.ntmps6
    go_wp2
    go_ret
    exact ⟨rfl, rfl⟩
theorem infoC : (Try.prog.info? 82).map (fun i => (i.zero, i.size, i.bytes)) = some (some (.agg (List.replicate 32 (Value.int .u8 0)).toArray), 32, 32) := by kernel_rfl
theorem madeC_any (n : Nat) (hn : n ≤ 64) (W : World) : (Instr.makeSlice 69 (.int .i64 n) (.int .i64 n)).run Try.prog W = .ok (.slice (some ⟨W.heap.size, 0, none⟩) n n) (W.alloc (.cells ((List.replicate (n * 32) (0 : Int)).map (Value.int .u8)).toArray 82)) := by
  obtain ⟨i, hi, hz, hs, hb⟩ := info_parts infoC
  rw [run_make W 69 82 i _ Try.underlying69 hi hz .i64 .i64 n n (by omega) (Int.le_refl _) (by rw [hb]; omega) (by omega), hs]
  simp only [Int.toNat_natCast]
  have e : madeCells (Value.agg (List.replicate 32 (Value.int .u8 0)).toArray).cells (n * 32) = ((List.replicate (n * 32) (0 : Int)).map (Value.int .u8)).toArray := by
    apply Array.ext'
    show (madeCells (List.replicate 32 (Value.int .u8 0)).toArray (n * 32)).toList = _
    unfold madeCells
    rw [Array.toList_map, Array.toList_range, List.map_replicate]
    refine List.ext_getElem (by simp) fun j h1 h2 => ?_
    rw [List.getElem_map, List.getElem_range, List.getElem_replicate]
    have hj : j % 32 < 32 := Nat.mod_lt _ (by decide)
    have hz : (List.replicate 32 (Value.int .u8 0)).toArray.size = 32 := by simp
    rw [hz, getElem!_pos _ _ (by rw [hz]; exact hj), List.getElem_toArray, List.getElem_replicate]
  rw [e]
end Go.Proofs.Ytdmahmolhdbegaa
