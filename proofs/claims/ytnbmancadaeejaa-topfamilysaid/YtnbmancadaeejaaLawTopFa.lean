/- TopFamily: the walk. -/
import Derived.Test.YtnbmancadaeejaaPrF
namespace Go.Proofs.Ytnbmancadaeejaa
open Go.RowKit Go.Maps
set_option linter.unusedVariables false
set_option maxRecDepth 100000
/-- So many children were made; so many were waited for; those above b ended. -/
def fam (how : Nat → Int) (n a b : Nat) : Pt := fun j => if j.1 = 0 then .run 0 else if j.1 ≤ a then .no else if n < j.1 then .no else if b < j.1 then .zom 0 (how j.1) else .run 0
theorem fam_0 (how : Nat → Int) (n a b : Nat) : fam how n a b 0 = .run 0 := if_pos rfl
theorem fam_new (how : Nat → Int) : fam how 0 0 0 = pt0 := by
  funext j
  unfold fam pt0
  by_cases h : j = 0
  · subst h; rfl
  · have : j.1 ≠ 0 := fun e => h (Fin.ext e)
    rw [if_neg this, if_neg (by omega), if_pos (by omega), if_neg h]
theorem fam_fork (how : Nat → Int) (i : Nat) (hi : i + 1 < 6) : forkS (fam how i 0 i) 0 ⟨i + 1, hi⟩ = fam how (i + 1) 0 (i + 1) := by
  funext j
  unfold forkS upd
  by_cases h : j = ⟨i + 1, hi⟩
  · subst h
    rw [if_pos rfl]
    unfold fam
    rw [if_neg (by simp), if_neg (by simp), if_neg (by simp), if_neg (by simp)]
  · have hne : j.1 ≠ i + 1 := fun e => h (Fin.ext e)
    rw [if_neg h]
    unfold fam
    repeat' split
    all_goals first | rfl | (exfalso; omega)
theorem fam_there (how : Nat → Int) (i : Nat) (j : Fin 6) (h : j.1 < i + 1) : fam how i 0 i j ≠ .no := by
  unfold fam
  by_cases h0 : j.1 = 0
  · rw [if_pos h0]; exact fun e => by cases e
  · rw [if_neg h0, if_neg (by omega), if_neg (by omega), if_neg (by omega)]
    exact fun e => by cases e
theorem fam_none (how : Nat → Int) (i : Nat) (hi : i + 1 < 6) : fam how i 0 i ⟨i + 1, hi⟩ = .no := by
  unfold fam
  rw [if_neg (by simp), if_neg (by simp), if_pos (by simp)]
theorem fam_run (how : Nat → Int) (n i : Nat) (h1 : 1 ≤ i) (hn : i ≤ n) (h6 : i < 6) : fam how n 0 i ⟨i, h6⟩ = .run 0 := by
  unfold fam
  rw [if_neg (by show ¬ i = 0; omega), if_neg (by show ¬ i ≤ 0; omega), if_neg (by show ¬ n < i; omega), if_neg (by simp)]
theorem fam_pa (how : Nat → Int) (n a b : Nat) (j : Fin 6) : paI (fam how n a b j) = 0 ∨ paI (fam how n a b j) = -1 := by
  unfold fam
  split
  · exact .inl rfl
  · split
    · exact .inr rfl
    · split
      · exact .inr rfl
      · split
        · exact .inl rfl
        · exact .inl rfl
theorem fam_exit (how : Nat → Int) (n i : Nat) (h1 : 1 ≤ i) (hn : i ≤ n) (h6 : i < 6) : exitS (fam how n 0 i) ⟨i, h6⟩ 0 (how i) = fam how n 0 (i - 1) := by
  funext j
  unfold exitS
  by_cases h : j = ⟨i, h6⟩
  · subst h
    rw [if_pos rfl]
    unfold fam
    rw [if_neg (by show ¬ i = 0; omega), if_neg (by show ¬ i ≤ 0; omega), if_neg (by show ¬ n < i; omega), if_pos (by show i - 1 < i; omega)]
  · have hne : j.1 ≠ i := fun e => h (Fin.ext e)
    have hq : qCh (fam how n 0 i) ⟨i, h6⟩ j = false := by
      have : paI (fam how n 0 i j) ≠ ((⟨i, h6⟩ : Fin 6).1 : Int) := by
        show paI (fam how n 0 i j) ≠ (i : Int)
        rcases fam_pa how n 0 i j with e | e <;> rw [e] <;> omega
      simp only [qCh, decide_eq_false this, Bool.and_false]
    rw [if_neg h, hq]
    simp only [Bool.false_eq_true, if_false]
    unfold fam
    repeat' split
    all_goals first | rfl | (exfalso; omega)
theorem thL_nil (q : Fin 6 → Bool) (n : Nat) (hn : n ≤ 6) (h : ∀ j : Fin 6, j.1 < n → q j = false) : thL q n = [] := by
  rw [List.eq_nil_iff_forall_not_mem]
  intro i hi
  rw [thL_mem q n hn] at hi
  rw [h i hi.1] at hi
  cases hi.2
theorem fam_zom (how : Nat → Int) (n i : Nat) (hn : i + 1 ≤ n) (h6 : i + 1 < 6) : fam how n i 0 ⟨i + 1, h6⟩ = .zom 0 (how (i + 1)) := by
  unfold fam
  rw [if_neg (by simp), if_neg (by simp), if_neg (by show ¬ n < i + 1; omega), if_pos (by simp)]
theorem fam_wait (how : Nat → Int) (n i : Nat) (hn : i + 1 ≤ n) (h6 : i + 1 < 6) : wtX (fam how n i 0) 0 = (((i + 1 : Nat) : Int), how (i + 1), 0, fam how n (i + 1) 0) := by
  have hz := fam_zom how n i hn h6
  have h1 : thL (qCh (fam how n i 0) 0) (i + 1) = [] := thL_nil _ _ (by omega) (fun j hj => by
    by_cases h0 : j = 0
    · subst h0; simp [qCh]
    · have hj0 : j.1 ≠ 0 := fun e => h0 (Fin.ext e)
      have : fam how n i 0 j = .no := by
        unfold fam
        rw [if_neg hj0, if_pos (by omega)]
      simp [qCh, this, paI])
  have h2 : thL (qCh (fam how n i 0) 0) (i + 2) = [⟨i + 1, h6⟩] := by
    have hq : qCh (fam how n i 0) 0 ⟨i + 1, h6⟩ = true := by
      have hne : (⟨i + 1, h6⟩ : Fin 6) ≠ 0 := fun e => by have := congrArg Fin.val e; simp at this
      simp [qCh, hz, paI, hne]
    rw [thL_snoc _ (i + 1) h6, h1, hq]
    rfl
  have hp : [] ++ [(⟨i + 1, h6⟩ : Fin 6)] <+: chs (fam how n i 0) 0 := by
    have := thL_pre (qCh (fam how n i 0) 0) (i + 2) 6 (by omega)
    rw [h2] at this
    exact this
  rw [wtX_yes (fam how n i 0) 0 ⟨i + 1, h6⟩ 0 (how (i + 1)) [] (fun x hx => by cases hx) hz hp]
  have he : upd (fam how n i 0) ⟨i + 1, h6⟩ .no = fam how n (i + 1) 0 := by
    funext j
    unfold upd
    by_cases h : j = ⟨i + 1, h6⟩
    · subst h
      rw [if_pos rfl]
      unfold fam
      rw [if_neg (by simp), if_pos (by simp)]
    · have hne : j.1 ≠ i + 1 := fun e => h (Fin.ext e)
      rw [if_neg h]
      unfold fam
      repeat' split
      all_goals first | rfl | (exfalso; omega)
  rw [he]
theorem fam_last (how : Nat → Int) (n : Nat) (j : Fin 6) (hj : j ≠ 0) : fam how n n 0 j = .no := by
  have hj0 : j.1 ≠ 0 := fun e => hj (Fin.ext e)
  unfold fam
  rw [if_neg hj0]
  by_cases h : j.1 ≤ n
  · rw [if_pos h]
  · rw [if_neg h, if_pos (by omega)]
theorem fam_done (how : Nat → Int) (n : Nat) : wtX (fam how n n 0) 0 = (0, 0, 3, fam how n n 0) := by
  have h1 : chs (fam how n n 0) 0 = [] := thL_nil _ _ (by omega) (fun j _ => by
    by_cases h0 : j = 0
    · subst h0; simp [qCh]
    · simp [qCh, fam_last how n j h0, paI])
  rw [wtX_no _ _ (by rw [h1]; exact fun x hx => by cases hx), h1]
  rfl
theorem fam_running (how : Nat → Int) (n : Nat) : thL (fun i => runs (fam how n n 0 i)) 6 = [0] := by
  have : (fun i => runs (fam how n n 0 i)) = (fun i : Fin 6 => decide (i = 0)) := by
    funext i
    by_cases h : i = 0
    · subst h; rw [fam_0]; rfl
    · rw [fam_last how n i h, decide_eq_false h]; rfl
  rw [this]
  decide +kernel
/-- The table above a world; the box of how they end. -/
structure Fa (w W : World) (b hb : Nat) (how : Nat → Int) (s : Pt) : Prop where
  t : Tp w.heap.size W b s
  h : ∀ j : Nat, j < 5 → W.cell? ⟨hb, j, none⟩ = some (.int .u8 (how (j + 1)))
  bl : Below w.heap.size w W
  ne : b ≠ hb
theorem Fa.step {w W W' : World} {b hb : Nat} {how : Nat → Int} {s s' : Pt} (h : Fa w W b hb how s) (k : TS w.heap.size W W' b s') : Fa w W' b hb how s' :=
  ⟨k.t, fun j hj => (World.cell?_of_block (w := W) (k.ap.block hb (World.block_lt_of_cell? W _ (h.h j hj)) (fun e => h.ne e.symm))).trans (h.h j hj), h.bl.trans (k.ap.below w.heap.size (fun i e => e ▸ h.t.g) h.bl.size), h.ne⟩
set_option maxHeartbeats 4000000 in
theorem family_law (x0 y1 y2 y3 y4 y5 : Nat) (h0 : x0 ≤ 255) (l1 : y1 ≤ 255) (l2 : y2 ≤ 255) (l3 : y3 ≤ 255) (l4 : y4 ≤ 255) (l5 : y5 ≤ 255) (w : World) : Calls Try.prog 3 #[.int .u8 x0, .agg #[.int .u8 y1, .int .u8 y2, .int .u8 y3, .int .u8 y4, .int .u8 y5]] w fun r w' => r = .returned (.bool true) ∧ Below w.heap.size w w' := by
  obtain ⟨how, hhow⟩ : ∃ how : Nat → Int, how = fun j => if j = 1 then (y1 : Int) else if j = 2 then (y2 : Int) else if j = 3 then (y3 : Int) else if j = 4 then (y4 : Int) else (y5 : Int) := ⟨_, rfl⟩
  have HB255 : Hid3 (∀ j, 0 ≤ how j ∧ how j ≤ 255) := ⟨fun j => by
    rw [hhow]
    dsimp only
    constructor <;> (repeat' split) <;> omega⟩
  have hbx : (w.alloc (.cells #[.int .u8 y1, .int .u8 y2, .int .u8 y3, .int .u8 y4, .int .u8 y5] 22)).heap[w.heap.size]? = some (.cells #[.int .u8 y1, .int .u8 y2, .int .u8 y3, .int .u8 y4, .int .u8 y5] 22 (0, 0)) := heap_alloc_new w _
  have hcells : ∀ j : Nat, j < 5 → (w.alloc (.cells #[.int .u8 y1, .int .u8 y2, .int .u8 y3, .int .u8 y4, .int .u8 y5] 22)).cell? ⟨w.heap.size, j, none⟩ = some (.int .u8 (how (j + 1))) := fun j hj => by
    rw [Lib.cell_of_heap hbx, hhow]
    match j, hj with
    | 0, _ => rfl
    | 1, _ => rfl
    | 2, _ => rfl
    | 3, _ => rfl
    | 4, _ => rfl
  have cN := new_any (w.alloc (.cells #[.int .u8 y1, .int .u8 y2, .int .u8 y3, .int .u8 y4, .int .u8 y5] 22))
  have HC := Hid3.mk hcells
  obtain ⟨n, hn⟩ : ∃ n : Nat, n = x0 % 6 := ⟨_, rfl⟩
  have hn5 : n ≤ 5 := by omega
  have hnz : (x0 : Int) % 6 = (n : Int) := by omega
  clear hhow hbx hcells hn
  go_enter Try.func3, Try.ntmps3
  go_wp2_with fail
  refine cN.mono ?_
  rintro r W0 ⟨rfl, hT, hB0⟩
  have HF0 : Hid3 (Fa w W0 (w.alloc (.cells #[.int .u8 y1, .int .u8 y2, .int .u8 y3, .int .u8 y4, .int .u8 y5] 22)).heap.size w.heap.size how (fam how 0 0 0)) := ⟨⟨by rw [fam_new]; exact ⟨by simp, hT.c⟩, fun j hj => (hB0.cell (World.block_lt_of_cell? _ _ (HC.out j hj))).trans (HC.out j hj), (below_new w _).trans (hB0.mono (by simp)), by simp⟩⟩
  have hN1 : (n : Int) ≤ 5 := by omega
  clear cN hT hB0 HC
  generalize (w.alloc (.cells #[.int .u8 y1, .int .u8 y2, .int .u8 y3, .int .u8 y4, .int .u8 y5] 22)).heap.size = tb at *
  go_wp2_with fail
  rw [hnz]
  clear hnz
  go_loopw [7] (fun i wr => ∃ k : Nat, k ≤ n ∧ i = .int .i64 ((k : Int) + 1) ∧ Hid3 (Fa w wr tb w.heap.size how (fam how k 0 k))) (fun i _ => 7 - (intOf i).toNat)
  case atStart => exact ⟨0, Nat.zero_le _, by go_num, HF0⟩
  case round =>
    obtain ⟨k, hk, rfl, HF⟩ := hrel
    clear HF0
    by_cases hkn : k < n
    · have hkz : (k : Int) + 1 ≤ (n : Int) := by omega
      have h6 : k + 1 < 6 := by omega
      have c1 := fork_any w.heap.size tb (fam how k 0 k) 0 wr HF.out.t (by rw [fam_0]; rfl) (k + 1) (by omega) (fun j hj => fam_there how k j hj) (fun h => fam_none how k h) ((k : Int) + 1) 0 (fam how (k + 1) 0 (k + 1)) (fun h => ⟨by omega, rfl, (fam_fork how k h).symm⟩) (fun e => absurd h6 e)
      have c1' : Calls Try.prog 5 #[.pointer (some ⟨tb, 0, none⟩), .int .i64 0] wr fun r w' => r = .returned (.tuple #[.int .i64 ((k : Int) + 1), .int .i64 0]) ∧ TS w.heap.size wr w' tb (fam how (k + 1) 0 (k + 1)) := c1
      obtain ⟨kk, hkk⟩ : ∃ kk : Int, kk = (k : Int) + 1 := ⟨_, rfl⟩
      have HKK := Hid3.mk hkk
      rw [← hkk] at c1' hkz ⊢
      have hk7 : kk ≤ 5 := by omega
      have hk8 : 0 ≤ kk := by omega
      have hkk2 : (kk != kk) = false := by simp
      clear hkk c1
      go_wp2_with fail
      refine c1'.mono ?_
      rintro r V ⟨rfl, hs⟩
      have HF2 := Hid3.mk (HF.out.step hs)
      clear c1' hs
      go_wp2
      go_roundw
      case rel => exact ⟨k + 1, by omega, by rw [HKK.out]; go_num, HF2⟩
      case measure =>
        have := HKK.out
        simp [intOf]
        omega
    · have hkz : ¬ (k : Int) + 1 ≤ (n : Int) := by omega
      have hkn' : k = n := by omega
      rw [hkn'] at HF
      go_wp2_with fail
      go_loopw [10] (fun i wr => ∃ b : Nat, b ≤ n ∧ i = .int .i64 b ∧ Hid3 (Fa w wr tb w.heap.size how (fam how n 0 b))) (fun i _ => (intOf i).toNat)
      case atStart => exact ⟨n, Nat.le_refl _, rfl, HF⟩
      case round =>
        obtain ⟨b, hb1, rfl, HG⟩ := hrel
        clear HF
        by_cases hb0 : 0 < b
        · have hbz : (0 : Int) < (b : Int) := by omega
          have h6 : b < 6 := by omega
          obtain ⟨j, rfl⟩ : ∃ j, b = j + 1 := ⟨b - 1, by omega⟩
          have c0 := HG.out.h j (by omega)
          have c2 := exit_ok w.heap.size tb (fam how n 0 (j + 1)) ⟨j + 1, h6⟩ 0 (how (j + 1)) wr HG.out.t (fun e => by have := congrArg Fin.val e; simp at this) (fam_run how n (j + 1) (by omega) hb1 h6)
          rw [fam_exit how n (j + 1) (by omega) hb1 h6] at c2
          have h255 := HB255.out (j + 1)
          generalize how (j + 1) = hj at *
          have hjw : IntKind.i64.wrap ((((j + 1 : Nat) : Int)) - 1) = (j : Int) := by rw [IntKind.wrap_i64]; omega
          have hj1 : (((j + 1 : Nat) : Int)) - 1 = (j : Int) := by omega
          have hj5 : (j : Int) < 5 := by omega
          obtain ⟨bz, hbzz⟩ : ∃ bz : Int, bz = ((j + 1 : Nat) : Int) := ⟨_, rfl⟩
          have HBZ := Hid3.mk hbzz
          have c2' : Calls Try.prog 6 #[.pointer (some ⟨tb, 0, none⟩), .int .i64 bz, .int .i64 hj] wr fun r w' => r = .returned (.int .i64 0) ∧ TS w.heap.size wr w' tb (fam how n 0 (j + 1 - 1)) := by rw [hbzz]; exact c2
          rw [← hbzz] at hjw hj1 hbz ⊢
          clear c2 hbzz
          go_wp2_with fail
          refine c2'.mono ?_
          rintro r V ⟨rfl, hs⟩
          have HG2 : Hid3 (Fa w V tb w.heap.size how (fam how n 0 j)) := ⟨HG.out.step hs⟩
          clear c2' hs c0
          go_wp2
          go_roundw
          case rel => exact ⟨j, by omega, by go_num, HG2⟩
          case measure =>
            have := HBZ.out
            simp [intOf]
            omega
        · have hbz : ¬ (0 : Int) < (b : Int) := by omega
          obtain rfl : b = 0 := by omega
          go_wp2_with fail
          go_loopw [11] (fun i wr => ∃ k : Nat, k ≤ n ∧ i = .int .i64 ((k : Int) + 1) ∧ Hid3 (Fa w wr tb w.heap.size how (fam how n k 0))) (fun i _ => 7 - (intOf i).toNat)
          case atStart => exact ⟨0, Nat.zero_le _, by go_num, HG⟩
          case round =>
            obtain ⟨k, hk, rfl, HF⟩ := hrel
            clear HG
            by_cases hkn : k < n
            · have hkz : (k : Int) + 1 ≤ (n : Int) := by omega
              have h6 : k + 1 < 6 := by omega
              have c1 := wait_any w.heap.size tb (fam how n k 0) 0 wr HF.out.t (by rw [fam_0]; rfl)
              rw [fam_wait how n k (by omega) h6] at c1
              have h255 := HB255.out (k + 1)
              have HC4 : Hid3 (∀ W s, Fa w W tb w.heap.size how s → W.cell? ⟨w.heap.size, k, none⟩ = some (.int .u8 (how (k + 1)))) := ⟨fun W s h => h.h k (by omega)⟩
              obtain ⟨kk, hkk⟩ : ∃ kk : Int, kk = (k : Int) + 1 := ⟨_, rfl⟩
              have HKK := Hid3.mk hkk
              obtain ⟨hj, hhj⟩ : ∃ hj : Int, hj = how (k + 1) := ⟨_, rfl⟩
              have c1' : Calls Try.prog 7 #[.pointer (some ⟨tb, 0, none⟩), .int .i64 0] wr fun r w' => r = .returned (.tuple #[.int .i64 kk, .int .i64 hj, .int .i64 0]) ∧ TS w.heap.size wr w' tb (fam how n (k + 1) 0) := by
                rw [hkk, hhj]
                exact c1
              rw [← hhj] at h255 HC4
              rw [← hkk] at hkz ⊢
              have hk7 : kk ≤ 5 := by omega
              have hk8 : 1 ≤ kk := by omega
              have hkk2 : (kk != kk) = false := by simp
              have hjj : (hj != hj) = false := by simp
              have hj1 : kk - 1 = (k : Int) := by omega
              have hjw : IntKind.i64.wrap (kk - 1) = (k : Int) := by rw [IntKind.wrap_i64]; omega
              have hk5 : (k : Int) < 5 := by omega
              clear hkk c1 hhj
              go_wp2_with fail
              refine c1'.mono ?_
              rintro r V ⟨rfl, hs⟩
              have HF2 := Hid3.mk (HF.out.step hs)
              have c4 := HC4.out V _ HF2.out
              clear c1' hs
              go_wp2
              go_roundw
              case rel => exact ⟨k + 1, by omega, by rw [HKK.out]; go_num, HF2⟩
              case measure =>
                have := HKK.out
                simp [intOf]
                omega
            · have hkz : ¬ (k : Int) + 1 ≤ (n : Int) := by omega
              have hkn' : k = n := by omega
              rw [hkn'] at HF
              have c1 := wait_any w.heap.size tb (fam how n n 0) 0 wr HF.out.t (by rw [fam_0]; rfl)
              rw [fam_done how n] at c1
              have c1' : Calls Try.prog 7 #[.pointer (some ⟨tb, 0, none⟩), .int .i64 0] wr fun r w' => r = .returned (.tuple #[.int .i64 0, .int .i64 0, .int .i64 3]) ∧ TS w.heap.size wr w' tb (fam how n n 0) := c1
              clear c1
              go_wp2_with fail
              refine c1'.mono ?_
              rintro r V ⟨rfl, hs⟩
              have HF2 := Hid3.mk (HF.out.step hs)
              have c2 := running_any w.heap.size tb (fam how n n 0) V HF2.out.t
              rw [fam_running] at c2
              clear c1' hs
              go_wp2_with fail
              refine c2.mono ?_
              rintro r V2 ⟨v, rfl, hown, hb2⟩
              obtain ⟨a, cap, rfl⟩ := slice_of hown
              have HB2 := Hid3.mk (HF2.out.bl.trans (hb2.mono HF2.out.bl.size))
              clear c2 hown hb2
              simp only [List.length_cons, List.length_nil]
              go_wp2
              go_ret
              exact ⟨rfl, HB2.out⟩
end Go.Proofs.Ytnbmancadaeejaa
