/- Wait as plain data; the document's Wait. -/
import Derived.Test.YtcnddmadmdgplaaPrS
namespace Go.Proofs.Ytcnddmadmdgplaa
open Go.RowKit Go.Maps
set_option linter.unusedVariables false
set_option maxRecDepth 100000
/-- The first that ended, with its status. -/
def fstZ (s : Pt) : List (Fin 6) → Option (Fin 6 × Int)
  | [] => none
  | x :: l => match s x with
    | .zom _ n => some (x, n)
    | _ => fstZ s l
/-- Nobody of them ended. -/
def noZ (s : Pt) (l : List (Fin 6)) : Prop := ∀ x ∈ l, zomb (s x) = false
theorem fstZ_no (s : Pt) : ∀ (l r : List (Fin 6)), noZ s l → fstZ s (l ++ r) = fstZ s r
  | [], r, h => rfl
  | x :: l, r, h => by
    have hx := h x (List.mem_cons_self)
    have ih := fstZ_no s l r (fun y hy => h y (List.mem_cons_of_mem _ hy))
    show (match s x with
      | .zom _ n => some (x, n)
      | _ => fstZ s (l ++ r)) = _
    cases e : s x with
    | no => exact ih
    | run p => exact ih
    | zom p n => rw [e] at hx; cases hx
theorem noZ_snoc {s : Pt} {l : List (Fin 6)} {x : Fin 6} (h : noZ s l) (hx : zomb (s x) = false) : noZ s (l ++ [x]) := fun y hy => by
  rcases List.mem_append.1 hy with hy | hy
  · exact h y hy
  · rw [List.mem_singleton] at hy
    rw [hy]; exact hx
def wtX (s : Pt) (p : Fin 6) : Int × Int × Int × Pt := match fstZ s (chs s p) with
  | some (x, n) => ((x.1 : Int), n, 0, upd s x .no)
  | none => (0, 0, if chs s p = [] then 3 else 12, s)
theorem wtX_no (s : Pt) (p : Fin 6) (h : noZ s (chs s p)) : wtX s p = (0, 0, if chs s p = [] then 3 else 12, s) := by
  unfold wtX
  have := fstZ_no s (chs s p) [] h
  rw [List.append_nil] at this
  rw [this]
  rfl
theorem wtX_yes (s : Pt) (p x q : Fin 6) (n : Int) (pre : List (Fin 6)) (h : noZ s pre) (hx : s x = .zom q n) (hp : pre ++ [x] <+: chs s p) : wtX s p = ((x.1 : Int), n, 0, upd s x .no) := by
  unfold wtX
  obtain ⟨r, hr⟩ := hp
  rw [← hr, List.append_assoc, fstZ_no s pre _ h]
  have : fstZ s ([x] ++ r) = some (x, n) := by
    show (match s x with
      | .zom _ n => some (x, n)
      | _ => fstZ s r) = _
    rw [hx]
  rw [this]
theorem zomb_of (x : Pr) (h : zomb x = true) : ∃ q n, x = .zom q n := by cases x <;> simp_all [zomb]
theorem stI_2 (x : Pr) : stI x = 2 ↔ zomb x = true := by cases x <;> simp [stI, zomb]
theorem rwait_err (b : Nat) (s : Pt) (pid : Int) (w : World) (h : RpC w b s) (hp : runs (gt s pid) = false) : Calls Try.prog 41 #[.pointer (some ⟨b, 0, none⟩), .int .i64 pid] w fun r w' => r = .returned (.tuple #[.int .i64 0, .int .i64 0, .int .i64 5]) ∧ w' = w := by
  have cR := rruns_any b s pid w h
  have he : ruE (gt s pid) = 5 := by cases hx : gt s pid <;> rw [hx] at hp <;> first | rfl | cases hp
  rw [he] at cR
  clear h hp he
  go_enter Try.func41, Try.ntmps41
  go_wp2_with fail
  refine cR.mono ?_
  rintro r W ⟨rfl, rfl⟩
  clear cR
  go_wp2
  go_ret3
  exact ⟨rfl, rfl⟩
/-- A slice of numbers that can be read. -/
def Ints (w : World) (v : Value) (L : List Nat) : Prop := ∃ a cap, v = .slice a L.length cap ∧ ∀ (j n : Nat), L[j]? = some n → ∃ g off, a = some ⟨g, off, none⟩ ∧ w.cell? ⟨g, off + j, none⟩ = some (.int .i64 n)
theorem Ints.of_own {B : Nat} {w : World} {v : Value} {L : List (Fin 6)} (h : w.ownsRow B 3 1 v L.length (L.map slI)) : Ints w v (L.map (·.1)) ∧ ∀ g, v.ownBlock = some g → B ≤ g := by
  rcases h.2 with ⟨rfl, h0⟩ | ⟨g, cap, cur, rfl, hge, hb, hk, hm, _, htk⟩
  · obtain rfl : L = [] := List.eq_nil_of_length_eq_zero h0
    exact ⟨⟨none, 0, rfl, fun j i h => by cases h⟩, fun g e => by cases e⟩
  · refine ⟨⟨_, cap, by rw [List.length_map], fun j n hn => ⟨g, 0, rfl, ?_⟩⟩, fun g' e => by cases e; exact hge⟩
    rw [List.getElem?_map] at hn
    obtain ⟨x, hx, rfl⟩ := Option.map_eq_some_iff.1 hn
    have hj : j < L.length := (List.getElem?_eq_some_iff.1 hx).1
    have : (L.map slI)[j]? = some (slI x) := by rw [List.getElem?_map, hx]; rfl
    rw [← htk, List.getElem?_take, if_pos (by omega)] at this
    simp only [Nat.zero_add, World.cell?, hb]
    simpa [slI] using this
theorem Ints.stay {w w' : World} {v : Value} {L : List Nat} {X : Nat → Prop} (h : Ints w v L) (k : Apart X w w') (hx : ∀ g, v.ownBlock = some g → ¬ X g) : Ints w' v L := by
  obtain ⟨a, cap, rfl, hcell⟩ := h
  refine ⟨a, cap, rfl, fun j m hj => ?_⟩
  obtain ⟨g, off, rfl, c0⟩ := hcell j m hj
  have hg : g < w.heap.size := World.block_lt_of_cell? w _ c0
  refine ⟨g, off, rfl, ?_⟩
  rw [World.cell?_of_block (w := w) (k.block g hg (hx g rfl))]
  exact c0
theorem Ints.below {w w' : World} {v : Value} {L : List Nat} (h : Ints w v L) (k : Below w.heap.size w w') : Ints w' v L := h.stay (X := fun _ => False) (Apart.of_below k) (fun _ _ => id)
set_option maxHeartbeats 4000000 in
theorem rwait_any (B b : Nat) (s : Pt) (p : Fin 6) (w : World) (h : Rp B w b s) (hp : runs (s p) = true) : Calls Try.prog 41 #[.pointer (some ⟨b, 0, none⟩), .int .i64 p.1] w fun r w' => r = .returned (.tuple #[.int .i64 (wtX s p).1, .int .i64 (wtX s p).2.1, .int .i64 (wtX s p).2.2.1]) ∧ RS B w w' b (wtX s p).2.2.2 := by
  have cR := rruns_any b s p.1 w h.cs
  rw [gt_in] at cR
  have he : ruE (s p) = 0 := by cases hx : s p <;> rw [hx] at hp <;> first | rfl | cases hp
  rw [he] at cR
  have cC := rchildren_any b s p.1 w h.cs
  have hne : s p ≠ .no := fun e => by rw [e] at hp; cases hp
  rw [chA_in s p hne] at cC
  have HT := Hid3.mk h
  have H1 := Hid3.mk (wtX_no s p)
  have H2 := Hid3.mk (fun x q n pre => wtX_yes s p x q n pre)
  have hle := thL_len6 (qCh s p) 6
  have HW : Hid3 (∃ Z, Z = wtX s p) := ⟨_, rfl⟩
  obtain ⟨⟨x0, n0, e0, s0⟩, hZ⟩ := HW.out
  rw [← hZ] at H1 H2 ⊢
  unfold chs at cC H1 H2
  generalize thL (qCh s p) 6 = L at *
  clear h hp he hne HW hZ
  simp only
  go_enter Try.func41, Try.ntmps41
  go_wp2_with fail
  refine cR.mono ?_
  rintro r W ⟨rfl, hW⟩
  rw [hW]
  clear cR hW
  go_wp2_with fail
  refine cC.mono ?_
  rintro r W1 ⟨v, rfl, hown, hB1⟩
  obtain ⟨hI, hge⟩ := Ints.of_own hown
  obtain ⟨a, cap, rfl⟩ := slice_of hown
  have HI := Hid3.mk hI
  have HG := Hid3.mk hge
  have HT1 := Hid3.mk (HT.out.below hB1)
  have HB1 := Hid3.mk hB1
  clear cC hown hI hge hB1
  by_cases hL0 : L = []
  · subst hL0
    have hz := H1.out (fun x hx => by cases hx)
    rw [if_pos rfl] at hz
    simp only [Prod.mk.injEq] at hz
    obtain ⟨rfl, rfl, rfl, rfl⟩ := hz
    simp only [List.length_nil]
    go_wp2
    go_ret3
    exact ⟨rfl, RS.same HT.out HB1.out⟩
  · have hln : L.length ≠ 0 := fun e => hL0 (List.eq_nil_of_length_eq_zero e)
    have hlb : ((L.length : Int) == 0) = false := by rw [beq_eq_false_iff_ne]; omega
    go_wp2_with fail
    go_loopw [9] (fun i wr => ∃ k : Nat, k ≤ L.length ∧ i = .int .i64 k ∧ Hid3 (Below W1.heap.size W1 wr) ∧ Hid3 (noZ s (L.take k))) (fun i _ => L.length - (intOf i).toNat)
    case atStart => exact ⟨0, by omega, rfl, ⟨Below.refl _ _⟩, ⟨fun x hx => by cases hx⟩⟩
    case round =>
      obtain ⟨k, hk, rfl, HB, HZ⟩ := hrel
      by_cases hkl : k < L.length
      · have hkz : (k : Int) < (L.length : Int) := by omega
        have hT2 := HT1.out.below HB.out
        obtain ⟨_, _, e1, hc⟩ := HI.out.below HB.out
        injection e1 with e2 e3 e4
        obtain ⟨g, off, e5, c1⟩ := hc k L[k].1 (by rw [List.getElem?_map, List.getElem?_eq_getElem hkl]; rfl)
        rw [← e2] at e5
        subst e5
        have c0 := hT2.cs.st L[k]
        have hx6 : ((L[k].1 : Nat) : Int) < 6 := by have := L[k].2; omega
        have htk : L.take (k + 1) = L.take k ++ [L[k]] := List.take_succ_eq_append_getElem hkl
        have hpr : L.take (k + 1) <+: L := List.take_prefix _ _
        rw [htk] at hpr
        generalize L[k] = x at *
        by_cases hz : zomb (s x) = true
        · obtain ⟨q, n, hx⟩ := zomb_of _ hz
          have hw := H2.out x q n (L.take k) HZ.out hx hpr
          simp only [Prod.mk.injEq] at hw
          obtain ⟨rfl, rfl, rfl, rfl⟩ := hw
          have c2 := hT2.cs.su x
          have c3 := hT2.cs.ra x
          have f0 := hT2.cs.f
          have hbl := hT2.cs.l
          rw [hx] at c0 c2 c3
          simp only [stI, suI, raI] at c0 c2 c3
          have hne1 : g ≠ b := fun e => by
            have h1 := HG.out g rfl
            have h2 := HT.out.c.lt
            omega
          have hS := RS.slot hT2 x .no
          simp only [stI, suI, raI] at hS
          have HS := Hid3.mk (RS.pre HB1.out (RS.pre HB.out hS))
          have f1 := f0 (x.1 * 3)
          have f2 := f0 (x.1 * 3 + 1)
          have f3 := f0 (x.1 * 3 + 2)
          clear hS f0 hT2 hc e2 e3 e4 htk hz hx hpr
          go_wp2_with fail
          go_region
          go_wp2_with fail
          go_region
          go_wp2_with fail
          go_region
          go_wp2
          go_ret3
          exact ⟨rfl, HS.out.post ((((Below.refl _ _).drew).drew).drew)⟩
        · have hb : (stI (s x) == 2) = false := by rw [beq_eq_false_iff_ne]; exact fun e => hz ((stI_2 _).1 e)
          have HZ2 : Hid3 (noZ s (L.take (k + 1))) := ⟨by rw [htk]; exact noZ_snoc HZ.out (by simpa using hz)⟩
          generalize stI (s x) = y at *
          clear hT2 hc e2 e3 e4 htk hz hpr
          go_wp2_with fail
          go_region
          go_wp2
          go_roundw
          case rel => exact ⟨k + 1, by omega, by go_num, ⟨HB.out.drew⟩, HZ2⟩
          case measure => simp [intOf]; omega
      · have hkz : ¬ (k : Int) < (L.length : Int) := by omega
        obtain rfl : k = L.length := by omega
        have hz := H1.out (by have := HZ.out; rw [List.take_length] at this; exact this)
        rw [if_neg hL0] at hz
        simp only [Prod.mk.injEq] at hz
        obtain ⟨rfl, rfl, rfl, rfl⟩ := hz
        have HS := Hid3.mk (RS.pre HB1.out (RS.pre HB.out (RS.same (HT1.out.below HB.out) (Below.refl _ _))))
        go_wp2
        go_ret3
        exact ⟨rfl, HS.out⟩
end Go.Proofs.Ytcnddmadmdgplaa
