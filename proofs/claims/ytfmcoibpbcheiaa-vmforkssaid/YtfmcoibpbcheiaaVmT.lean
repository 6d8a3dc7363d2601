/- The program's vm: Fill and Poke, whatever they are asked. -/
import Derived.Test.YtfmcoibpbcheiaaVmS
namespace Go.Proofs.Ytfmcoibpbcheiaa
open Go.RowKit Go.Maps
set_option linter.unusedVariables false
set_option maxRecDepth 100000
/-- The process of a number that has a space. -/
def prc (s : Vs) (pid : Int) : Option (Fin 6) := if h : 0 ≤ pid ∧ pid < 6 then (if s.has ⟨pid.toNat, by omega⟩ = true then some ⟨pid.toNat, by omega⟩ else none) else none
theorem prc_cases (s : Vs) (pid : Int) : (prc s pid = none ∧ NoP s pid) ∨ ∃ p : Fin 6, prc s pid = some p ∧ pid = (p.1 : Int) ∧ s.has p = true := by
  unfold prc
  by_cases h : 0 ≤ pid ∧ pid < 6
  · rw [dif_pos h]
    cases hh : s.has ⟨pid.toNat, by omega⟩ with
    | true => exact .inr ⟨⟨pid.toNat, by omega⟩, by rw [if_pos rfl], by show pid = (pid.toNat : Int); omega, hh⟩
    | false => exact .inl ⟨by rw [if_neg (by simp)], .inr (.inr ⟨⟨pid.toNat, by omega⟩, by show pid = (pid.toNat : Int); omega, hh⟩)⟩
  · rw [dif_neg h]
    exact .inl ⟨rfl, by
      by_cases c : pid < 0
      · exact .inl c
      · exact .inr (.inl (by omega))⟩
def inA (addr : Int) (m : Nat) : Bool := decide (0 ≤ addr) && decide (addr < 512) && decide ((m : Int) ≤ 512 - addr)
def pcs (a m : Nat) : Nat := (a + m - 1) / 32 - a / 32 + 1
def gap (s : Vs) (p : Fin 6) (first c : Nat) : Bool := (List.range c).any fun j => (s.pg p ((first + j : Nat) : Int)).isNone
theorem gap_no {s : Vs} {p : Fin 6} {first c : Nat} (h : gap s p first c = false) : ∀ j, j < c → s.pg p ((first + j : Nat) : Int) ≠ none := fun j hj e => by
  unfold gap at h
  rw [List.any_eq_false] at h
  exact h j (List.mem_range.2 hj) (by rw [e]; rfl)
theorem gap_yes {s : Vs} {p : Fin 6} {first : Nat} : ∀ {c : Nat}, gap s p first c = true → ∃ j, j < c ∧ s.pg p ((first + j : Nat) : Int) = none ∧ ∀ i, i < j → s.pg p ((first + i : Nat) : Int) ≠ none
  | 0, h => by simp [gap] at h
  | c + 1, h => by
    cases hc : gap s p first c with
    | true =>
      obtain ⟨j, h1, h2, h3⟩ := gap_yes hc
      exact ⟨j, by omega, h2, h3⟩
    | false =>
      have h1 := gap_no hc
      refine ⟨c, by omega, ?_, h1⟩
      unfold gap at h
      obtain ⟨j, hj, hn⟩ := List.any_eq_true.1 h
      have hj2 := List.mem_range.1 hj
      by_cases e : j = c
      · rw [← e]
        exact Option.isNone_iff_eq_none.1 hn
      · exact absurd (Option.isNone_iff_eq_none.1 hn) (h1 j (by omega))
def fillE (N : Nat) (s : Vs) (pid addr : Int) (m : Nat) : Int :=
  match prc s pid with
  | none => 5
  | some p => if inA addr m = false then 2 else if m = 0 then 0 else if gap s p (addr.toNat / 32) (pcs addr.toNat m) = true then 10 else if (zr N s : Int) < ndT s p (addr.toNat / 32) (pcs addr.toNat m) then 4 else 0
def fillS (N : Nat) (s : Vs) (pid addr : Int) (m : Nat) (b : Nat → Int) : Vs :=
  match prc s pid with
  | none => s
  | some p => if fillE N s pid addr m = 0 ∧ m ≠ 0 then { alN N s p (addr.toNat / 32) (pcs addr.toNat m) with L := wrL N (alN N s p (addr.toNat / 32) (pcs addr.toNat m)) p addr.toNat b m } else s
theorem fillS_err {N : Nat} {s : Vs} {pid addr : Int} {m : Nat} {b : Nat → Int} (h : fillE N s pid addr m ≠ 0) : fillS N s pid addr m b = s := by
  unfold fillS
  split
  · rfl
  · rw [if_neg (fun c => h c.1)]
set_option maxHeartbeats 4000000 in
theorem needs_bad (B : Nat) (l : Lo) (s : Vs) (N : Nat) (p : Fin 6) (first c : Nat) (w : World) (h : Vb B w l s) (hF : Fr N s) (hp : s.has p = true) (hc : first + c ≤ 16) (h1 : 1 ≤ c) (hn : gap s p first c = true) : Calls Try.prog 41 #[.pointer (some ⟨l.b, 0, none⟩), .map (some (l.r p)), .int .i64 (first : Nat), .int .i64 ((first + c - 1 : Nat) : Int)] w fun r w' => r = .returned (.tuple #[.int .i64 0, .int .i64 10]) ∧ w' = w := by
  obtain ⟨e, he, hen, hel⟩ := gap_yes hn
  have HR : Hid3 (∀ d, d < e → ∃ f, (Instr.lookup 60 (.map (some (l.r p))) (.int .i64 ((first + d : Nat) : Int)) true).run Try.prog w = .ok (.tuple #[.int .i64 f, .bool true]) w ∧ Calls Try.prog 69 #[.pointer (some ⟨l.b, 6, none⟩), .int .i64 f] w (fun r w' => r = .returned (.bool (ownB s f)) ∧ w' = w)) := ⟨fun d hd => by
    have hL := lookP (h.sp p hp).2 ((first + d : Nat) : Int)
    cases e : s.pg p ((first + d : Nat) : Int) with
    | none => exact absurd e (hel d hd)
    | some f =>
      rw [e] at hL
      have hb := (hF.pgs p _ f e).2
      have hN := hF.hi
      exact ⟨f, hL, own_any B l s f (by omega) w h⟩⟩
  have HE : Hid3 ((Instr.lookup 60 (.map (some (l.r p))) (.int .i64 ((first + e : Nat) : Int)) true).run Try.prog w = .ok (.tuple #[.int .i64 0, .bool false]) w) := ⟨by
    have hL := lookP (h.sp p hp).2 ((first + e : Nat) : Int)
    rw [hen] at hL
    exact hL⟩
  obtain ⟨la, hla⟩ : ∃ la : Int, la = ((first + c - 1 : Nat) : Int) := ⟨_, rfl⟩
  rw [← hla]
  have HLA := Hid3.mk hla
  generalize l.r p = r at *
  clear h hF hla hn hen hel
  go_enter Try.func41, Try.ntmps41
  go_wp2
  go_loopw [10, 11] (fun x i W => W = w ∧ ∃ d : Nat, d ≤ e ∧ i = .int .i64 ((first + d : Nat) : Int) ∧ ∃ x0 : Int, x = .int .i64 x0 ∧ 0 ≤ x0 ∧ x0 ≤ d) (fun _ i _ => 20 - (intOf i).toNat)
  case atStart => exact ⟨rfl, 0, Nat.zero_le _, by simp, 0, rfl, by omega, by omega⟩
  case round =>
    obtain ⟨rfl, d, hd, rfl, x0, rfl, hx0, hx1⟩ := hrel
    have hle : ((first + d : Nat) : Int) ≤ la := by rw [HLA.out]; omega
    by_cases hde : d < e
    · obtain ⟨f, hL, cO⟩ := HR.out d hde
      have hw1 : IntKind.i64.wrap (((first + d : Nat) : Int) + 1) = ((first + (d + 1) : Nat) : Int) := by rw [IntKind.wrap_i64]; omega
      have hw2 : IntKind.i64.wrap (x0 + 1) = x0 + 1 := by rw [IntKind.wrap_i64]; omega
      have hm1 : ((first + (d + 1) : Nat) : Int).toNat = first + d + 1 := by omega
      have hm2 : ((first + d : Nat) : Int).toNat = first + d := by omega
      generalize hkk : ((first + d : Nat) : Int) = kk at *
      generalize hk1 : ((first + (d + 1) : Nat) : Int) = k1 at *
      have HK1 := Hid3.mk hk1
      have HM := Hid3.mk (And.intro hm1 hm2)
      clear hkk hk1 hm1 hm2
      rcases nd_cases s f with ⟨n1, n2⟩ | ⟨n1, n2⟩
      · rw [n2] at cO
        clear n1 n2
        go_wp2_with (refine wpList_look rfl 60 _ _ rfl _ _ _ rfl rfl hL ?_)
        refine cO.mono ?_
        rintro r W ⟨rfl, rfl⟩
        go_wp2
        go_roundw
        case rel => exact ⟨by first | rfl | trivial, d + 1, by omega, by rw [HK1.out], x0, by first | rfl | trivial, hx0, by omega⟩
        case measure =>
          have := HM.out
          simp only [intOf]
          omega
      · rw [n2] at cO
        clear n1 n2
        go_wp2_with (refine wpList_look rfl 60 _ _ rfl _ _ _ rfl rfl hL ?_)
        refine cO.mono ?_
        rintro r W ⟨rfl, rfl⟩
        go_wp2
        go_roundw
        case rel => exact ⟨by first | rfl | trivial, d + 1, by omega, by rw [HK1.out], x0 + 1, by first | rfl | trivial, by omega, by omega⟩
        case measure =>
          have := HM.out
          simp only [intOf]
          omega
    · have e0 : d = e := by omega
      subst e0
      have hL := HE.out
      generalize ((first + d : Nat) : Int) = kk at *
      go_wp2_with (refine wpList_look rfl 60 _ _ rfl _ _ _ rfl rfl hL ?_)
      go_ret2
      exact ⟨rfl, rfl⟩
set_option maxHeartbeats 2000000 in
theorem fill_noent (B : Nat) (l : Lo) (s : Vs) (pid addr : Int) (v : Value) (w : World) (h : Vb B w l s) (hp : NoP s pid) : Calls Try.prog 15 #[.pointer (some ⟨l.b, 0, none⟩), .int .i64 pid, .int .i64 addr, v] w fun r w' => r = .returned (.int .i64 5) ∧ w' = w := by
  have cO := of_bad B l s pid w h hp
  clear h hp
  go_enter Try.func15, Try.ntmps15
  go_wp2_with fail
  refine cO.mono ?_
  rintro r0 W ⟨rfl, hW⟩
  rw [hW]
  clear cO hW
  go_wp2
  go_ret
  exact ⟨rfl, rfl⟩
set_option maxHeartbeats 2000000 in
theorem fill_range (B : Nat) (l : Lo) (s : Vs) (p : Fin 6) (addr : Int) (x : Option Addr) (m cap : Nat) (w : World) (h : Vb B w l s) (hp : s.has p = true) (ha : inA addr m = false) : Calls Try.prog 15 #[.pointer (some ⟨l.b, 0, none⟩), .int .i64 p.1, .int .i64 addr, .slice x m cap] w fun r w' => r = .returned (.int .i64 2) ∧ w' = w := by
  have cO := of_ok B l s p w h hp
  have cP := addressed_any addr m w
  have ha' : (decide (0 ≤ addr) && decide (addr < 512) && decide ((m : Int) ≤ 512 - addr)) = false := ha
  rw [ha'] at cP
  clear h hp ha ha'
  go_enter Try.func15, Try.ntmps15
  go_wp2_with fail
  refine cO.mono ?_
  rintro r0 W ⟨rfl, hW⟩
  rw [hW]
  clear cO hW
  go_wp2_with fail
  refine cP.mono ?_
  rintro r0 W ⟨rfl, hW⟩
  rw [hW]
  clear cP hW
  go_wp2
  go_ret
  exact ⟨rfl, rfl⟩
set_option maxHeartbeats 2000000 in
theorem fill_empty (B : Nat) (l : Lo) (s : Vs) (p : Fin 6) (addr : Int) (x : Option Addr) (cap : Nat) (w : World) (h : Vb B w l s) (hp : s.has p = true) (ha : inA addr 0 = true) : Calls Try.prog 15 #[.pointer (some ⟨l.b, 0, none⟩), .int .i64 p.1, .int .i64 addr, .slice x 0 cap] w fun r w' => r = .returned (.int .i64 0) ∧ w' = w := by
  have cO := of_ok B l s p w h hp
  have cP := addressed_any addr (0 : Nat) w
  have ha' : (decide (0 ≤ addr) && decide (addr < 512) && decide (((0 : Nat) : Int) ≤ 512 - addr)) = true := ha
  rw [ha'] at cP
  have e0 : ((0 : Nat) : Int) = 0 := rfl
  rw [e0] at cP
  clear h hp ha ha'
  go_enter Try.func15, Try.ntmps15
  go_wp2_with fail
  refine cO.mono ?_
  rintro r0 W ⟨rfl, hW⟩
  rw [hW]
  clear cO hW
  go_wp2_with fail
  refine cP.mono ?_
  rintro r0 W ⟨rfl, hW⟩
  rw [hW]
  clear cP hW
  go_wp2
  go_ret
  exact ⟨rfl, rfl⟩
theorem pcs_ar {a m : Nat} (hm : 1 ≤ m) (ha : a + m ≤ 512) : a / 32 + pcs a m ≤ 16 ∧ 1 ≤ pcs a m ∧ a / 32 + pcs a m - 1 = (a + m - 1) / 32 := by
  unfold pcs
  omega
theorem ar_fill (a m : Nat) (hm : 1 ≤ m) (ha : a + m ≤ 512) : IntKind.i64.wrap ((a : Int) + (m : Int)) = ((a + m : Nat) : Int) ∧ IntKind.i64.wrap (((a + m : Nat) : Int) - 1) = ((a + m - 1 : Nat) : Int) ∧ ¬ (m : Int) = 0 ∧ ((m : Int) == 0) = false := by
  refine ⟨by rw [IntKind.wrap_i64]; omega, by rw [IntKind.wrap_i64]; omega, by omega, ?_⟩
  have : ¬ (m : Int) = 0 := by omega
  simpa using this
set_option maxHeartbeats 2000000 in
theorem fill_fault (B : Nat) (l : Lo) (s : Vs) (N : Nat) (p : Fin 6) (a m cap : Nat) (x : Option Addr) (w : World) (h : Vb B w l s) (hF : Fr N s) (hp : s.has p = true) (hm : 1 ≤ m) (ha : a + m ≤ 512) (hg : gap s p (a / 32) (pcs a m) = true) : Calls Try.prog 15 #[.pointer (some ⟨l.b, 0, none⟩), .int .i64 p.1, .int .i64 a, .slice x m cap] w fun r w' => r = .returned (.int .i64 10) ∧ w' = w := by
  obtain ⟨z1, z2, z3⟩ := pcs_ar hm ha
  have cO := of_ok B l s p w h hp
  have cP := addressed_any a m w
  rw [decide_eq_true (by omega : (0 : Int) ≤ (a : Int)), decide_eq_true (by omega : (a : Int) < 512), decide_eq_true (by omega : (m : Int) ≤ 512 - (a : Int))] at cP
  have cN := needs_bad B l s N p (a / 32) (pcs a m) w h hF hp z1 z2 hg
  rw [z3] at cN
  obtain ⟨hs1, hs2, hm0, hm00⟩ := ar_fill a m hm ha
  have hz1 : a < 512 := by omega
  have hz2 : a + m - 1 < 512 := by omega
  obtain ⟨q2, _, q1, _, _, _, _, q8, _⟩ := arith512 a hz1
  obtain ⟨v2, _, v1, _, _, _, _, v8, _⟩ := arith512 (a + m - 1) hz2
  clear h hF hp hg z1 z2 z3 hz1 hz2 ha hm
  generalize (((a + m - 1) / 32 : Nat) : Int) = la at *
  generalize ((a + m - 1 : Nat) : Int) = am1 at *
  generalize ((a + m : Nat) : Int) = am at *
  generalize ((a / 32 : Nat) : Int) = f0 at *
  generalize (a : Int) = aa at *
  generalize l.r p = r at *
  go_enter Try.func15, Try.ntmps15
  go_wp2_with fail
  refine cO.mono ?_
  rintro r0 W ⟨rfl, hW⟩
  rw [hW]
  clear cO hW
  go_wp2_with fail
  refine cP.mono ?_
  rintro r0 W ⟨rfl, hW⟩
  rw [hW]
  clear cP hW
  go_wp2_with fail
  refine cN.mono ?_
  rintro r0 W ⟨rfl, hW⟩
  rw [hW]
  clear cN hW
  go_wp2
  go_ret
  exact ⟨rfl, rfl⟩
set_option maxHeartbeats 2000000 in
theorem fill_space (B : Nat) (l : Lo) (s : Vs) (N : Nat) (p : Fin 6) (a m cap : Nat) (x : Option Addr) (w : World) (h : Vb B w l s) (hF : Fr N s) (hp : s.has p = true) (hm : 1 ≤ m) (ha : a + m ≤ 512) (hg : gap s p (a / 32) (pcs a m) = false) (hz : (zr N s : Int) < ndT s p (a / 32) (pcs a m)) : Calls Try.prog 15 #[.pointer (some ⟨l.b, 0, none⟩), .int .i64 p.1, .int .i64 a, .slice x m cap] w fun r w' => r = .returned (.int .i64 4) ∧ Below w.heap.size w w' := by
  obtain ⟨z1, z2, z3⟩ := pcs_ar hm ha
  have cO := of_ok B l s p w h hp
  have cP := addressed_any a m w
  rw [decide_eq_true (by omega : (0 : Int) ≤ (a : Int)), decide_eq_true (by omega : (a : Int) < 512), decide_eq_true (by omega : (m : Int) ≤ 512 - (a : Int))] at cP
  have cN := needs_all B l s N p (a / 32) (pcs a m) w h hF hp z1 z2 (gap_no hg)
  rw [z3] at cN
  have cF := left_any B l s N hF.n w h
  have hlf : (zrs (fun k => s.rf.getD k 0) N : Int) < ndT s p (a / 32) (pcs a m) := hz
  generalize (zrs (fun k => s.rf.getD k 0) N : Int) = z at *
  generalize ndT s p (a / 32) (pcs a m) = nn at *
  obtain ⟨hs1, hs2, hm0, hm00⟩ := ar_fill a m hm ha
  have hz1 : a < 512 := by omega
  have hz2 : a + m - 1 < 512 := by omega
  obtain ⟨q2, _, q1, _, _, _, _, q8, _⟩ := arith512 a hz1
  obtain ⟨v2, _, v1, _, _, _, _, v8, _⟩ := arith512 (a + m - 1) hz2
  clear h hF hp hg z1 z2 z3 hz1 hz2 ha hm hz
  generalize (((a + m - 1) / 32 : Nat) : Int) = la at *
  generalize ((a + m - 1 : Nat) : Int) = am1 at *
  generalize ((a + m : Nat) : Int) = am at *
  generalize ((a / 32 : Nat) : Int) = f0 at *
  generalize (a : Int) = aa at *
  generalize l.r p = r at *
  go_enter Try.func15, Try.ntmps15
  go_wp2_with fail
  refine cO.mono ?_
  rintro r0 W ⟨rfl, hW⟩
  rw [hW]
  clear cO hW
  go_wp2_with fail
  refine cP.mono ?_
  rintro r0 W ⟨rfl, hW⟩
  rw [hW]
  clear cP hW
  go_wp2_with fail
  refine cN.mono ?_
  rintro r0 W ⟨rfl, hW⟩
  rw [hW]
  clear cN hW
  go_wp2_with fail
  refine cF.mono ?_
  rintro r0 W2 ⟨rfl, hB2⟩
  have HB := Hid3.mk hB2
  clear cF hB2
  go_wp2
  go_ret
  exact ⟨rfl, HB.out⟩
/-- Bytes at a place. -/
def Bts (w : World) (x : Option Addr) (m : Nat) (b : Nat → Int) (X : Nat → Prop) : Prop := m = 0 ∨ ∃ gb off, x = some ⟨gb, off, none⟩ ∧ gb < w.heap.size ∧ ¬ X gb ∧ ∀ i, i < m → w.cell? ⟨gb, off + i, none⟩ = some (.int .u8 (b i))
theorem vfill_any (B : Nat) (l : Lo) (s : Vs) (N : Nat) (pid addr : Int) (m cap : Nat) (x : Option Addr) (b : Nat → Int) (w : World) (h : Vb B w l s) (hF : Fr N s) (hcp : 0 ≤ s.cp ∧ s.cp ≤ 90000) (hb : Bts w x m b (XV l s)) :
    Calls Try.prog 15 #[.pointer (some ⟨l.b, 0, none⟩), .int .i64 pid, .int .i64 addr, .slice x m cap] w fun r w' => r = .returned (.int .i64 (fillE N s pid addr m)) ∧ Vb B w' l (fillS N s pid addr m b) ∧ Apart (XV l s) w w' := by
  rcases prc_cases s pid with ⟨h1, h2⟩ | ⟨p, h1, rfl, h2⟩
  · refine (fill_noent B l s pid addr _ w h h2).mono ?_
    rintro r w' ⟨rfl, rfl⟩
    have e : fillE N s pid addr m = 5 := by unfold fillE; rw [h1]
    rw [fillS_err (by rw [e]; omega), e]
    exact ⟨rfl, h, Apart.refl _ _⟩
  · cases ha : inA addr m with
    | false =>
      refine (fill_range B l s p addr x m cap w h h2 ha).mono ?_
      rintro r w' ⟨rfl, rfl⟩
      have e : fillE N s p.1 addr m = 2 := by unfold fillE; rw [h1]; simp only [ha, if_true]
      rw [fillS_err (by rw [e]; omega), e]
      exact ⟨rfl, h, Apart.refl _ _⟩
    | true =>
      by_cases hm : m = 0
      · subst hm
        refine (fill_empty B l s p addr x cap w h h2 ha).mono ?_
        rintro r w' ⟨rfl, rfl⟩
        have e : fillE N s p.1 addr 0 = 0 := by unfold fillE; rw [h1]; simp only [ha, Bool.true_eq_false, if_false, if_true]
        have e2 : fillS N s p.1 addr 0 b = s := by unfold fillS; rw [h1]; exact if_neg (fun c => c.2 rfl)
        rw [e2, e]
        exact ⟨rfl, h, Apart.refl _ _⟩
      · have ha' : 0 ≤ addr ∧ addr < 512 ∧ (m : Int) ≤ 512 - addr := by
          have : (decide (0 ≤ addr) && decide (addr < 512) && decide ((m : Int) ≤ 512 - addr)) = true := ha
          simp only [Bool.and_eq_true, decide_eq_true_eq] at this
          exact ⟨this.1.1, this.1.2, this.2⟩
        obtain ⟨a, rfl⟩ := Int.eq_ofNat_of_zero_le ha'.1
        have hm1 : 1 ≤ m := by omega
        have ham : a + m ≤ 512 := by omega
        cases hg : gap s p (a / 32) (pcs a m) with
        | true =>
          refine (fill_fault B l s N p a m cap x w h hF h2 hm1 ham hg).mono ?_
          rintro r w' ⟨rfl, rfl⟩
          have e : fillE N s p.1 a m = 10 := by unfold fillE; rw [h1]; simp only [ha, Bool.true_eq_false, if_false, if_neg hm, Int.toNat_natCast, hg, if_true]
          rw [fillS_err (by rw [e]; omega), e]
          exact ⟨rfl, h, Apart.refl _ _⟩
        | false =>
          by_cases hz : (zr N s : Int) < ndT s p (a / 32) (pcs a m)
          · refine (fill_space B l s N p a m cap x w h hF h2 hm1 ham hg hz).mono ?_
            rintro r w' ⟨rfl, hB⟩
            have e : fillE N s p.1 a m = 4 := by unfold fillE; rw [h1]; simp only [ha, Bool.true_eq_false, if_false, if_neg hm, Int.toNat_natCast, hg, Bool.false_eq_true, if_pos hz]
            rw [fillS_err (by rw [e]; omega), e]
            exact ⟨rfl, h.below hB, Apart.of_below hB⟩
          · obtain ⟨gb, off, rfl, hgb, hgx, cb⟩ := hb.resolve_left hm
            have e : fillE N s p.1 a m = 0 := by unfold fillE; rw [h1]; simp only [ha, Bool.true_eq_false, if_false, if_neg hm, Int.toNat_natCast, hg, Bool.false_eq_true, if_neg hz]
            have e2 : fillS N s p.1 a m b = { alN N s p (a / 32) (pcs a m) with L := wrL N (alN N s p (a / 32) (pcs a m)) p a b m } := by
              unfold fillS
              rw [h1]
              simp only [Int.toNat_natCast]
              exact if_pos ⟨e, hm⟩
            rw [e, e2]
            exact fill_all B l s N p a m (pcs a m) gb off cap b w h hF h2 hm1 ham rfl (gap_no hg) (by omega) hcp cb hgb hgx
set_option maxHeartbeats 2000000 in
theorem vpoke_any (B : Nat) (l : Lo) (s : Vs) (N : Nat) (pid addr b : Int) (w : World) (h : Vb B w l s) (hF : Fr N s) (hcp : 0 ≤ s.cp ∧ s.cp ≤ 90000) :
    Calls Try.prog 23 #[.pointer (some ⟨l.b, 0, none⟩), .int .i64 pid, .int .i64 addr, .int .u8 b] w fun r w' => r = .returned (.int .i64 (fillE N s pid addr 1)) ∧ Vb B w' l (fillS N s pid addr 1 (fun _ => b)) ∧ Apart (XV l s) w w' := by
  have hX := h.lts
  have HF : Hid3 (∀ W gb, Below w.heap.size w W → w.heap.size ≤ gb → gb < W.heap.size → W.cell? ⟨gb, 0, none⟩ = some (.int .u8 b) → Calls Try.prog 15 #[.pointer (some ⟨l.b, 0, none⟩), .int .i64 pid, .int .i64 addr, .slice (some ⟨gb, 0, none⟩) 1 1] W fun r w' => r = .returned (.int .i64 (fillE N s pid addr 1)) ∧ Vb B w' l (fillS N s pid addr 1 (fun _ => b)) ∧ Apart (XV l s) W w') := ⟨fun W gb k h1 h2 h3 => vfill_any B l s N pid addr 1 1 (some ⟨gb, 0, none⟩) (fun _ => b) W (h.below k) hF hcp (.inr ⟨gb, 0, rfl, h2, fun e => absurd (hX _ e) (by omega), fun i hi => by
    obtain rfl : i = 0 := by omega
    exact h3⟩)⟩
  clear h hF hcp hX
  go_enter Try.func23, Try.ntmps23
  go_wp2_with fail
  refine (HF.out _ _ (below_new w _) (Nat.le_refl _) (by simp) (by simp [go_sem])).mono ?_
  rintro r W ⟨rfl, hV, hA⟩
  have HV := Hid3.mk hV
  have HA := Hid3.mk hA
  clear hV hA
  go_wp2
  go_ret
  exact ⟨rfl, HV.out, (Apart.of_below (below_new w _)).trans HA.out⟩
end Go.Proofs.Ytfmcoibpbcheiaa
