/- The document's vm: Poke, whatever it is asked. -/
import Derived.Test.YtfmcoibpbcheiaaVrI
import Derived.Test.YtfmcoibpbcheiaaVrJ
namespace Go.Proofs.Ytfmcoibpbcheiaa
open Go.RowKit Go.Maps
set_option linter.unusedVariables false
set_option maxRecDepth 100000
theorem pcs_one (a : Nat) : pcs a 1 = 1 := by unfold pcs; omega
theorem gap_one (s : Vs) (p : Fin 6) (k : Nat) : gap s p k 1 = (s.pg p (k : Int)).isNone := by
  unfold gap
  simp
/-- What Poke comes to, page by page. -/
theorem poke_cases (N : Nat) (s : Vs) (pid addr b : Int) : (atE s pid addr ≠ 0 ∧ fillE N s pid addr 1 = atE s pid addr) ∨ ∃ (p : Fin 6) (a : Nat) (f : Int), pid = p.1 ∧ addr = (a : Int) ∧ a < 512 ∧ s.has p = true ∧ prc s pid = some p ∧ s.pg p ((a / 32 : Nat) : Int) = some f ∧ ((ndI s f = 1 ∧ zr N s = 0 ∧ fillE N s pid addr 1 = 4) ∨ (ndI s f ≤ zr N s ∧ fillE N s pid addr 1 = 0 ∧ fillS N s pid addr 1 (fun _ => b) = { alF N s p (a / 32) with L := wrL N (alF N s p (a / 32)) p a (fun _ => b) 1 })) := by
  rcases prc_cases s pid with ⟨h1, h2⟩ | ⟨p, h1, h3, h2⟩
  · refine .inl ?_
    have e1 : atE s pid addr = 5 := by unfold atE; rw [h1]
    have e2 : fillE N s pid addr 1 = 5 := by unfold fillE; rw [h1]
    rw [e1, e2]
    exact ⟨by omega, rfl⟩
  · cases ha : inA addr 1 with
    | false =>
      refine .inl ?_
      have e1 : atE s pid addr = 2 := by unfold atE; rw [h1]; simp only [ha, if_true]
      have e2 : fillE N s pid addr 1 = 2 := by unfold fillE; rw [h1]; simp only [ha, if_true]
      rw [e1, e2]
      exact ⟨by omega, rfl⟩
    | true =>
      obtain ⟨a, rfl, ha5⟩ := inA_yes ha
      cases hx : s.pg p ((a / 32 : Nat) : Int) with
      | none =>
        refine .inl ?_
        have e1 : atE s pid a = 10 := by unfold atE; rw [h1]; simp only [ha, Bool.true_eq_false, if_false, Int.toNat_natCast, hx, if_true]
        have e2 : fillE N s pid a 1 = 10 := by
          unfold fillE
          rw [h1]
          simp only [ha, Bool.true_eq_false, if_false, Int.toNat_natCast, pcs_one, gap_one, hx, Option.isNone_none, if_true]
          rw [if_neg (by omega : ¬ (1 : Nat) = 0)]
        rw [e1, e2]
        exact ⟨by omega, rfl⟩
      | some f =>
        refine .inr ⟨p, a, f, h3, rfl, ha5, h2, h1, hx, ?_⟩
        have en : ndT s p (a / 32) 1 = ndI s f := by
          show 0 + nd s p (a / 32 + 0) = _
          unfold nd
          rw [Nat.add_zero, hx, Int.zero_add]
          rfl
        have e2 : fillE N s pid a 1 = if (zr N s : Int) < ndI s f then 4 else 0 := by
          unfold fillE
          rw [h1]
          simp only [ha, Bool.true_eq_false, if_false, Int.toNat_natCast, pcs_one, gap_one, hx, Option.isNone_some, Bool.false_eq_true, en]
          rw [if_neg (by omega : ¬ (1 : Nat) = 0)]
        by_cases hz : (zr N s : Int) < ndI s f
        · rw [if_pos hz] at e2
          refine .inl ⟨?_, ?_, e2⟩
          · rcases nd_cases s f with ⟨n, _⟩ | ⟨n, _⟩ <;> omega
          · rcases nd_cases s f with ⟨n, _⟩ | ⟨n, _⟩ <;> omega
        · rw [if_neg hz] at e2
          refine .inr ⟨by omega, e2, ?_⟩
          unfold fillS
          rw [h1]
          simp only [Int.toNat_natCast, pcs_one]
          exact if_pos ⟨e2, by omega⟩
theorem rpoke_any (B : Nat) (o : Ro) (N : Nat) (s : Vs) (L : List Int) (V : Fin 6 → Nat → Int) (pid addr b : Int) (w : World) (h : Rb B w o N s L) (hF : Fr N s) (hV : Vw s.pg L V) (hL : L.length = 2048) (hcp : 0 ≤ s.cp ∧ s.cp ≤ 90000) :
    Calls Try.prog 52 #[.pointer (some ⟨o.b, 0, none⟩), .int .i64 pid, .int .i64 addr, .int .u8 b] w fun r w' => r = .returned (.int .i64 (fillE N s pid addr 1)) ∧ (∃ L', Rb B w' o N (fillS N s pid addr 1 (fun _ => b)) L' ∧ L'.length = 2048 ∧ Vw (fillS N s pid addr 1 (fun _ => b)).pg L' (fillV N s V pid addr 1 (fun _ => b))) ∧ Apart (XR o) w w' := by
  have hN := hF.hi
  have stay : fillE N s pid addr 1 ≠ 0 → fillS N s pid addr 1 (fun _ => b) = s ∧ fillV N s V pid addr 1 (fun _ => b) = V := fun he => ⟨fillS_err he, by
    unfold fillV
    split
    · rfl
    · rw [if_neg (fun x => he x.1)]⟩
  rcases poke_cases N s pid addr b with ⟨h1, h2⟩ | ⟨p, a, f, rfl, rfl, ha, hp, hprc, hk, hc⟩
  · refine (rpoke_err B o N s L pid addr b w h h1).mono ?_
    rintro r w' ⟨rfl, rfl⟩
    obtain ⟨e1, e2⟩ := stay (by rw [h2]; exact h1)
    rw [e1, e2, h2]
    exact ⟨rfl, ⟨L, h, hL, hV⟩, Apart.refl _ _⟩
  · have hb := hF.pgs p _ f hk
    have hd1 : a / 32 < 16 := by omega
    have hm32 : a % 32 < 32 := by omega
    have haa : a / 32 * 32 + a % 32 = a := by omega
    rcases hc with ⟨n1, n2, n3⟩ | ⟨n1, n2, n3⟩
    · have ho : ownB s f = false := by
        rcases nd_cases s f with ⟨m1, _⟩ | ⟨_, m2⟩
        · omega
        · exact m2
      refine (rpoke_space B o N s L p a f b w h hF hp ha hk ho n2).mono ?_
      rintro r w' ⟨rfl, hB⟩
      obtain ⟨e1, e2⟩ := stay (by rw [n3]; omega)
      rw [e1, e2, n3]
      exact ⟨rfl, ⟨L, h.below hB, hL, hV⟩, Apart.of_below hB⟩
    · have eV : fillV N s V p.1 a 1 (fun _ => b) = upV V p a b := by
        unfold fillV
        rw [hprc]
        simp only [Int.toNat_natCast]
        rw [if_pos ⟨n2, by omega⟩]
        rfl
      rw [n2, n3, eV]
      rcases nd_cases s f with ⟨m1, m2⟩ | ⟨m1, m2⟩
      · obtain ⟨q1, q2⟩ := (own_iff hF p (a / 32) f hk).1 m2
        have eF : alF N s p (a / 32) = s := by
          unfold alF
          rw [hk, Option.getD_some, if_pos m2]
        rw [eF]
        obtain ⟨g, rfl⟩ := Int.eq_ofNat_of_zero_le q1
        have hv := vw_write (b := b) hF hd1 hm32 hk q2 hL hV
        rw [haa] at hv
        refine (rpoke_own B o N s L p a g b w h hF hp ha hk m2).mono ?_
        rintro r w' ⟨rfl, k1, k2⟩
        exact ⟨rfl, ⟨_, k1.congr rfl rfl rfl, sbL_len hL g _ _ (by omega) hm32 hN, hv⟩, k2⟩
      · have hz : 1 ≤ zr N s := by omega
        have hx := nx_ok hF.n hz
        have hF' : Fr N { s with L := L } := ⟨hF.n, hF.lo, hF.hi, hF.len, hF.no, hF.pgs, hF.rf⟩
        have M : Mv0 N s p (a / 32) f (nx N s) := ⟨hF, hd1, hk, m2, hx⟩
        have M' : Mv0 N { s with L := L } p (a / 32) f (nx N s) := ⟨hF', hd1, hk, m2, ⟨hx.n, hx.lt, hx.z, hx.low⟩⟩
        have eF : alF N s p (a / 32) = mvS s p (a / 32) f (nx N s) := by
          unfold alF
          rw [hk, Option.getD_some, if_neg (by rw [m2]; simp)]
        rw [eF]
        have A := alF_ok hF hd1 hk (by unfold nd; rw [hk, Option.getD_some]; exact n1)
        rw [eF] at A
        have eG : alG N s p (a / 32) = nx N s := by
          unfold alG
          rw [hk, Option.getD_some, if_neg (by rw [m2]; simp)]
        have Apg := A.pg
        have Aown := A.own
        rw [eG] at Apg Aown
        have fin : ∀ L1 : List Int, L1.length = 2048 → MvL { s with L := L } N f (nx N s) L1 → (sbL N L1 (nx N s : Nat) (a % 32 : Nat) b).length = 2048 ∧ Vw (mvS s p (a / 32) f (nx N s)).pg (sbL N L1 (nx N s : Nat) (a % 32 : Nat) b) (upV V p a b) := fun L1 hl hm => by
          have v1 : Vw (mvS s p (a / 32) f (nx N s)).pg L1 V := M'.vw hV L1 hm
          have v2 := vw_write (b := b) M.fr2 hd1 hm32 Apg Aown hl v1
          rw [haa] at v2
          exact ⟨sbL_len hl _ _ _ hx.lt hm32 hN, v2⟩
        by_cases hf : f = -1
        · refine (rpoke_new B o N s L p a f b w h hF hp ha hk m2 hz hf).mono ?_
          rintro r w' ⟨rfl, k1, k2⟩
          obtain ⟨l1, l2⟩ := fin (zrL N L (nx N s : Nat)) (zrL_len hL _ hx.lt hN) (fun j i hj hi => by
            rw [zrL_at hL _ hx.lt hN j i hi]
            by_cases c : j = nx N s
            · rw [if_pos c, if_pos c, if_pos hf]
            · rw [if_neg c, if_neg c])
          exact ⟨rfl, ⟨_, k1.congr rfl rfl rfl, l1, l2⟩, k2⟩
        · obtain ⟨f1, f2, _, _⟩ := M.f2 hf
          refine (rpoke_cpy B o N s L p a f b w h hF hp ha hk m2 hz hf (by omega)).mono ?_
          rintro r w' ⟨rfl, k1, k2⟩
          have ef : ((f.toNat : Nat) : Int) = f := by omega
          obtain ⟨l1, l2⟩ := fin (cpL N L (nx N s : Nat) f) (by rw [← ef]; exact cpL_len hL _ f.toNat hx.lt (by omega) hN) (fun j i hj hi => by
            rw [← ef, cpL_at hL _ f.toNat hx.lt (by omega) hN j i hi]
            by_cases c : j = nx N s
            · rw [if_pos c, if_pos c, if_neg (by omega), Int.toNat_natCast]
            · rw [if_neg c, if_neg c])
          exact ⟨rfl, ⟨_, k1.congr rfl rfl rfl, l1, l2⟩, k2⟩
end Go.Proofs.Ytfmcoibpbcheiaa
