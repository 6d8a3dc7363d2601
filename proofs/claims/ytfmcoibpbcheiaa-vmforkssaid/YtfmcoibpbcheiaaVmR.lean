/- The program's vm: needs of many pages. -/
import Derived.Test.YtfmcoibpbcheiaaVmQ
namespace Go.Proofs.Ytfmcoibpbcheiaa
open Go.RowKit Go.Maps
set_option linter.unusedVariables false
set_option maxRecDepth 100000
theorem alone_al {B : Nat} {l : Lo} {N : Nat} {s : Vs} (h : Fr N s) {p : Fin 6} {k : Nat} {f : Int} (hk : k < 16) (hp : s.pg p k = some f) (hz : nd s p k ≤ zr N s) (hc : 0 ≤ s.cp ∧ s.cp ≤ 100000) :
    Al B l s f (alG N s p k) (if ownB s f = true then s else alS s f (nx N s)) ∧ { (if ownB s f = true then s else alS s f (nx N s)) with pg := upF (if ownB s f = true then s else alS s f (nx N s)).pg p (upI ((if ownB s f = true then s else alS s f (nx N s)).pg p) (k : Int) (some (alG N s p k : Int))) } = alF N s p k := by
  have hb := (h.pgs p k f hp).2
  have hN := h.hi
  unfold alF alG
  unfold nd at hz
  rw [hp, Option.getD_some] at hz ⊢
  rcases nd_cases s f with ⟨h1, h2⟩ | ⟨h1, h2⟩
  · obtain ⟨h3, h4⟩ := (own_iff h p k f hp).1 h2
    have e : ((f.toNat : Nat) : Int) = f := by omega
    simp only [if_pos h2]
    refine ⟨⟨fun W hW => ?_, rfl, rfl, rfl⟩, ?_⟩
    · refine (alone_own B l s f (by omega) h2 W hW).mono ?_
      rintro r w' ⟨rfl, rfl⟩
      exact ⟨by rw [e], hW, Apart.refl _ _⟩
    · have e2 : upF s.pg p (upI (s.pg p) (k : Int) (some ((f.toNat : Nat) : Int))) = s.pg := by
        funext q
        by_cases c : q = p
        · subst c
          rw [upF_same]
          funext z
          unfold upI
          by_cases c : z = (k : Int)
          · rw [if_pos c, c, hp, e]
          · rw [if_neg c]
        · rw [upF_other _ _ _ _ c]
      rw [e2]
  · have hx := nx_ok h.n (show 1 ≤ zr N s by omega)
    have M : Mv0 N s p k f (nx N s) := ⟨h, hk, hp, h2, hx⟩
    have hn : ¬ ownB s f = true := by rw [h2]; simp
    simp only [if_neg hn]
    refine ⟨⟨fun W hW => ?_, (alS_n s f (nx N s)).2.1, (alS_n s f (nx N s)).2.2, (alS_n s f (nx N s)).1⟩, ?_⟩
    · by_cases c : f = -1
      · subst c
        have e : alS s (-1) (nx N s) = jnS s (nx N s) := by unfold alS; rw [if_pos rfl]
        rw [e]
        exact alone_no B l s N (nx N s) hx W hW
      · obtain ⟨f1, f2, f3, f4⟩ := M.f2 c
        have e : ((f.toNat : Nat) : Int) = f := by omega
        have hbn := h.bnd f.toNat (by omega)
        have := alone_cp B l s N (nx N s) f.toNat hx (by omega) (by omega) hc W hW
        rw [e] at this
        exact this
    · rw [(alS_n s f (nx N s)).2.2]
      rfl
theorem Vb.hasr {l : Lo} {s t : Vs} (h : t.has = s.has) : XV l t = XV l s := by
  funext k
  unfold XV
  rw [h]
set_option maxHeartbeats 4000000 in
theorem needs_all (B : Nat) (l : Lo) (s : Vs) (N : Nat) (p : Fin 6) (first c : Nat) (w : World) (h : Vb B w l s) (hF : Fr N s) (hp : s.has p = true) (hc : first + c ≤ 16) (h1 : 1 ≤ c) (hn : ∀ j, j < c → s.pg p ((first + j : Nat) : Int) ≠ none) : Calls Try.prog 41 #[.pointer (some ⟨l.b, 0, none⟩), .map (some (l.r p)), .int .i64 (first : Nat), .int .i64 ((first + c - 1 : Nat) : Int)] w fun r w' => r = .returned (.tuple #[.int .i64 (ndT s p first c), .int .i64 0]) ∧ w' = w := by
  have HR : Hid3 (∀ d, d < c → ∃ f, (Instr.lookup 60 (.map (some (l.r p))) (.int .i64 ((first + d : Nat) : Int)) true).run Try.prog w = .ok (.tuple #[.int .i64 f, .bool true]) w ∧ Calls Try.prog 69 #[.pointer (some ⟨l.b, 6, none⟩), .int .i64 f] w (fun r w' => r = .returned (.bool (ownB s f)) ∧ w' = w) ∧ nd s p (first + d) = ndI s f) := ⟨fun d hd => by
    have hL := lookP (h.sp p hp).2 ((first + d : Nat) : Int)
    cases e : s.pg p ((first + d : Nat) : Int) with
    | none => exact absurd e (hn d hd)
    | some f =>
      rw [e] at hL
      have hb := (hF.pgs p _ f e).2
      have hN := hF.hi
      refine ⟨f, hL, own_any B l s f (by omega) w h, ?_⟩
      unfold nd
      rw [e]
      rfl⟩
  obtain ⟨la, hla⟩ : ∃ la : Int, la = ((first + c - 1 : Nat) : Int) := ⟨_, rfl⟩
  rw [← hla]
  have HLA := Hid3.mk hla
  obtain ⟨R, hR⟩ : ∃ R : Int, R = ndT s p first c := ⟨_, rfl⟩
  rw [← hR]
  have HRR := Hid3.mk hR
  have HT : Hid3 (∀ d, 0 ≤ ndT s p first d ∧ ndT s p first d ≤ d) := ⟨ndT_le s p first⟩
  have HS : Hid3 (∀ d, ndT s p first (d + 1) = ndT s p first d + nd s p (first + d)) := ⟨fun _ => rfl⟩
  obtain ⟨T, hT⟩ : ∃ T : Nat → Int, T = ndT s p first := ⟨_, rfl⟩
  have HT0 : Hid3 (T 0 = 0) := ⟨by rw [hT]; rfl⟩
  rw [← hT] at HS HT HRR
  generalize l.r p = r at *
  clear h hF hla hR hn hT
  go_enter Try.func41, Try.ntmps41
  go_wp2
  go_loopw [10, 11] (fun x i W => W = w ∧ ∃ d : Nat, d ≤ c ∧ i = .int .i64 ((first + d : Nat) : Int) ∧ x = .int .i64 (T d)) (fun _ i _ => 20 - (intOf i).toNat)
  case atStart => exact ⟨rfl, 0, Nat.zero_le _, by simp, by rw [HT0.out]⟩
  case round =>
    obtain ⟨rfl, d, hd, rfl, rfl⟩ := hrel
    by_cases hdc : d < c
    · obtain ⟨f, hL, cO, hN⟩ := HR.out d hdc
      have hs := HS.out d
      have ht := HT.out d
      rw [hN] at hs
      have HSd := Hid3.mk hs
      clear hs hN
      have hle : ((first + d : Nat) : Int) ≤ la := by rw [HLA.out]; omega
      have hw1 : IntKind.i64.wrap (((first + d : Nat) : Int) + 1) = ((first + (d + 1) : Nat) : Int) := by rw [IntKind.wrap_i64]; omega
      have hw2 : IntKind.i64.wrap (T d + 1) = T d + 1 := by rw [IntKind.wrap_i64]; omega
      have hm1 : ((first + (d + 1) : Nat) : Int).toNat = first + d + 1 := by omega
      have hm2 : ((first + d : Nat) : Int).toNat = first + d := by omega
      obtain ⟨kk, hkk⟩ : ∃ kk : Int, kk = ((first + d : Nat) : Int) := ⟨_, rfl⟩
      obtain ⟨k1, hk1⟩ : ∃ k1 : Int, k1 = ((first + (d + 1) : Nat) : Int) := ⟨_, rfl⟩
      rw [← hkk] at hL hle hw1 hm2 ⊢
      rw [← hk1] at hw1 hm1
      have HK1 := Hid3.mk hk1
      have HM := Hid3.mk (And.intro hm1 hm2)
      clear hkk hk1 hm1 hm2
      rcases nd_cases s f with ⟨n1, n2⟩ | ⟨n1, n2⟩
      · rw [n2] at cO
        rw [n1] at HSd
        clear n1 n2
        go_wp2_with (refine wpList_look rfl 60 _ _ rfl _ _ _ rfl rfl hL ?_)
        refine cO.mono ?_
        rintro r W ⟨rfl, rfl⟩
        go_wp2
        go_roundw
        case rel => exact ⟨by first | rfl | trivial, d + 1, by omega, by rw [HK1.out], by rw [HSd.out, Int.add_zero]⟩
        case measure =>
          have := HM.out
          simp only [intOf]
          omega
      · rw [n2] at cO
        rw [n1] at HSd
        clear n1 n2
        go_wp2_with (refine wpList_look rfl 60 _ _ rfl _ _ _ rfl rfl hL ?_)
        refine cO.mono ?_
        rintro r W ⟨rfl, rfl⟩
        go_wp2
        go_roundw
        case rel => exact ⟨by first | rfl | trivial, d + 1, by omega, by rw [HK1.out], by rw [HSd.out]⟩
        case measure =>
          have := HM.out
          simp only [intOf]
          omega
    · have hle : ¬ ((first + d : Nat) : Int) ≤ la := by rw [HLA.out]; omega
      have e : d = c := by omega
      subst e
      rw [← HRR.out]
      generalize ((first + d : Nat) : Int) = kk at *
      go_wp2
      go_ret2
      exact ⟨rfl, rfl⟩
end Go.Proofs.Ytfmcoibpbcheiaa
