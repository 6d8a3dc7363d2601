/- The document's vector: Out, Places, Turn, Fork. -/
import Derived.Test.YtgfiliodbggahaaQuR
namespace Go.Proofs.Ytgfiliodbggahaa
open Go.RowKit Go.Maps
set_option linter.unusedVariables false
set_option maxRecDepth 100000
def fin8 (k : Nat) (h : k < 8) : Fin 8 := ⟨k, h⟩
theorem ord0 (k : Nat) (h : k < 8) : ordK 0 k = fin8 k h := Fin.ext (by show (0 + k) % 8 = k; omega)
theorem pcF_append (e : Int) (a b : List Pe) : pcF e (a ++ b) = pcF e a ++ pcF e b := by simp [pcF]
theorem pcF_one (e : Fin 6) (pl : Fin 8 → Option (Fin 6)) (i : Fin 8) : pcF e.1 (oneL pl i) = if pl i = some e then [i] else [] := by
  unfold oneL
  cases h : pl i with
  | none => simp [pcF]
  | some x =>
    by_cases hx : x = e
    · subst hx; simp [pcF]
    · have : ¬ (x.1 : Int) = (e.1 : Int) := fun h2 => hx (Fin.ext (by omega))
      simp [pcF, hx, this]
theorem pcF_lt (e : Fin 6) (pl : Fin 8 → Option (Fin 6)) (n : Nat) (hn : n ≤ 8) (i : Fin 8) (h : i ∈ pcF e.1 (tkL pl 0 n)) : i.1 < n := by
  unfold pcF at h
  obtain ⟨x, hx, rfl⟩ := List.mem_map.1 h
  obtain ⟨k, hk, h1, _⟩ := (mem_tkL pl 0 x n).1 (List.mem_filter.1 hx).1
  rw [← h1, ord0 k (by omega)]
  exact hk
theorem pcL_bad (env : Int) (h : 6 ≤ env) (l : List Pe) : pcL env l = [] := by
  unfold pcL
  rw [List.filter_eq_nil_iff.2]
  · rfl
  · intro x _
    have := x.2.2
    simp; omega
set_option maxHeartbeats 1000000 in
theorem rout_bad (rb : Nat) (e : Int) (w : World) (he : 6 ≤ e) : Calls Try.prog 38 #[.pointer (some ⟨rb, 0, none⟩), .int .u8 e] w fun r w' => r = .returned (.int .i64 0) ∧ w' = w := by
  have cT := rmay_bad rb e 0 w (.inl he)
  go_enter Try.func38, Try.ntmps38
  go_wp2_with fail
  refine cT.mono ?_
  rintro r W ⟨rfl, rfl⟩
  go_wp2
  go_ret
  exact ⟨rfl, rfl⟩
set_option maxHeartbeats 1000000 in
theorem rout_ok (B rb : Nat) (q : Qs) (e : Fin 6) (w : World) (h : Rv B w rb q) : Calls Try.prog 38 #[.pointer (some ⟨rb, 0, none⟩), .int .u8 e.1] w fun r w' => r = .returned (.int .i64 (outN e.1 q)) ∧ RStp B w w' rb (outQ e q) := by
  have cT := rmay_ok rb e 0 w
  change Calls _ _ #[_, _, .int .i64 0] _ _ at cT
  have HV : Hid (Rv B w rb q) := h
  have HQ : Hid (clrL (pcF e.1 (tkL q.pl 0 8)) q.pl = (outQ e q).pl) := outQ_pl e q 0
  have he6 : (e.1 : Int) < 6 := by have := e.2; omega
  clear h
  go_enter Try.func38, Try.ntmps38
  go_wp2_with fail
  refine cT.mono ?_
  rintro r W ⟨rfl, hW⟩
  rw [hW]
  clear cT hW
  go_wp2_with fail
  go_loopw [5, 6] (fun s5 s6 wr => ∃ k : Nat, k ≤ 8 ∧ s5 = .int .i64 (pcF e.1 (tkL q.pl 0 k)).length ∧ s6 = .int .i64 k ∧ Hid (RStp B w wr rb { q with pl := clrL (pcF e.1 (tkL q.pl 0 k)) q.pl })) (fun _ s _ => 8 - (intOf s).toNat)
  case atStart => exact ⟨0, Nat.zero_le _, rfl, rfl, RStp.same HV.out (Below.refl _ _)⟩
  case round =>
    obtain ⟨k, hk, rfl, rfl, HS⟩ := hrel
    by_cases hlt : k < 8
    · have hltz : (k : Int) < 8 := by omega
      have hle : ((pcF e.1 (tkL q.pl 0 k)).length : Int) ≤ 8 := by
        have h1 := tkL_len q.pl 0 k
        have h2 : (pcF e.1 (tkL q.pl 0 k)).length ≤ (tkL q.pl 0 k).length := by unfold pcF; rw [List.length_map]; exact List.length_filter_le _ _
        omega
      have hnew : pcF e.1 (tkL q.pl 0 (k + 1)) = pcF e.1 (tkL q.pl 0 k) ++ (if q.pl (fin8 k hlt) = some e then [fin8 k hlt] else []) := by
        simp only [tkL]
        rw [pcF_append, ord0 k hlt, pcF_one]
      have hat : clrL (pcF e.1 (tkL q.pl 0 k)) q.pl (fin8 k hlt) = q.pl (fin8 k hlt) := by
        rw [clrL_at, if_neg]
        intro hm
        have := pcF_lt e q.pl k hk _ hm
        exact Nat.lt_irrefl _ this
      have c0 : wr.cell? ⟨rb, k, none⟩ = some (.int .i64 (refV (q.pl (fin8 k hlt)))) := by
        have := HS.out.rv.c.cl (fin8 k hlt)
        simp only [hat] at this
        exact this
      have f0 := HS.out.rv.c.f k
      have z0 := refV_some (q.pl (fin8 k hlt)) e
      have HS2 : Hid (RStp B w (wr.setCell ⟨rb, k, none⟩ (.int .i64 0)) rb { q with pl := upd (clrL (pcF e.1 (tkL q.pl 0 k)) q.pl) (fin8 k hlt) none }) := HS.out.trans (RStp.place HS.out.rv (fin8 k hlt) none)
      by_cases hs : q.pl (fin8 k hlt) = some e
      · rw [decide_eq_true hs] at z0
        rw [if_pos hs] at hnew
        have HN : Hid (pcF e.1 (tkL q.pl 0 (k + 1)) = pcF e.1 (tkL q.pl 0 k) ++ [fin8 k hlt]) := hnew
        clear hnew hat hs
        generalize refV (q.pl (fin8 k hlt)) = z at *
        generalize pcF e.1 (tkL q.pl 0 k) = F at *
        go_wp2
        go_roundw
        case rel => exact ⟨k + 1, by omega, by rw [HN.out, List.length_append]; go_num, by go_num, by rw [HN.out, clrL_snoc]; exact HS2.out⟩
        case measure => simp [intOf]; omega
      · rw [decide_eq_false hs] at z0
        rw [if_neg hs, List.append_nil] at hnew
        have HN : Hid (pcF e.1 (tkL q.pl 0 (k + 1)) = pcF e.1 (tkL q.pl 0 k)) := hnew
        clear hnew hat hs
        generalize refV (q.pl (fin8 k hlt)) = z at *
        generalize hF : pcF e.1 (tkL q.pl 0 k) = F at *
        go_wp2
        go_roundw
        case rel => exact ⟨k + 1, by omega, by rw [HN.out], by go_num, by rw [HN.out]; exact HS.out⟩
        case measure => simp [intOf]; omega
    · have hltz : ¬ (k : Int) < 8 := by omega
      obtain rfl : k = 8 := by omega
      have HS2 := HS.out.trans (RStp.pen HS.out.rv e 0)
      rw [HQ.out] at HS2
      have HS3 : Hid (RStp B w (wr.setCell ⟨rb, 8 + e.1, none⟩ (.int .i64 0)) rb (outQ e q)) := HS2
      have c0 := HS.out.rv.c.cp e
      have f0 := HS.out.rv.c.f (8 + e.1)
      clear HS2
      go_wp2
      go_ret
      exact ⟨rfl, HS3.out⟩
set_option maxHeartbeats 1000000 in
theorem rturn_any (B rb : Nat) (q : Qs) (w : World) (h : Rv B w rb q) (hq : q.Ok) : Calls Try.prog 40 #[.pointer (some ⟨rb, 0, none⟩)] w fun r w' => r = .returned (turnV (turnS q).2) ∧ RStp B w w' rb (turnQ q) := by
  have HV : Hid (Rv B w rb q) := h
  have HQ : Hid (∀ e, q.pen e ≤ 1000) := hq
  have hn8 : (q.now.1 : Int) < 8 := by have := q.now.2; omega
  clear h hq
  go_enter Try.func40, Try.ntmps40
  go_wp2_with fail
  go_loopw [5] (fun s5 wr => ∃ (k : Nat) (p : Fin 6 → Nat), k ≤ 8 ∧ s5 = .int .i64 ((k : Int) + 1) ∧ Hid (passP (tkL q.pl (q.now.1 + 1) k) q.pen = some p) ∧ Hid (RStp B w wr rb { q with pen := p })) (fun s _ => 10 - (intOf s).toNat)
  case atStart => exact ⟨0, q.pen, Nat.zero_le _, rfl, rfl, RStp.same HV.out (Below.refl _ _)⟩
  case round =>
    obtain ⟨k, p, hk, rfl, HP, HS⟩ := hrel
    have cn : wr.cell? ⟨rb, 14, none⟩ = some (.int .i64 q.now.1) := HS.out.rv.c.cn
    by_cases hlt : k < 8
    · have hltz : (k : Int) + 1 ≤ 8 := by omega
      obtain ⟨i, hi⟩ : ∃ i : Fin 8, i = ordK (q.now.1 + 1) k := ⟨_, rfl⟩
      have hpz : ((q.now.1 : Int) + ((k : Int) + 1)) % 8 = (i.1 : Int) := by rw [hi]; show _ = (((q.now.1 + 1 + k) % 8 : Nat) : Int); omega
      have hnx : tkL q.pl (q.now.1 + 1) (k + 1) = tkL q.pl (q.now.1 + 1) k ++ oneL q.pl i := by rw [hi]; rfl
      have HX : Hid (∃ r, tkL q.pl (q.now.1 + 1) 8 = tkL q.pl (q.now.1 + 1) (k + 1) ++ r) := (tkL_pre q.pl (q.now.1 + 1) (k + 1) 8 (by omega)).elim (fun r h => ⟨r, h.symm⟩)
      have c0 : wr.cell? ⟨rb, i.1, none⟩ = some (.int .i64 (refV (q.pl i))) := HS.out.rv.c.cl i
      have hi8 : (i.1 : Int) < 8 := by have := i.2; omega
      clear hi
      unfold oneL at hnx
      cases ho : q.pl i with
      | none =>
        rw [ho] at c0 hnx
        simp only [refV, List.append_nil] at c0 hnx
        have HN : Hid (tkL q.pl (q.now.1 + 1) (k + 1) = tkL q.pl (q.now.1 + 1) k) := hnx
        clear hnx ho HX
        go_wp2
        go_roundw
        case rel => exact ⟨k + 1, p, by omega, by go_num, by rw [HN.out]; exact HP.out, HS.out⟩
        case measure => simp [intOf]; omega
      | some e =>
        rw [ho] at c0 hnx
        simp only [refV] at c0 hnx
        have HN : Hid (tkL q.pl (q.now.1 + 1) (k + 1) = tkL q.pl (q.now.1 + 1) k ++ [(i, e)]) := hnx
        have c1 : wr.cell? ⟨rb, 8 + e.1, none⟩ = some (.int .i64 (p e)) := HS.out.rv.c.cp e
        have f1 := HS.out.rv.c.f (8 + e.1)
        have f14 := HS.out.rv.c.f 14
        have he6 : (e.1 : Int) < 6 := by have := e.2; omega
        have hz : ¬ ((e.1 : Int) + 1 = 0) := by omega
        have z1 : (((e.1 : Int) + 1) == 0) = false := by rw [beq_eq_false_iff_ne]; exact hz
        have hpm : ((p e : Nat) : Int) ≤ 1000 := by have h1 := passP_le _ q.pen p HP.out e; have h2 := HQ.out e; omega
        clear hnx ho
        by_cases h0 : p e = 0
        · have h0z : ¬ 0 < ((p e : Nat) : Int) := by omega
          have HS2 : Hid (RStp B w (wr.setCell ⟨rb, 14, none⟩ (.int .i64 i.1)) rb { q with pen := p, now := i }) := HS.out.trans (RStp.now HS.out.rv i)
          have hgo : turnS q = (p, some (i, e)) := by
            obtain ⟨r, hr⟩ := HX.out
            unfold turnS
            rw [hr, HN.out, List.append_assoc, goS_pass _ _ q.pen p HP.out]
            simp [goS, h0]
          have HG : Hid (turnS q = (p, some (i, e))) := hgo
          have HT : Hid (turnQ q = { q with pen := p, now := i }) := by
            show turnQ q = _
            unfold turnQ
            rw [hgo]
          have z3 : IntKind.u8.wrap (e.1 : Int) = (e.1 : Int) := by simp [IntKind.wrap, IntKind.bits, IntKind.signed]; omega
          clear hgo HX HN h0
          go_wp2
          go_ret3
          rw [HG.out, HT.out]
          exact ⟨rfl, HS2.out⟩
        · have h0z : 0 < ((p e : Nat) : Int) := by omega
          have HS2 := HS.out.trans (RStp.pen HS.out.rv e (p e - 1)).drew
          rw [show ((p e - 1 : Nat) : Int) = (p e : Int) - 1 by omega] at HS2
          have HS3 : Hid (RStp B w (wr.setCell ⟨rb, 8 + e.1, none⟩ (.int .i64 ((p e : Int) - 1))).drew rb { q with pen := upd p e (p e - 1) }) := HS2
          have HP2 : Hid (passP (tkL q.pl (q.now.1 + 1) (k + 1)) q.pen = some (upd p e (p e - 1))) := by
            show passP _ _ = _
            rw [HN.out]
            exact passP_snoc _ (i, e) q.pen p HP.out h0
          clear HS2 HX HN h0
          go_wp2
          go_region
          go_wp2
          go_roundw
          case rel => exact ⟨k + 1, _, by omega, by go_num, HP2.out, HS3.out⟩
          case measure => simp [intOf]; omega
    · have hltz : ¬ (k : Int) + 1 ≤ 8 := by omega
      obtain rfl : k = 8 := by omega
      have hgo : turnS q = (p, none) := by
        have := goS_pass _ [] q.pen p HP.out
        rw [List.append_nil] at this
        exact this
      have HG : Hid (turnS q = (p, none)) := hgo
      have HT : Hid (turnQ q = { q with pen := p }) := by
        show turnQ q = _
        unfold turnQ
        rw [hgo]
      clear hgo
      go_wp2
      go_ret3
      rw [HG.out, HT.out]
      exact ⟨rfl, HS.out⟩
end Go.Proofs.Ytgfiliodbggahaa
