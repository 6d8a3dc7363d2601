/- QuantaOut: the walk. -/
import Derived.Test.YtgfiliodbggahaaLawQuA
namespace Go.Proofs.Ytgfiliodbggahaa
open Go.RowKit Go.Maps
set_option linter.unusedVariables false
set_option maxRecDepth 100000
theorem goS_mem : ∀ (l : List Pe) (pen : Fin 6 → Nat) (x : Pe), (goS l pen).2 = some x → x ∈ l
  | [], pen, x, h => by cases h
  | y :: l, pen, x, h => by
    simp only [goS] at h
    split at h
    · simp only [Option.some.injEq] at h
      subst h
      exact List.mem_cons_self
    · exact List.mem_cons_of_mem _ (goS_mem l _ x h)
theorem turnS_mem {q : Qs} {x : Pe} (h : (turnS q).2 = some x) : q.pl x.1 = some x.2 := (mem_tk8 _ _ _).1 (goS_mem _ _ _ h)
theorem outQ_none (e : Fin 6) (q : Qs) (i : Fin 8) : (outQ e q).pl i ≠ some e := by
  simp only [outQ]
  split
  · exact fun h => by cases h
  · assumption
theorem outQ_places (e : Fin 6) (q : Qs) : pcL e.1 (tkL (outQ e q).pl 0 8) = [] := by
  rw [pcL_eq]
  have : pcF e.1 (tkL (outQ e q).pl 0 8) = [] := by
    rw [List.eq_nil_iff_forall_not_mem]
    intro i hi
    exact outQ_none e q i ((mem_pcF _ _ _ _).1 hi)
  rw [this]
  rfl
/-- The places of an environment, as a slice with its length. -/
theorem places_len (vb pb : Nat) (q : Qs) (env : Int) (w : World) (h : VecC w vb pb q) : Calls Try.prog 12 #[.pointer (some ⟨vb, 0, none⟩), .int .u8 env] w fun e W' => ∃ a cap, e = .returned (.slice a (pcL env (tkL q.pl 0 8)).length cap) ∧ Ints W' (.slice a (pcL env (tkL q.pl 0 8)).length cap) (pcL env (tkL q.pl 0 8)) ∧ Below w.heap.size w W' :=
  (places_any vb pb q env w h).mono fun e W' ⟨v, he, hrow, hB⟩ => by
    obtain ⟨hI, _⟩ := Ints.of_own hrow
    obtain ⟨a, cap, hv, hc⟩ := hI
    subst hv
    exact ⟨a, cap, he, ⟨a, cap, rfl, hc⟩, hB⟩
set_option maxHeartbeats 1000000 in
theorem out_law (v : Value) (l : List Dd) (env turns : Int) (w : World) (hd : Dds w v l) (hok : ∀ d ∈ l, DdOk d) (he0 : 0 ≤ env) (he1 : env ≤ 255) (ht0 : 0 ≤ turns) (ht1 : turns ≤ 255) : Calls Try.prog 7 #[v, .int .u8 env, .int .u8 turns] w fun e w' => e = .returned (.bool true) ∧ Below w.heap.size w w' := by
  have cP := play_any v l w hd hok
  have hq := ok_play (l.take 60) ok_q0
  generalize playQ (l.take 60) q0 = q at *
  obtain ⟨e, he⟩ : ∃ e : Fin 6, env % 6 = (e.1 : Int) := ⟨⟨(env % 6).toNat, by omega⟩, by show _ = (((env % 6).toNat : Nat) : Int); omega⟩
  obtain ⟨N, hN⟩ : ∃ N : Nat, turns % 40 = (N : Int) := ⟨(turns % 40).toNat, by omega⟩
  have hN40 : N < 40 := by omega
  clear hd hok
  go_enter Try.func7, Try.ntmps7
  go_wp2_with fail
  refine cP.mono ?_
  rintro r W1 ⟨vb, pb, rb, rfl, hT, hB1⟩
  have cL := live_any W1
  have HT1 : Hid (Vec w.heap.size W1 vb pb q) := hT.t
  clear cP hT
  go_wp2_with fail
  refine cL.mono ?_
  rintro r W2 ⟨rfl, hB2⟩
  have HT2 : Hid (Vec w.heap.size W2 vb pb q) := HT1.out.below hB2
  have HB2 : Hid (Below w.heap.size w W2) := hB1.trans (hB2.mono hB1.size)
  have cA := places_len vb pb q e.1 W2 HT2.out.c
  have hlen : (pcL e.1 (tkL q.pl 0 8)).length = outN e.1 q := by rw [pcL_eq, List.length_map]; rfl
  rw [hlen] at cA
  have cO' := fun W (hV : Vec w.heap.size W vb pb q) => out_ok _ vb pb q e W hV
  clear cL hB2 hB1 HT1 hlen
  generalize outN e.1 q = M at *
  have hMM : ((M : Int) != (M : Int)) = false := by simp
  go_wp2_with fail
  refine cA.mono ?_
  rintro r W3 ⟨a3, cap3, rfl, _, hB3⟩
  have HT3 : Hid (Vec w.heap.size W3 vb pb q) := HT2.out.below hB3
  have HB3 : Hid (Below w.heap.size w W3) := HB2.out.trans (hB3.mono HB2.out.size)
  have cO := cO' W3 HT3.out
  clear cO'
  clear cA hB3 HT2 HB2
  go_wp2_with fail
  refine cO.mono ?_
  rintro r W4 ⟨rfl, hS4⟩
  have HT4 : Hid (Vec w.heap.size W4 vb pb (outQ e q)) := hS4.vec
  have HB4 : Hid (Below w.heap.size w W4) := HB3.out.trans (hS4.belowB HT3.out HB3.out.size)
  have cB := places_len vb pb (outQ e q) e.1 W4 HT4.out.c
  rw [outQ_places] at cB
  change Calls _ _ _ _ (fun r W' => ∃ a cap, r = .returned (.slice a 0 cap) ∧ _) at cB
  clear cO hS4 HT3 HB3
  go_wp2_with fail
  refine cB.mono ?_
  rintro r W5 ⟨a5, cap5, rfl, _, hB5⟩
  have HT5 : Hid (Vec w.heap.size W5 vb pb (outQ e q)) := HT4.out.below hB5
  have HB5 : Hid (Below w.heap.size w W5) := HB4.out.trans (hB5.mono HB4.out.size)
  have cC := vpen_ok vb pb (outQ e q) e W5 HT5.out.c
  rw [show (outQ e q).pen e = 0 by simp [outQ, upd_same]] at cC
  change Calls _ _ _ _ (fun r w' => r = .returned (.int .i64 0) ∧ _) at cC
  clear cB hB5 HT4 HB4
  go_wp2_with fail
  refine cC.mono ?_
  rintro r W6 ⟨rfl, hW⟩
  rw [hW]
  clear cC hW
  have HQ : Hid ((outQ e q).Ok) := ok_out hq e
  have HP : Hid (∀ i, (outQ e q).pl i ≠ some e) := outQ_none e q
  generalize outQ e q = q1 at *
  go_wp2_with fail
  go_loopw [11] (fun s wr => ∃ (k : Nat) (q2 : Qs), k ≤ N ∧ s = .int .i64 k ∧ Hid (q2.Ok ∧ ∀ i, q2.pl i ≠ some e) ∧ Hid (Vec w.heap.size wr vb pb q2) ∧ Hid (Below w.heap.size w wr)) (fun s _ => N - (intOf s).toNat)
  case atStart => exact ⟨0, q1, Nat.zero_le _, rfl, ⟨HQ.out, HP.out⟩, HT5.out, HB5.out⟩
  case round =>
    obtain ⟨k, q2, hk, rfl, H2, HV, HB⟩ := hrel
    by_cases hlt : k < N
    · have hltz : (k : Int) < (N : Int) := by omega
      have cT := turn_any _ vb pb q2 wr HV.out H2.out.1
      have H3 : Hid ((turnQ q2).Ok ∧ ∀ i, (turnQ q2).pl i ≠ some e) := ⟨ok_turn H2.out.1, H2.out.2⟩
      have hx := fun x => turnS_mem (q := q2) (x := x)
      generalize turnQ q2 = q3 at *
      generalize (turnS q2).2 = o at *
      cases o with
      | none =>
        simp only [turnV] at cT
        go_wp2_with fail
        refine cT.mono ?_
        rintro r W7 ⟨rfl, hS⟩
        have HV7 : Hid (Vec w.heap.size W7 vb pb q3) := hS.vec
        have HB7 : Hid (Below w.heap.size w W7) := HB.out.trans (hS.belowB HV.out HB.out.size)
        clear hS cT hx
        go_wp2
        go_roundw
        case rel => exact ⟨k + 1, q3, by omega, by go_num, H3.out, HV7.out, HB7.out⟩
        case measure => simp [intOf]; omega
      | some x =>
        simp only [turnV] at cT
        have hne : ((x.2.1 : Int) == (e.1 : Int)) = false := by
          rw [beq_eq_false_iff_ne]
          intro h2
          have h3 := hx x rfl
          have h4 : x.2 = e := Fin.ext (by omega)
          rw [h4] at h3
          exact H2.out.2 _ h3
        clear hx
        generalize ((x.1.1 : Nat) : Int) = xa at *
        generalize ((x.2.1 : Nat) : Int) = xb at *
        go_wp2_with fail
        refine cT.mono ?_
        rintro r W7 ⟨rfl, hS⟩
        have HV7 : Hid (Vec w.heap.size W7 vb pb q3) := hS.vec
        have HB7 : Hid (Below w.heap.size w W7) := HB.out.trans (hS.belowB HV.out HB.out.size)
        clear hS cT
        go_wp2
        go_roundw
        case rel => exact ⟨k + 1, q3, by omega, by go_num, H3.out, HV7.out, HB7.out⟩
        case measure => simp [intOf]; omega
    · have hltz : ¬ (k : Int) < (N : Int) := by omega
      go_wp2
      go_ret
      exact ⟨rfl, HB.out⟩
end Go.Proofs.Ytgfiliodbggahaa
