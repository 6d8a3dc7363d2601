/- vm: deeds on both, one behind the other. -/
import Derived.Test.YtfmcoibpbcheiaaVrT
import Derived.Test.YtfmcoibpbcheiaaVmYa
namespace Go.Proofs.Ytfmcoibpbcheiaa
open Go.RowKit Go.Maps
set_option linter.unusedVariables false
set_option maxRecDepth 100000
theorem iv0 (N : Nat) (h1 : 1 ≤ N) (h2 : N ≤ 64) : Iv N (vs0 N) (fun _ _ => 0) := by
  refine ⟨⟨rfl, h1, h2, List.length_replicate, fun p _ => rfl, fun p z v h => (by cases h), fun j hj => ?_⟩, zeroL_length, fun p k f hf => (by cases hf), fun j hj _ i hi => ?_⟩
  · have e : cnt (vs0 N).pg (j : Int) = 0 := cnt_zero _ _ (fun p z h => by cases h)
    rw [e]
    exact rep_at j
  · show zeroL.getD (j * 32 + i) 0 = 0
    unfold zeroL
    rw [List.getD_eq_getElem?_getD, List.getElem?_replicate]
    split <;> rfl
theorem Rb.lower {B B' : Nat} {w : World} {o : Ro} {N : Nat} {s : Vs} {L : List Int} (h : Rb B w o N s L) (k : B' ≤ B) : Rb B' w o N s L := ⟨Nat.le_trans k h.g, Nat.le_trans k h.gm, Nat.le_trans k h.gg, h.c, h.m⟩
/-- Both, at their beginning. -/
theorem bo_new {w W1 W2 : World} {l : Lo} {o : Ro} {N : Nat} (h1 : 1 ≤ N) (h2 : N ≤ 64) (hV : Vb w.heap.size W1 l (vs0 N)) (hB1 : Below w.heap.size w W1) (hR : Rb W1.heap.size W2 o N (vs0 N) zeroL) (hB2 : Below W1.heap.size W1 W2) : ∃ S, Bo w.heap.size W2 l.b o.b N 0 S := by
  have hV2 := hV.below hB2
  refine ⟨fun k => XV l (vs0 N) k ∨ XR o k, ⟨l, vs0 N, fun _ _ => 0, o, zeroL, ⟨rfl, hV2, iv0 N h1 h2, by show (0 : Int) ≤ 0 ∧ (0 : Int) ≤ ((0 : Nat) : Int); omega⟩, rfl, hR.lower hB1.size, zeroL_length, (iv0 N h1 h2).vw, fun _ => .inl, fun _ => .inr, fun k hk hx => ?_⟩, fun k hk => ?_⟩
  · have h3 := hV.lts k hk
    have h4 := hR.ge hx
    omega
  · rcases hk with e | e
    · exact ⟨hV2.ge e, hV2.lts k e⟩
    · exact ⟨Nat.le_trans hB1.size (hR.ge e), hR.lts e⟩
/-- What is there between two deeds. -/
structure Pb (w W : World) (vb rb N c : Nat) : Prop where
  ex : ∃ S, Bo w.heap.size W vb rb N c S
  bl : Below w.heap.size w W
theorem Pb.low {w W W' : World} {vb rb N c : Nat} (h : Pb w W vb rb N c) (k : Below W.heap.size W W') : Pb w W' vb rb N c := ⟨h.ex.elim fun S x => ⟨S, x.below k⟩, h.bl.trans (k.mono h.bl.size)⟩
theorem Pb.step {w W W' : World} {vb rb N c : Nat} {S : Nat → Prop} (h : Bo w.heap.size W vb rb N c S) (hB : Below w.heap.size w W) (k : Mv w.heap.size W W' vb rb N c S) : Pb w W' vb rb N (c + 16) := by
  have hl := k.low h hB.size
  obtain ⟨S', h1, _⟩ := k
  exact ⟨⟨S', h1⟩, hB.trans hl⟩
theorem byts_nil (B : Nat) (w : World) : Byts B w (.slice none ([] : List Int).length 0) [] := ⟨none, 0, rfl, Nat.le_refl _, fun x h => (by cases h), fun j x h => (by simp at h)⟩
theorem do_map (w W : World) (vb rb N c : Nat) (k : Int) (hc : c ≤ 80000) (h : Pb w W vb rb N c) (kd : Int) : Calls Try.prog 18 #[.pointer (some ⟨vb, 0, none⟩), .pointer (some ⟨rb, 0, none⟩), .agg #[.int .i64 kd, .int .i64 0, .int .i64 0, .int .i64 k, .int .u8 0, .slice none 0 0]] W fun r w' => r = .returned (.bool true) ∧ Pb w w' vb rb N (c + 16) := by
  obtain ⟨S, hS⟩ := h.ex
  refine (do_any w.heap.size vb rb N c S kd 0 0 k 0 none 0 [] W hS h.bl.size hc (byts_nil _ _)).mono ?_
  rintro r w' ⟨rfl, hM⟩
  exact ⟨rfl, Pb.step hS h.bl hM⟩
theorem do_deed (w W : World) (vb rb N c : Nat) (hc : c ≤ 80000) (h : Pb w W vb rb N c) (k p q n b : Int) (a : Option Addr) (cap : Nat) (bs : List Int) (hb : Byts w.heap.size W (.slice a bs.length cap) bs) : Calls Try.prog 18 #[.pointer (some ⟨vb, 0, none⟩), .pointer (some ⟨rb, 0, none⟩), .agg #[.int .i64 k, .int .i64 p, .int .i64 q, .int .i64 n, .int .u8 b, .slice a bs.length cap]] W fun r w' => r = .returned (.bool true) ∧ Pb w w' vb rb N (c + 16) := by
  obtain ⟨S, hS⟩ := h.ex
  refine (do_any w.heap.size vb rb N c S k p q n b a cap bs W hS h.bl.size hc hb).mono ?_
  rintro r w' ⟨rfl, hM⟩
  exact ⟨rfl, Pb.step hS h.bl hM⟩
set_option maxHeartbeats 2000000 in
theorem play_any (x0 : Nat) (v : Value) (l : List Dv) (h0 : x0 ≤ 255) (w : World) (hd : Dvs w.heap.size w v l) : Calls Try.prog 7 #[.int .u8 x0, v] w fun r w' => ∃ vb rb, r = .returned (.tuple #[.pointer (some ⟨vb, 0, none⟩), .pointer (some ⟨rb, 0, none⟩), .bool true]) ∧ Pb w w' vb rb (x0 % 8 + 1) 704 := by
  obtain ⟨ad, cap, rfl, _⟩ := id hd
  have HD : Hid3 (Dvs w.heap.size w (.slice ad l.length cap) l) := ⟨hd⟩
  clear hd
  obtain ⟨N, hN⟩ : ∃ N : Nat, N = x0 % 8 + 1 := ⟨_, rfl⟩
  have hN1 : 1 ≤ N := by omega
  have hN2 : N ≤ 8 := by omega
  have hn1 : wrap64 ((x0 : Nat) : Int) = (x0 : Int) := by unfold wrap64; omega
  have hn2 : Int.tmod (x0 : Int) 8 = ((x0 % 8 : Nat) : Int) := by rw [Int.tmod_eq_emod_of_nonneg (by omega)]; omega
  have hn3 : (x0 : Int) % 8 = ((x0 % 8 : Nat) : Int) := by omega
  have hn4 : IntKind.i64.wrap (((x0 % 8 : Nat) : Int) + 1) = (N : Int) := by rw [IntKind.wrap_i64]; omega
  have hn5 : ((x0 % 8 : Nat) : Int) + 1 = (N : Int) := by omega
  have c1 := vnew_good (N : Int) w (by omega) (by omega)
  rw [← hN]
  clear hN
  generalize ((x0 % 8 : Nat) : Int) = y at *
  go_enter Try.func7, Try.ntmps7
  go_wp2_with fail
  refine c1.mono ?_
  rintro r W1 ⟨lo, rfl, hV, hB1⟩
  have c2 := rvnew_ok N W1 hN1 (by omega)
  go_wp2_with fail
  refine c2.mono ?_
  rintro r W2 ⟨⟨o, rfl, hR⟩, hB2⟩
  have HP : Hid3 (Pb w W2 lo.b o.b N 0) := ⟨bo_new hN1 (by omega) hV hB1 hR hB2, hB1.trans (hB2.mono hB1.size)⟩
  clear c1 c2 hV hB1 hR hB2
  generalize lo.b = vb at *
  generalize o.b = rb at *
  clear hn1 hn2 hn3 hn4 hn5
  generalize (N : Int) = nn at *
  go_wp2_with fail
  refine (do_map w W2 vb rb N 0 0 (by omega) HP.out 0).mono ?_
  rintro r W3 ⟨rfl, hP⟩
  have HP3 := Hid3.mk hP
  clear hP HP
  go_wp2_with fail
  go_loopw [10] (fun i W => ∃ k : Nat, k ≤ 3 ∧ i = .int .i64 (k : Int) ∧ Hid3 (Pb w W vb rb N (16 * (k + 1)))) (fun i _ => 3 - (intOf i).toNat)
  case atStart => exact ⟨0, by omega, rfl, HP3⟩
  case round =>
    obtain ⟨k, hk, rfl, HK⟩ := hrel
    clear HP3
    by_cases hk3 : k < 3
    · have hkz : (k : Int) < 3 := by omega
      have cM := do_map w wr vb rb N (16 * (k + 1)) (k : Int) (by omega) HK.out 3
      go_wp2_with fail
      refine cM.mono ?_
      rintro r W4 ⟨rfl, hP⟩
      have HK2 : Hid3 (Pb w W4 vb rb N (16 * (k + 1 + 1))) := ⟨hP⟩
      clear hP cM
      go_wp2
      go_roundw
      case rel => exact ⟨k + 1, by omega, by go_num, HK2⟩
      case measure => simp [intOf]; omega
    · have hkz : ¬ (k : Int) < 3 := by omega
      have e : k = 3 := by omega
      have HP4 : Hid3 (Pb w wr vb rb N 64) := ⟨by have := HK.out; rw [e] at this; exact this⟩
      generalize (k : Int) = k4 at *
      clear HK e hk hk3
      go_wp2_with fail
      clear hkz
      go_loopw [11] (fun i W => ∃ k : Nat, k ≤ 40 ∧ k ≤ l.length ∧ i = .int .i64 (k : Int) ∧ Hid3 (Pb w W vb rb N (64 + 16 * k))) (fun i _ => 41 - (intOf i).toNat)
      case atStart => exact ⟨0, by omega, Nat.zero_le _, rfl, HP4⟩
      case round =>
        obtain ⟨k, hk40, hkl, rfl, HK⟩ := hrel
        clear HP4
        have hw1 : IntKind.i64.wrap ((k : Int) + 1) = ((k + 1 : Nat) : Int) := by rw [IntKind.wrap_i64]; omega
        by_cases hgo : k < l.length ∧ k < 40
        · obtain ⟨hlt, h40⟩ := hgo
          have hltz : (k : Int) < (l.length : Int) := by omega
          have h40z : (k : Int) < 40 := by omega
          obtain ⟨_, _, e0, _, hc⟩ := HD.out.below HK.out.bl
          injection e0 with e1 e2 e3
          obtain ⟨ok, g, off, e4, hg, c0, c1, c2, c3, c4, c5⟩ := hc k l[k] (List.getElem?_eq_getElem hlt)
          rw [← e1] at e4
          subst e4
          clear hc e1 e3
          generalize l[k] = d at *
          obtain ⟨dk, dp, dq, dm, dc, dv, dbs⟩ := d
          obtain ⟨sa, scap, hdv, _⟩ := ok.b
          simp only at c0 c1 c2 c3 c4 c5 hdv
          have okb := ok.b
          simp only at okb
          subst hdv
          have cD := do_deed w wr vb rb N (64 + 16 * k) (by omega) HK.out dk dp dq dm dc sa scap dbs okb
          clear ok okb
          go_wp2_with fail
          refine cD.mono ?_
          rintro r W4 ⟨rfl, hP⟩
          have HK2 : Hid3 (Pb w W4 vb rb N (64 + 16 * (k + 1))) := ⟨by rw [show 64 + 16 * (k + 1) = 64 + 16 * k + 16 by omega]; exact hP⟩
          clear hP cD c0 c1 c2 c3 c4 c5
          go_wp2
          go_roundw
          case rel => exact ⟨k + 1, by omega, by omega, by first | rfl | trivial, HK2⟩
          case measure => simp [intOf]; omega
        · have HR : Hid3 (Pb w wr vb rb N 704) := ⟨by
            obtain ⟨S, hS⟩ := HK.out.ex
            exact ⟨⟨S, hS.up (by omega)⟩, HK.out.bl⟩⟩
          clear HK
          by_cases hlt : k < l.length
          · have hltz : (k : Int) < (l.length : Int) := by omega
            have h40z : ¬ (k : Int) < 40 := by omega
            generalize (k : Int) = kk at *
            clear hgo
            go_wp2
            go_ret3
            exact ⟨_, _, rfl, HR.out⟩
          · have hltz : ¬ (k : Int) < (l.length : Int) := by omega
            generalize (k : Int) = kk at *
            clear hgo
            go_wp2
            go_ret3
            exact ⟨_, _, rfl, HR.out⟩
end Go.Proofs.Ytfmcoibpbcheiaa
