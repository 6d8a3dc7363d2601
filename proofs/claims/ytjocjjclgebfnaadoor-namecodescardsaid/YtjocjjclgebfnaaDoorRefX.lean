/- The document's capability out of bytes, and out of a text. -/
import Derived.Test.YtjocjjclgebfnaaDoorRefW
namespace Go.Proofs.YtjocjjclgebfnaaDoor
open Go.RowKit Go.Shelf
set_option linter.unusedVariables false

theorem rdecode_short (ao : Option Addr) (n cap : Nat) (hn : n < 2) (w : World) :
    Calls Tryd.prog 15 #[.slice ao n cap] w fun e W' => e = .returned (capsV ([], 0#8, 3)) ∧ Below w.heap.size w W' := by
  have hn' : (n : Int) < 2 := by omega
  have hT := Two.new w 34 (.string ⟨#[]⟩) (.int .u8 0)
  have g0 := hT.c0
  have g1 := hT.f 0
  have g2 := (hT.set0 (.string ⟨#[]⟩)).c1
  have g3 := (hT.set0 (.string ⟨#[]⟩)).f 1
  go_enter Tryd.func15, Tryd.ntmps15
  go_wp2
  exact bodyPost_ret (v := capsV ([], 0#8, 3)) (by simp [results, Tryd.results15, go_sem, capsV, capV]) rfl ⟨rfl, (Below.refl _ w).alloc (Nat.le_refl _) _⟩
theorem rdecode_any (v : Value) (bs : List UInt8) (w : World) (h : Byt w v bs) (hl : bs.length ≤ 400) (hT : NTabs w) :
    Calls Tryd.prog 15 #[v] w fun e W' => e = .returned (capsV (decodeO bs)) ∧ Below w.heap.size w W' := by
  have h' := h
  obtain ⟨a, cap, rfl, hcap, hm, hc⟩ := h
  match bs, hcap, hc, hl, h' with
  | [], _, _, _, _ => exact rdecode_short a 0 cap (by omega) w
  | [_], _, _, _, _ => exact rdecode_short a 1 cap (by omega) w
  | x :: y :: t, hcap, hc, hl, h' =>
    obtain ⟨g, off, rfl, h0⟩ := hc 0 x rfl
    have hc' : ∀ j z, (x :: y :: t)[j]? = some z → w.cell? ⟨g, off + j, none⟩ = some (.int .u8 (z.toNat : Int)) := fun j z hz => by
      obtain ⟨g', off', e, h⟩ := hc j z hz
      cases e
      exact h
    simp only [List.length_cons] at hcap hl
    by_cases h2 : cap = 2
    · exact rdecode_two cap x y t w hT g off off 0 (.inr ⟨h2, rfl, rfl⟩) (by omega) (by omega) h' h0 (fun j b hb => by
        have : j < t.length := (List.getElem?_eq_some_iff.1 hb).1
        omega)
    · exact rdecode_two cap x y t w hT g off (off + 2) (cap - 2) (.inl ⟨h2, rfl, rfl⟩) (by omega) (by omega) h' h0 (fun j b hb => by
        have := hc' (j + 2) b (by simpa using hb)
        rwa [show off + (j + 2) = off + 2 + j by omega] at this)

theorem take_cut (s : ByteArray) (k : Nat) (hk : k < s.size) (h : s[k] = 32) (hno : ∀ b ∈ s.data.toList.take k, b ≠ 32) : cutB s.data.toList = some (s.data.toList.take k, s.data.toList.drop (k + 1)) := by
  have e : s.data.toList = s.data.toList.take k ++ 32 :: s.data.toList.drop (k + 1) := by
    conv => lhs; rw [← List.take_append_drop k s.data.toList, drop_list s k hk, h]
  conv => lhs; rw [e]
  exact cutB_at _ _ (fun hm => hno 32 hm rfl)
set_option maxHeartbeats 2000000 in
theorem rparse_any (s : ByteArray) (w : World) (hs : s.size ≤ 1000) (hT : NTabs w) :
    Calls Tryd.prog 19 #[.string s] w fun e W' => e = .returned (capsV (parseO s.data.toList)) ∧ Below w.heap.size w W' := by
  obtain ⟨O, hO⟩ : ∃ O, parseO s.data.toList = O := ⟨_, rfl⟩
  rw [hO]
  have HO : Hid (parseO s.data.toList = O) := hO
  have HT : Hid (NTabs (w.alloc (.cells #[.string ⟨#[]⟩, .int .u8 0] 34))) := hT.later ((Below.refl _ w).alloc (Nat.le_refl _) _)
  have hB0 : Below w.heap.size w (w.alloc (.cells #[.string ⟨#[]⟩, .int .u8 0] 34)) := (Below.refl _ w).alloc (Nat.le_refl _) _
  have hTw := Two.new w 34 (.string ⟨#[]⟩) (.int .u8 0)
  clear hT hO
  go_enter Tryd.func19, Tryd.ntmps19
  go_wp2
  have hsz : (w.alloc (.cells #[.string ⟨#[]⟩, .int .u8 0] 34)).heap.size = w.heap.size + 1 := by simp
  generalize w.alloc (.cells #[.string ⟨#[]⟩, .int .u8 0] 34) = W0 at *
  go_loopw [4] (fun i W => ∃ k : Nat, k ≤ s.size ∧ i = .int .i64 k ∧ W = W0 ∧ ∀ b ∈ s.data.toList.take k, b ≠ 32) (fun i _ => 1001 - (intOf i).toNat)
  case atStart => exact ⟨0, by omega, rfl, rfl, by simp⟩
  case round =>
    obtain ⟨k, hk, rfl, rfl, hno⟩ := hrel
    by_cases hlt : k < s.size
    · have hlt' : (k : Int) < (s.size : Int) := by omega
      by_cases h32 : s[k] = 32
      · have hb : ((s[k].toNat : Int) != 32) = false := by rw [h32]; rfl
        have hcut := take_cut s k hlt h32 hno
        have hO2 := HO.out
        unfold parseO at hO2
        rw [hcut] at hO2
        simp only at hO2
        have e1 : s.extract 0 k = ⟨(s.data.toList.take k).toArray⟩ := by rw [extract_mk s 0 k (by omega)]; simp
        have e2 : s.extract (k + 1) s.size = ⟨(s.data.toList.drop (k + 1)).toArray⟩ := by
          rw [extract_mk s (k + 1) s.size (Nat.le_refl _), List.take_of_length_le (by rw [← Lib.size_eq]; omega)]
        have hnl : (s.data.toList.take k).length ≤ 1000 := by rw [List.length_take]; omega
        generalize s.data.toList.take k = n at *
        generalize s.data.toList.drop (k + 1) = l at *
        have cR := fun w => rread_any ⟨l.toArray⟩ w
        rw [show readO (⟨l.toArray⟩ : ByteArray).data.toList = readO l from rfl] at cR
        generalize readO l = o at *
        obtain ⟨r, e⟩ := o
        have cT := fun w hT => rright_any ⟨n.toArray⟩ r.toNat w (by show n.length ≤ 1000; omega) hT
        rw [show rightB (⟨n.toArray⟩ : ByteArray).data.toList (r.toNat : Int) = rightB n (r.toNat : Int) from rfl] at cT
        unfold bitsV at cR
        unfold capV at cT
        simp only at cR hO2
        clear HO hcut hno h32
        have HT2 : Hid (NTabs (wr.alloc (.cells #[.string ⟨n.toArray⟩, .int .u8 (r.toNat : Int)] 34))) := HT.out.later ((Below.refl _ wr).alloc (Nat.le_refl _) _)
        have hT2 := hTw.alloc (.cells #[.string ⟨n.toArray⟩, .int .u8 (r.toNat : Int)] 34)
        have hC := Two.new wr 34 (.string ⟨n.toArray⟩) (.int .u8 (r.toNat : Int))
        rw [hsz] at hC
        have hB2 := hB0.alloc (by omega) (.cells #[.string ⟨n.toArray⟩, .int .u8 (r.toNat : Int)] 34)
        by_cases h0 : e = 0
        · subst h0
          clear HT hTw hB0
          cases hR : rightB n (r.toNat : Int) with
          | true =>
            rw [hR] at cT hO2
            rw [if_pos ⟨rfl, rfl⟩] at hO2
            subst hO2
            clear hR
            go_wp2_with fail
            refine (cR _).mono ?_
            rintro e' W1 ⟨rfl, hw⟩
            rw [hw]
            clear hw W1
            go_wp2_with fail
            refine (cT _ HT2.out).mono ?_
            rintro e' W3 ⟨rfl, hB3⟩
            have hs3 := hB3.size
            rw [World.size_alloc, hsz] at hB3 hs3
            replace hC := hC.below hB3 (by omega)
            have hT3 := hT2.below hB3 (by omega)
            have hB3' := hB2.trans (hB3.mono (by omega))
            clear hB3 hB2
            have a0 := hC.c0
            have a1 := hC.c1
            clear hC
            have g0 := hT3.c0
            have g1 := hT3.f 0
            have g2 := (hT3.set0 (.string ⟨n.toArray⟩)).c1
            have g3 := (hT3.set0 (.string ⟨n.toArray⟩)).f 1
            go_wp2
            have hT4 := (hT3.set0 (.string ⟨n.toArray⟩)).set1 (.int .u8 (r.toNat : Int))
            exact bodyPost_ret (v := capsV (n, r, 0)) (by simp [results, Tryd.results19, go_sem, hT4.c0, hT4.c1, capsV, capV]) rfl ⟨rfl, Below.set2 hB3' (by omega) _ _⟩
          | false =>
            rw [hR] at cT hO2
            rw [if_neg (by simp)] at hO2
            subst hO2
            clear hR
            go_wp2_with fail
            refine (cR _).mono ?_
            rintro e' W1 ⟨rfl, hw⟩
            rw [hw]
            clear hw W1
            go_wp2_with fail
            refine (cT _ HT2.out).mono ?_
            rintro e' W3 ⟨rfl, hB3⟩
            have hs3 := hB3.size
            rw [World.size_alloc, hsz] at hB3 hs3
            replace hC := hC.below hB3 (by omega)
            have hT3 := hT2.below hB3 (by omega)
            have hB3' := hB2.trans (hB3.mono (by omega))
            clear hB3 hB2
            clear hC
            have g0 := hT3.c0
            have g1 := hT3.f 0
            have g2 := (hT3.set0 (.string ⟨#[]⟩)).c1
            have g3 := (hT3.set0 (.string ⟨#[]⟩)).f 1
            go_wp2
            have hT4 := (hT3.set0 (.string ⟨#[]⟩)).set1 (.int .u8 0)
            exact bodyPost_ret (v := capsV ([], 0#8, 3)) (by simp [results, Tryd.results19, go_sem, hT4.c0, hT4.c1, capsV, capV]) rfl ⟨rfl, Below.set2 hB3' (by omega) _ _⟩
        · have h0' : (e != 0) = true := bne_iff_ne.2 h0
          rw [if_neg (fun h => h0 h.1)] at hO2
          subst hO2
          clear h0 HT2 cT
          go_wp2_with fail
          refine (cR _).mono ?_
          rintro e' W1 ⟨rfl, hw⟩
          rw [hw]
          clear hw W1 hC hT2 hB2
          have g0 := (hTw.alloc (.cells #[.string ⟨n.toArray⟩, .int .u8 (r.toNat : Int)] 34)).c0
          have g1 := (hTw.alloc (.cells #[.string ⟨n.toArray⟩, .int .u8 (r.toNat : Int)] 34)).f 0
          have g2 := ((hTw.set0 (.string ⟨#[]⟩)).alloc (.cells #[.string ⟨n.toArray⟩, .int .u8 (r.toNat : Int)] 34)).c1
          have g3 := ((hTw.set0 (.string ⟨#[]⟩)).alloc (.cells #[.string ⟨n.toArray⟩, .int .u8 (r.toNat : Int)] 34)).f 1
          go_wp2
          have hT4 := ((hTw.set0 (.string ⟨#[]⟩)).set1 (.int .u8 0)).alloc (.cells #[.string ⟨n.toArray⟩, .int .u8 (r.toNat : Int)] 34)
          exact bodyPost_ret (v := capsV ([], 0#8, 3)) (by simp [results, Tryd.results19, go_sem, hT4.c0, hT4.c1, capsV, capV]) rfl ⟨rfl, (Below.set2 hB0 (by omega) _ _).alloc (by simp [World.setCell]; omega) _⟩
      · have hb : ((s[k].toNat : Int) != 32) = true := by
          rw [bne_iff_ne]
          intro e
          exact h32 (UInt8.toNat_inj.1 (by show s[k].toNat = 32; omega))
        have HN : Hid (∀ b ∈ s.data.toList.take (k + 1), b ≠ 32) := by
          intro b hb2
          have e : s.data.toList.take (k + 1) = s.data.toList.take k ++ [s[k]] := by
            rw [List.take_succ_eq_append_getElem (by rw [← Lib.size_eq]; exact hlt)]
            rfl
          rw [e] at hb2
          rcases List.mem_append.1 hb2 with h | h
          · exact hno b h
          · simp at h
            rw [h]
            exact h32
        clear hno h32
        go_wp2
        go_roundw
        case rel => exact ⟨k + 1, by omega, by go_num, trivial, HN.out⟩
        case measure => simp [intOf]; omega
    · obtain rfl : k = s.size := by omega
      have hO2 := HO.out
      unfold parseO at hO2
      rw [cutB_none _ (fun hm => hno 32 (by rw [List.take_of_length_le (by rw [← Lib.size_eq]; exact Nat.le_refl _)]; exact hm) rfl)] at hO2
      simp only at hO2
      subst hO2
      clear HO hno
      have g0 := hTw.c0
      have g1 := hTw.f 0
      have g2 := (hTw.set0 (.string ⟨#[]⟩)).c1
      have g3 := (hTw.set0 (.string ⟨#[]⟩)).f 1
      go_wp2
      have hT4 := (hTw.set0 (.string ⟨#[]⟩)).set1 (.int .u8 0)
      exact bodyPost_ret (v := capsV ([], 0#8, 3)) (by simp [results, Tryd.results19, go_sem, hT4.c0, hT4.c1, capsV, capV]) rfl ⟨rfl, Below.set2 hB0 (by omega) _ _⟩
end Go.Proofs.YtjocjjclgebfnaaDoor
