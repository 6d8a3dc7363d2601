/- A text is cut at its first blank; the capability that a text says. -/
import Derived.Test.YtjocjjclgebfnaaDoorNameM
namespace Go.Proofs.YtjocjjclgebfnaaDoor
open Go.RowKit Go.Shelf
set_option linter.unusedVariables false

theorem cutT_in (s b a : ByteArray) (i : Int) (f : Bool) (w : World) (hi : Lib.indexByte s.data.toList 32 = i) (hs : s.size ≤ 100000)
    (h : (f = true ∧ 0 ≤ i ∧ i < s.size ∧ s.extract 0 i.toNat = b ∧ s.extract (i + 1).toNat s.size = a) ∨ (f = false ∧ i = -1 ∧ b = s ∧ a = ⟨#[]⟩)) :
    Calls Tryd.prog 46 #[.string s, .string ⟨#[32]⟩] w fun e w' => e = .returned (.tuple #[.string b, .string a, .bool f]) ∧ Below w.heap.size w w' := by
  have cI := fun w => Tryd.stringslite_Index_one s 32 w
  rw [hi] at cI
  clear hi
  rcases h with ⟨rfl, h0, h1, rfl, rfl⟩ | ⟨rfl, rfl, rfl, rfl⟩
  · have h0' : ¬ i < 0 := by omega
    obtain ⟨k, rfl⟩ : ∃ k : Nat, i = (k : Int) := ⟨i.toNat, by omega⟩
    have h2 : k < s.size := by omega
    have h3 : ((k : Int) + 1).toNat = k + 1 := by omega
    rw [h3]
    simp only [Int.toNat_natCast]
    go_enter Tryd.func46, Tryd.ntmps46
    go_wp2_with fail
    refine (cI _).mono ?_
    rintro e W1 ⟨rfl, hw⟩
    rw [hw]
    clear hw W1
    go_wp2
    go_quiet (fail)
    go_wp2
    go_ret3
    exact ⟨rfl, ⟨rfl, rfl, rfl, Nat.le_refl _, fun _ _ => rfl⟩⟩
  · go_enter Tryd.func46, Tryd.ntmps46
    go_wp2_with fail
    refine (cI _).mono ?_
    rintro e W1 ⟨rfl, hw⟩
    rw [hw]
    clear hw W1
    go_wp2
    go_ret3
    exact ⟨rfl, Below.refl _ _⟩
theorem cutU_in (s b a : ByteArray) (f : Bool) (w : World)
    (h : ∀ w, Calls Tryd.prog 46 #[.string s, .string ⟨#[32]⟩] w fun e w' => e = .returned (.tuple #[.string b, .string a, .bool f]) ∧ Below w.heap.size w w') :
    Calls Tryd.prog 33 #[.string s, .string ⟨#[32]⟩] w fun e w' => e = .returned (.tuple #[.string b, .string a, .bool f]) ∧ Below w.heap.size w w' := by
  go_enter Tryd.func33, Tryd.ntmps33
  go_wp2_with fail
  refine (h _).mono ?_
  rintro e W1 ⟨rfl, hB1⟩
  go_wp2
  go_ret3
  exact ⟨rfl, hB1⟩
theorem cutB_some (s : ByteArray) (p q : List UInt8) (w : World) (hs : s.size ≤ 100000) (hd : s.data.toList = p ++ 32 :: q) (h : (32 : UInt8) ∉ p) (hi : Lib.indexByte s.data.toList 32 = (p.length : Int)) :
    Calls Tryd.prog 33 #[.string s, .string ⟨#[32]⟩] w fun e w' => e = .returned (.tuple #[.string ⟨p.toArray⟩, .string ⟨q.toArray⟩, .bool true]) ∧ Below w.heap.size w w' := by
  have hz : s.size = p.length + 1 + q.length := by rw [Lib.size_eq, hd]; simp; omega
  refine cutU_in s _ _ _ w fun w => cutT_in s _ _ _ _ w hi hs (.inl ⟨rfl, by omega, by omega, ?_, ?_⟩)
  · rw [Int.toNat_natCast, extract_mk s 0 _ (by omega), hd]
    simp
  · have e : ((p.length : Int) + 1).toNat = p.length + 1 := by omega
    rw [e, extract_mk s _ _ (Nat.le_refl _), hd, hz]
    congr 2
    rw [List.take_of_length_le (by simp; omega), show p ++ 32 :: q = (p ++ [32]) ++ q by simp, List.drop_left' (by simp)]
theorem cutB_no (s : ByteArray) (w : World) (hs : s.size ≤ 100000) (hi : Lib.indexByte s.data.toList 32 = -1) :
    Calls Tryd.prog 33 #[.string s, .string ⟨#[32]⟩] w fun e w' => e = .returned (.tuple #[.string s, .string ⟨#[]⟩, .bool false]) ∧ Below w.heap.size w w' :=
  cutU_in s _ _ _ w fun w => cutT_in s _ _ _ _ w hi hs (.inr ⟨rfl, rfl, rfl, rfl⟩)

set_option maxHeartbeats 1000000 in
theorem parse_mid (s : ByteArray) (n l : List UInt8) (f : Bool) (w : World) (hn : n.length ≤ 1000)
    (cC : ∀ w, Calls Tryd.prog 33 #[.string s, .string ⟨#[32]⟩] w fun e w' => e = .returned (.tuple #[.string ⟨n.toArray⟩, .string ⟨l.toArray⟩, .bool f]) ∧ Below w.heap.size w w') :
    Calls Tryd.prog 18 #[.string s] w fun e W' => e = .returned (capsV (if (readO l).2 = 0 ∧ rightB n ((readO l).1.toNat : Int) = true then (n, (readO l).1, 0) else ([], 0#8, 3))) ∧ Below w.heap.size w W' := by
  have cR := fun w => read_any ⟨l.toArray⟩ w
  have e5 : (⟨l.toArray⟩ : ByteArray).data.toList = l := rfl
  rw [e5] at cR
  clear e5
  have he := readO_err l
  generalize readO l = o at *
  obtain ⟨r, e⟩ := o
  simp only at he
  have cT := fun w => right_any ⟨n.toArray⟩ r.toNat w (by show n.length ≤ 1000; omega)
  have e6 : (⟨n.toArray⟩ : ByteArray).data.toList = n := rfl
  rw [e6] at cT
  clear e6
  unfold bitsV at cR
  unfold capV at cT
  simp only at cR
  by_cases h0 : e = 0
  · subst h0
    cases hR : rightB n (r.toNat : Int) with
    | true =>
      rw [hR] at cT
      rw [if_pos ⟨rfl, rfl⟩]
      clear hR he
      go_enter Tryd.func18, Tryd.ntmps18
      go_wp2_with fail
      refine (cC _).mono ?_
      rintro e W1 ⟨rfl, hB1⟩
      rw [World.size_alloc] at hB1
      go_wp2_with fail
      refine (cR _).mono ?_
      rintro e W2 ⟨rfl, hB2⟩
      have hs1 := hB1.size
      rw [World.size_alloc] at hs1
      replace hB2 := hB1.trans (hB2.mono (by omega))
      have hs2 := hB2.size
      rw [World.size_alloc] at hs2
      have hT := (Two.new w 34 (.string ⟨#[]⟩) (.int .u8 0)).below hB2 (by omega)
      have hB2' : Below w.heap.size w W2 := ((Below.refl _ w).alloc (Nat.le_refl _) _).trans (hB2.mono (by omega))
      clear hB2
      go_wp2_with fail
      refine (cT _).mono ?_
      rintro e W3 ⟨rfl, hB3⟩
      rw [World.size_alloc] at hB3
      have hs3 := hB3.size
      rw [World.size_alloc] at hs3
      have hC := (Two.new W2 34 (.string ⟨n.toArray⟩) (.int .u8 r.toNat)).below hB3 (by omega)
      have hT3 := (hT.alloc (.cells #[.string ⟨n.toArray⟩, .int .u8 r.toNat] 34)).below hB3 (by omega)
      have hB3' : Below w.heap.size w W3 := (hB2'.alloc (by omega) _).trans (hB3.mono (by omega))
      clear hB3 hT
      have a0 := hC.c0
      have a1 := hC.c1
      clear hC
      have g0 := hT3.c0
      have g1 := hT3.f 0
      have g2 := (hT3.set0 (.string ⟨n.toArray⟩)).c1
      have g3 := (hT3.set0 (.string ⟨n.toArray⟩)).f 1
      go_wp2
      have hT4 := (hT3.set0 (.string ⟨n.toArray⟩)).set1 (.int .u8 r.toNat)
      exact bodyPost_ret (v := capsV (n, r, 0)) (by simp [results, Tryd.results18, go_sem, hT4.c0, hT4.c1, capsV, capV]) rfl ⟨rfl, Below.set2 hB3' (by omega) _ _⟩
    | false =>
      rw [hR] at cT
      rw [if_neg (by simp)]
      clear hR he
      go_enter Tryd.func18, Tryd.ntmps18
      go_wp2_with fail
      refine (cC _).mono ?_
      rintro e W1 ⟨rfl, hB1⟩
      rw [World.size_alloc] at hB1
      go_wp2_with fail
      refine (cR _).mono ?_
      rintro e W2 ⟨rfl, hB2⟩
      have hs1 := hB1.size
      rw [World.size_alloc] at hs1
      replace hB2 := hB1.trans (hB2.mono (by omega))
      have hs2 := hB2.size
      rw [World.size_alloc] at hs2
      have hT := (Two.new w 34 (.string ⟨#[]⟩) (.int .u8 0)).below hB2 (by omega)
      have hB2' : Below w.heap.size w W2 := ((Below.refl _ w).alloc (Nat.le_refl _) _).trans (hB2.mono (by omega))
      clear hB2
      go_wp2_with fail
      refine (cT _).mono ?_
      rintro e W3 ⟨rfl, hB3⟩
      rw [World.size_alloc] at hB3
      have hs3 := hB3.size
      rw [World.size_alloc] at hs3
      have hC := (Two.new W2 34 (.string ⟨n.toArray⟩) (.int .u8 r.toNat)).below hB3 (by omega)
      have hT3 := (hT.alloc (.cells #[.string ⟨n.toArray⟩, .int .u8 r.toNat] 34)).below hB3 (by omega)
      have hB3' : Below w.heap.size w W3 := (hB2'.alloc (by omega) _).trans (hB3.mono (by omega))
      clear hB3 hT
      clear hC
      have g0 := hT3.c0
      have g1 := hT3.f 0
      have g2 := (hT3.set0 (.string ⟨#[]⟩)).c1
      have g3 := (hT3.set0 (.string ⟨#[]⟩)).f 1
      go_wp2
      have hT4 := (hT3.set0 (.string ⟨#[]⟩)).set1 (.int .u8 0)
      exact bodyPost_ret (v := capsV ([], 0#8, 3)) (by simp [results, Tryd.results18, go_sem, hT4.c0, hT4.c1, capsV, capV]) rfl ⟨rfl, Below.set2 hB3' (by omega) _ _⟩
  · rcases he with he | he
    · exact absurd he h0
    · have e1 : r = 0#8 := congrArg Prod.fst he
      have e2 : e = 3 := congrArg Prod.snd he
      subst e1 e2
      rw [if_neg (by simp)]
      clear he h0 cT
      go_enter Tryd.func18, Tryd.ntmps18
      go_wp2_with fail
      refine (cC _).mono ?_
      rintro e W1 ⟨rfl, hB1⟩
      rw [World.size_alloc] at hB1
      go_wp2_with fail
      refine (cR _).mono ?_
      rintro e W2 ⟨rfl, hB2⟩
      have hs1 := hB1.size
      rw [World.size_alloc] at hs1
      replace hB2 := hB1.trans (hB2.mono (by omega))
      have hs2 := hB2.size
      rw [World.size_alloc] at hs2
      have hT3 := (Two.new w 34 (.string ⟨#[]⟩) (.int .u8 0)).below hB2 (by omega)
      have hB3' : Below w.heap.size w W2 := ((Below.refl _ w).alloc (Nat.le_refl _) _).trans (hB2.mono (by omega))
      clear hB2
      have g0 := hT3.c0
      have g1 := hT3.f 0
      have g2 := (hT3.set0 (.string ⟨#[]⟩)).c1
      have g3 := (hT3.set0 (.string ⟨#[]⟩)).f 1
      go_wp2
      have hT4 := (hT3.set0 (.string ⟨#[]⟩)).set1 (.int .u8 0)
      exact bodyPost_ret (v := capsV ([], 0#8, 3)) (by simp [results, Tryd.results18, go_sem, hT4.c0, hT4.c1, capsV, capV]) rfl ⟨rfl, Below.set2 hB3' (by omega) _ _⟩
theorem parse_any (s : ByteArray) (w : World) (hs : s.size ≤ 1000) :
    Calls Tryd.prog 18 #[.string s] w fun e W' => e = .returned (capsV (parseO s.data.toList)) ∧ Below w.heap.size w W' := by
  unfold parseO
  rcases index_form s.data.toList with ⟨h1, h2⟩ | ⟨p, q, h1, h2, h3⟩
  · rw [cutB_none _ h2]
    have := parse_mid s s.data.toList [] false w (by rw [← Lib.size_eq]; exact hs) (fun w => cutB_no s w (by omega) h1)
    have e : (readO []).2 ≠ 0 := by decide
    rw [if_neg (fun h => e h.1)] at this
    exact this
  · have hl : p.length ≤ 1000 := by
      have := congrArg List.length h1
      rw [← Lib.size_eq] at this
      simp at this
      omega
    have := parse_mid s p q true w hl (fun w => cutB_some s p q w (by omega) h1 h2 h3)
    rw [h1, cutB_at q p h2]
    exact this
end Go.Proofs.YtjocjjclgebfnaaDoor
