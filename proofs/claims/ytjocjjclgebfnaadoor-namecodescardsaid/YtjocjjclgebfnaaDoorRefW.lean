/- The document's bytes and texts of capabilities. -/
import Derived.Test.YtjocjjclgebfnaaDoorRefU
import Derived.Test.YtjocjjclgebfnaaDoorRefV
import Derived.Test.YtjocjjclgebfnaaDoorNameS
import Derived.Test.YtjocjjclgebfnaaDoorNameT
namespace Go.Proofs.YtjocjjclgebfnaaDoor
open Go.RowKit Go.Shelf
set_option linter.unusedVariables false

set_option maxHeartbeats 1000000 in
theorem rencode_ok (n : ByteArray) (r : BitVec 8) (w : World) (hT : NTabs w) (hR : rightB n.data.toList r.toNat = true) :
    Calls Tryd.prog 13 #[capV n r.toNat] w fun e W' => ∃ v, e = .returned (.tuple #[v, .int .i64 0]) ∧ Byt W' v (encL n.data.toList r) ∧ Below w.heap.size w W' := by
  have hl : n.size ≤ 150 := by rw [Lib.size_eq]; exact right_len hR
  have cR := fun w hT => rright_any n r.toNat w (by omega) hT
  rw [hR] at cR
  unfold capV at cR ⊢
  have hwr : IntKind.u8.wrap (n.size : Int) = (n.size : Int) := by
    rw [IntKind.wrap_u8]
    omega
  have hT1 : Hid (NTabs (w.alloc (.cells #[.string n, .int .u8 r.toNat] 34))) := hT.later ((Below.refl _ w).alloc (Nat.le_refl _) _)
  go_enter Tryd.func13, Tryd.ntmps13
  go_wp2_with fail
  refine (cR _ hT1.out).mono ?_
  rintro e W1 ⟨rfl, hB1⟩
  rw [World.size_alloc] at hB1
  have hs1 := hB1.size
  rw [World.size_alloc] at hs1
  have hC := (Two.new w 34 (.string n) (.int .u8 r.toNat)).below hB1 (by omega)
  have a0 := hC.c0
  have a1 := hC.c1
  have hC2 := hC.alloc (.cells #[.int .u8 r.toNat, .int .u8 n.size] 5)
  have a2 := hC2.c0
  have hB1' : Below w.heap.size w W1 := ((Below.refl _ w).alloc (Nat.le_refl _) _).trans (hB1.mono (by omega))
  have hB2' := hB1'.alloc (by omega) (.cells #[.int .u8 r.toNat, .int .u8 n.size] 5)
  have hown : (W1.alloc (.cells #[.int .u8 r.toNat, .int .u8 n.size] 5)).ownsRow w.heap.size 5 1 (.slice (some ⟨W1.heap.size, 0, none⟩) 2 2) 2 [.int .u8 r.toNat, .int .u8 n.size] :=
    ⟨rfl, .inr ⟨W1.heap.size, 2, _, rfl, by omega, World.alloc_heap_new W1 _, Nat.le_refl _, by unfold maxLen; omega, rfl, rfl⟩⟩
  obtain ⟨i0, hi, hz0, hz1, hz2⟩ := info_parts info8
  clear hR hB1 hC hC2
  go_wp2_with (at_builtin; refine Lib.wpList_append_own_string _ rfl _ _ 35 9 rfl w.heap.size 5 i0 Tryd.underlying35 Tryd.underlying9 hi hz0 hz1 hz2 _ 2 _ rfl hown n rfl (by unfold maxLen; omega) (by omega) (by simp; omega) ?_; intro v' w' hown' hgrow _)
  go_ret2
  refine ⟨v', rfl, Byt.of_own (n := 2 + n.size) (base := w.heap.size) ?_, hB2'.grown hgrow (by simp; omega) (fun j hj => (hown.lt j hj).1)⟩
  have e : (encL n.data.toList r).map byteV = [.int .u8 r.toNat, .int .u8 n.size] ++ Lib.strCells n := by
    have e1 : (UInt8.ofNat n.data.toList.length).toNat = n.size := by
      rw [Lib.size_eq] at hl ⊢
      simp at hl ⊢
      omega
    unfold encL Lib.strCells
    simp only [List.map_cons, byteV, bits_byte, e1]
    rfl
  rw [e]
  exact hown'
theorem rencode_no (n : ByteArray) (r : BitVec 8) (w : World) (hn : n.size ≤ 1000) (hT : NTabs w) (hR : rightB n.data.toList r.toNat = false) :
    Calls Tryd.prog 13 #[capV n r.toNat] w fun e W' => e = .returned (.tuple #[.slice none 0 0, .int .i64 3]) ∧ Below w.heap.size w W' := by
  have cR := fun w hT => rright_any n r.toNat w (by omega) hT
  rw [hR] at cR
  unfold capV at cR ⊢
  have hT1 : Hid (NTabs (w.alloc (.cells #[.string n, .int .u8 r.toNat] 34))) := hT.later ((Below.refl _ w).alloc (Nat.le_refl _) _)
  go_enter Tryd.func13, Tryd.ntmps13
  go_wp2_with fail
  refine (cR _ hT1.out).mono ?_
  rintro e W1 ⟨rfl, hB1⟩
  rw [World.size_alloc] at hB1
  have hB1' : Below w.heap.size w W1 := ((Below.refl _ w).alloc (Nat.le_refl _) _).trans (hB1.mono (by omega))
  go_wp2
  go_ret2
  exact ⟨rfl, hB1'⟩
theorem rprint_any (n : ByteArray) (r : BitVec 8) (w : World) (hn : n.size ≤ 1000) (hT : NTabs w) :
    Calls Tryd.prog 17 #[capV n r.toNat] w fun e W' => e = .returned (textV (printO n.data.toList r)) ∧ Below w.heap.size w W' := by
  unfold printO
  have cR := fun w hT => rright_any n r.toNat w hn hT
  have cT := fun w => rrights_any r w
  have ho := rightsO_len r
  obtain ⟨o1, o2, hO⟩ : ∃ o1 o2, rightsO r = (o1, o2) := ⟨_, _, rfl⟩
  rw [hO] at cT ho ⊢
  have ho1 : ¬ 9223372036854775807 < n.size + 1 + o1.length := by simp only at ho; omega
  clear ho
  clear hO
  unfold textV at cT
  unfold capV at cR ⊢
  simp only at cT ⊢
  have hT1 : Hid (NTabs (w.alloc (.cells #[.string n, .int .u8 r.toNat] 34))) := hT.later ((Below.refl _ w).alloc (Nat.le_refl _) _)
  cases hR : rightB n.data.toList r.toNat with
  | false =>
    rw [hR] at cR
    clear hR
    go_enter Tryd.func17, Tryd.ntmps17
    go_wp2_with fail
    refine (cR _ hT1.out).mono ?_
    rintro e W1 ⟨rfl, hB1⟩
    rw [World.size_alloc] at hB1
    have hB1' : Below w.heap.size w W1 := ((Below.refl _ w).alloc (Nat.le_refl _) _).trans (hB1.mono (by omega))
    go_wp2
    go_ret2
    exact ⟨rfl, hB1'⟩
  | true =>
    rw [hR] at cR
    clear hR
    go_enter Tryd.func17, Tryd.ntmps17
    go_wp2_with fail
    refine (cR _ hT1.out).mono ?_
    rintro e W1 ⟨rfl, hB1⟩
    rw [World.size_alloc] at hB1
    have hC := (Two.new w 34 (.string n) (.int .u8 r.toNat)).below hB1 (by omega)
    have a0 := hC.c0
    have a1 := hC.c1
    have hB1' : Below w.heap.size w W1 := ((Below.refl _ w).alloc (Nat.le_refl _) _).trans (hB1.mono (by omega))
    go_wp2_with fail
    refine (cT _).mono ?_
    rintro e W2 ⟨rfl, hw⟩
    rw [hw]
    clear hw W2
    go_wp2
    go_ret2
    exact ⟨by rw [cat3]; rfl, hB1'⟩

set_option maxHeartbeats 2000000 in
theorem rdecode_two (cap : Nat) (x y : UInt8) (t : List UInt8) (w : World) (hT : NTabs w) (g off q c2 : Nat) (hq : (¬ cap = 2 ∧ q = off + 2 ∧ c2 = cap - 2) ∨ (cap = 2 ∧ q = off ∧ c2 = 0)) (hcap : t.length + 2 ≤ cap) (hn : t.length ≤ 500)
    (hb : Byt w (.slice (some ⟨g, off, none⟩) (t.length + 2) cap) (x :: y :: t))
    (h0 : w.cell? ⟨g, off, none⟩ = some (.int .u8 (x.toNat : Int)))
    (ht : Hid (∀ j b, t[j]? = some b → w.cell? ⟨g, q + j, none⟩ = some (.int .u8 (b.toNat : Int)))) :
    Calls Tryd.prog 15 #[.slice (some ⟨g, off, none⟩) (t.length + 2) cap] w fun e W' => e = .returned (capsV (if y.toNat = t.length ∧ rightB t (x.toNat : Int) = true then (t, BitVec.ofNat 8 x.toNat, (0 : Int)) else ([], 0#8, 3))) ∧ Below w.heap.size w W' := by
  have hx : x.toNat < 256 := x.toNat_lt
  have hy : y.toNat < 256 := y.toNat_lt
  have hg : g < w.heap.size := World.block_lt_of_cell? _ _ h0
  have hB0 : Below w.heap.size w (w.alloc (.cells #[.string ⟨#[]⟩, .int .u8 0] 34)) := (Below.refl _ w).alloc (Nat.le_refl _) _
  have k0 := (hB0.cell (p := ⟨g, off, none⟩) hg).trans h0
  have hz : (0 : Int) < (t.length : Int) + 2 := by omega
  have HB : Hid (Byt w (.slice (some ⟨g, off, none⟩) (t.length + 2) cap) (x :: y :: t)) := hb
  have HT : Hid (NTabs w) := hT
  clear hb hT
  have hS : Hid (∀ W', Below w.heap.size w W' → (W'.cell? ⟨g, off, none⟩ = some (.int .u8 (x.toNat : Int)) ∧ (convert 35 9 (.slice (some ⟨g, q, none⟩) t.length c2)).run Tryd.prog W' = .ok (.string ⟨t.toArray⟩) W') ∧ Hid (Below w.heap.size w W')) := fun W' hb =>
    ⟨⟨(hb.cell (p := ⟨g, off, none⟩) hg).trans h0, byt_text W' 35 g q c2 t Tryd.underlying35 (fun j b hj => (hb.cell (p := ⟨g, q + j, none⟩) hg).trans (ht.out j b hj))⟩, hb⟩
  have hbx := byte_bits x
  cases hR : rightB t (x.toNat : Int) with
  | false =>
    have cE := fun w hT => rencode_no ⟨t.toArray⟩ (BitVec.ofNat 8 x.toNat) w (by show t.length ≤ 1000; omega) hT (by rw [hbx]; exact hR)
    rw [hbx] at cE
    unfold capV at cE
    rw [if_neg (by simp)]
    clear hbx
    rcases hq with ⟨hc2, rfl, rfl⟩ | ⟨rfl, rfl, rfl⟩
    · clear hR
      go_enter Tryd.func15, Tryd.ntmps15
      go_wp2_with fail
      go_region_held3 (fun w' => (w'.cell? ⟨g, off, none⟩ = some (.int .u8 (x.toNat : Int)) ∧ (convert 35 9 (.slice (some ⟨g, off + 2, none⟩) t.length (cap - 2))).run Tryd.prog w' = .ok (.string ⟨t.toArray⟩) w') ∧ Hid (Below w.heap.size w w')) (first | exact hS.out _ hB0.drew | exact hS.out _ (hB0.alloc (by simp) _).drew) (fail)
      clear hS ht
      have hBB := (hB0.alloc (by simp) (.cells #[.string ⟨t.toArray⟩, .int .u8 (x.toNat : Int)] 34)).drew
      have hTw := ((Two.new w 34 (.string ⟨#[]⟩) (.int .u8 0)).alloc (.cells #[.string ⟨t.toArray⟩, .int .u8 (x.toNat : Int)] 34)).drew
      have hC := (Two.new (w.alloc (.cells #[.string ⟨#[]⟩, .int .u8 0] 34)) 34 (.string ⟨t.toArray⟩) (.int .u8 (x.toNat : Int))).drew
      rw [World.size_alloc] at hC
      have hsz : ((w.alloc (.cells #[.string ⟨#[]⟩, .int .u8 0] 34)).alloc (.cells #[.string ⟨t.toArray⟩, .int .u8 (x.toNat : Int)] 34)).drew.heap.size = w.heap.size + 2 := by simp [World.drew]
      have hNT : Hid (NTabs ((w.alloc (.cells #[.string ⟨#[]⟩, .int .u8 0] 34)).alloc (.cells #[.string ⟨t.toArray⟩, .int .u8 (x.toNat : Int)] 34)).drew) := HT.out.later hBB
      go_wp2_with fail
      refine (cE _ hNT.out).mono ?_
      rintro e W3 ⟨rfl, hB3⟩
      have hs3 := hB3.size
      rw [hsz] at hB3 hs3
      replace hTw := hTw.below hB3 (by omega)
      replace hC := hC.below hB3 (by omega)
      have hB3' : Below w.heap.size w W3 := hBB.trans (hB3.mono (by omega))
      clear hB3 hBB
      clear hC
      have g0 := hTw.c0
      have g1 := hTw.f 0
      have g2 := (hTw.set0 (.string ⟨#[]⟩)).c1
      have g3 := (hTw.set0 (.string ⟨#[]⟩)).f 1
      go_wp2
      have hT4 := (hTw.set0 (.string ⟨#[]⟩)).set1 (.int .u8 0)
      exact bodyPost_ret (v := capsV ([], 0#8, 3)) (by simp [results, Tryd.results15, go_sem, hT4.c0, hT4.c1, capsV, capV]) rfl ⟨rfl, Below.set2 hB3' (by omega) _ _⟩
    · obtain rfl : t = [] := List.eq_nil_of_length_eq_zero (by omega)
      clear hR
      replace hS := hS.out
      have hS : Hid (∀ W', Below w.heap.size w W' → (W'.cell? ⟨g, q, none⟩ = some (.int .u8 (x.toNat : Int)) ∧ (convert 35 9 (.slice (some ⟨g, q, none⟩) 0 0)).run Tryd.prog W' = .ok (.string ⟨#[]⟩) W') ∧ Hid (Below w.heap.size w W')) := hS
      go_enter Tryd.func15, Tryd.ntmps15
      go_wp2_with fail
      go_region_held3 (fun w' => (w'.cell? ⟨g, q, none⟩ = some (.int .u8 (x.toNat : Int)) ∧ (convert 35 9 (.slice (some ⟨g, q, none⟩) 0 0)).run Tryd.prog w' = .ok (.string ⟨#[]⟩) w') ∧ Hid (Below w.heap.size w w')) (first | exact hS.out _ hB0.drew | exact hS.out _ (hB0.alloc (by simp) _).drew) (fail)
      clear hS ht
      have hBB := (hB0.alloc (by simp) (.cells #[.string ⟨#[]⟩, .int .u8 (x.toNat : Int)] 34)).drew
      have hTw := ((Two.new w 34 (.string ⟨#[]⟩) (.int .u8 0)).alloc (.cells #[.string ⟨#[]⟩, .int .u8 (x.toNat : Int)] 34)).drew
      have hC := (Two.new (w.alloc (.cells #[.string ⟨#[]⟩, .int .u8 0] 34)) 34 (.string ⟨#[]⟩) (.int .u8 (x.toNat : Int))).drew
      rw [World.size_alloc] at hC
      have hsz : ((w.alloc (.cells #[.string ⟨#[]⟩, .int .u8 0] 34)).alloc (.cells #[.string ⟨#[]⟩, .int .u8 (x.toNat : Int)] 34)).drew.heap.size = w.heap.size + 2 := by simp [World.drew]
      have hNT : Hid (NTabs ((w.alloc (.cells #[.string ⟨#[]⟩, .int .u8 0] 34)).alloc (.cells #[.string ⟨#[]⟩, .int .u8 (x.toNat : Int)] 34)).drew) := HT.out.later hBB
      go_wp2_with fail
      refine (cE _ hNT.out).mono ?_
      rintro e W3 ⟨rfl, hB3⟩
      have hs3 := hB3.size
      rw [hsz] at hB3 hs3
      replace hTw := hTw.below hB3 (by omega)
      replace hC := hC.below hB3 (by omega)
      have hB3' : Below w.heap.size w W3 := hBB.trans (hB3.mono (by omega))
      clear hB3 hBB
      clear hC
      have g0 := hTw.c0
      have g1 := hTw.f 0
      have g2 := (hTw.set0 (.string ⟨#[]⟩)).c1
      have g3 := (hTw.set0 (.string ⟨#[]⟩)).f 1
      go_wp2
      have hT4 := (hTw.set0 (.string ⟨#[]⟩)).set1 (.int .u8 0)
      exact bodyPost_ret (v := capsV ([], 0#8, 3)) (by simp [results, Tryd.results15, go_sem, hT4.c0, hT4.c1, capsV, capV]) rfl ⟨rfl, Below.set2 hB3' (by omega) _ _⟩
  | true =>
    have cE := fun w hT => rencode_ok ⟨t.toArray⟩ (BitVec.ofNat 8 x.toNat) w hT (by rw [hbx]; exact hR)
    rw [hbx] at cE
    unfold capV at cE
    have hl := right_len hR
    have hE : encL (⟨t.toArray⟩ : ByteArray).data.toList (BitVec.ofNat 8 x.toNat) = x :: UInt8.ofNat t.length :: t := by
      unfold encL
      rw [hbx]
      simp
    rw [hE] at cE
    clear hE
    rcases hq with ⟨hc2, rfl, rfl⟩ | ⟨rfl, rfl, rfl⟩
    · clear hR
      by_cases hlen : y.toNat = t.length
      · have hyl : UInt8.ofNat t.length = y := by rw [← hlen]; simp
        rw [hyl] at cE
        rw [if_pos ⟨hlen, rfl⟩]
        clear hyl hlen
        have hfin : Hid (capsV (t, BitVec.ofNat 8 x.toNat, 0) = .tuple #[.agg #[.string ⟨t.toArray⟩, .int .u8 (x.toNat : Int)], .int .i64 0]) := by
          show Value.tuple #[.agg #[.string ⟨t.toArray⟩, .int .u8 ((BitVec.ofNat 8 x.toNat).toNat : Int)], .int .i64 0] = _
          rw [hbx]
        clear hbx
        go_enter Tryd.func15, Tryd.ntmps15
        go_wp2_with fail
        go_region_held3 (fun w' => (w'.cell? ⟨g, off, none⟩ = some (.int .u8 (x.toNat : Int)) ∧ (convert 35 9 (.slice (some ⟨g, off + 2, none⟩) t.length (cap - 2))).run Tryd.prog w' = .ok (.string ⟨t.toArray⟩) w') ∧ Hid (Below w.heap.size w w')) (first | exact hS.out _ hB0.drew | exact hS.out _ (hB0.alloc (by simp) _).drew) (fail)
        clear hS ht
        have hBB := (hB0.alloc (by simp) (.cells #[.string ⟨t.toArray⟩, .int .u8 (x.toNat : Int)] 34)).drew
        have hTw := ((Two.new w 34 (.string ⟨#[]⟩) (.int .u8 0)).alloc (.cells #[.string ⟨t.toArray⟩, .int .u8 (x.toNat : Int)] 34)).drew
        have hC := (Two.new (w.alloc (.cells #[.string ⟨#[]⟩, .int .u8 0] 34)) 34 (.string ⟨t.toArray⟩) (.int .u8 (x.toNat : Int))).drew
        rw [World.size_alloc] at hC
        have hsz : ((w.alloc (.cells #[.string ⟨#[]⟩, .int .u8 0] 34)).alloc (.cells #[.string ⟨t.toArray⟩, .int .u8 (x.toNat : Int)] 34)).drew.heap.size = w.heap.size + 2 := by simp [World.drew]
        have hNT : Hid (NTabs ((w.alloc (.cells #[.string ⟨#[]⟩, .int .u8 0] 34)).alloc (.cells #[.string ⟨t.toArray⟩, .int .u8 (x.toNat : Int)] 34)).drew) := HT.out.later hBB
        go_wp2_with fail
        refine (cE _ hNT.out).mono ?_
        rintro e W3 ⟨v3, rfl, hv3, hB3⟩
        have hs3 := hB3.size
        rw [hsz] at hB3 hs3
        replace hTw := hTw.below hB3 (by omega)
        replace hC := hC.below hB3 (by omega)
        have hB3' : Below w.heap.size w W3 := hBB.trans (hB3.mono (by omega))
        clear hB3 hBB
        have k1 := hv3.text (by simp)
        have k2 := (HB.out.below hB3' (Nat.le_refl _)).text (by simp)
        have a0 := hC.c0
        have a1 := hC.c1
        clear hC hv3
        generalize (⟨(x :: y :: t).toArray⟩ : ByteArray) = XX at *
        have g0 := hTw.c0
        have g1 := hTw.f 0
        have g2 := (hTw.set0 (.string ⟨t.toArray⟩)).c1
        have g3 := (hTw.set0 (.string ⟨t.toArray⟩)).f 1
        go_wp2
        have hT4 := (hTw.set0 (.string ⟨t.toArray⟩)).set1 (.int .u8 (x.toNat : Int))
        exact bodyPost_ret (v := .tuple #[.agg #[.string ⟨t.toArray⟩, .int .u8 (x.toNat : Int)], .int .i64 0]) (by simp [results, Tryd.results15, go_sem, hT4.c0, hT4.c1]) rfl ⟨by rw [hfin.out], Below.set2 hB3' (by omega) _ _⟩
      · have hyl : ((⟨(x :: UInt8.ofNat t.length :: t).toArray⟩ : ByteArray).toList == (⟨(x :: y :: t).toArray⟩ : ByteArray).toList) = false := by
          rw [beq_eq_false_iff_ne, Lib.toList_data, Lib.toList_data]
          intro e
          simp only [List.cons.injEq] at e
          apply hlen
          rw [← e.2.1]
          simp
          omega
        rw [if_neg (fun h => hlen h.1)]
        clear hlen hbx
        go_enter Tryd.func15, Tryd.ntmps15
        go_wp2_with fail
        go_region_held3 (fun w' => (w'.cell? ⟨g, off, none⟩ = some (.int .u8 (x.toNat : Int)) ∧ (convert 35 9 (.slice (some ⟨g, off + 2, none⟩) t.length (cap - 2))).run Tryd.prog w' = .ok (.string ⟨t.toArray⟩) w') ∧ Hid (Below w.heap.size w w')) (first | exact hS.out _ hB0.drew | exact hS.out _ (hB0.alloc (by simp) _).drew) (fail)
        clear hS ht
        have hBB := (hB0.alloc (by simp) (.cells #[.string ⟨t.toArray⟩, .int .u8 (x.toNat : Int)] 34)).drew
        have hTw := ((Two.new w 34 (.string ⟨#[]⟩) (.int .u8 0)).alloc (.cells #[.string ⟨t.toArray⟩, .int .u8 (x.toNat : Int)] 34)).drew
        have hC := (Two.new (w.alloc (.cells #[.string ⟨#[]⟩, .int .u8 0] 34)) 34 (.string ⟨t.toArray⟩) (.int .u8 (x.toNat : Int))).drew
        rw [World.size_alloc] at hC
        have hsz : ((w.alloc (.cells #[.string ⟨#[]⟩, .int .u8 0] 34)).alloc (.cells #[.string ⟨t.toArray⟩, .int .u8 (x.toNat : Int)] 34)).drew.heap.size = w.heap.size + 2 := by simp [World.drew]
        have hNT : Hid (NTabs ((w.alloc (.cells #[.string ⟨#[]⟩, .int .u8 0] 34)).alloc (.cells #[.string ⟨t.toArray⟩, .int .u8 (x.toNat : Int)] 34)).drew) := HT.out.later hBB
        go_wp2_with fail
        refine (cE _ hNT.out).mono ?_
        rintro e W3 ⟨v3, rfl, hv3, hB3⟩
        have hs3 := hB3.size
        rw [hsz] at hB3 hs3
        replace hTw := hTw.below hB3 (by omega)
        replace hC := hC.below hB3 (by omega)
        have hB3' : Below w.heap.size w W3 := hBB.trans (hB3.mono (by omega))
        clear hB3 hBB
        have k1 := hv3.text (by simp)
        have k2 := (HB.out.below hB3' (Nat.le_refl _)).text (by simp)
        clear hC hv3
        generalize (⟨(x :: UInt8.ofNat t.length :: t).toArray⟩ : ByteArray) = XX at *
        generalize (⟨(x :: y :: t).toArray⟩ : ByteArray) = YY at *
        have g0 := hTw.c0
        have g1 := hTw.f 0
        have g2 := (hTw.set0 (.string ⟨#[]⟩)).c1
        have g3 := (hTw.set0 (.string ⟨#[]⟩)).f 1
        go_wp2
        have hT4 := (hTw.set0 (.string ⟨#[]⟩)).set1 (.int .u8 0)
        exact bodyPost_ret (v := capsV ([], 0#8, 3)) (by simp [results, Tryd.results15, go_sem, hT4.c0, hT4.c1, capsV, capV]) rfl ⟨rfl, Below.set2 hB3' (by omega) _ _⟩
    · obtain rfl : t = [] := List.eq_nil_of_length_eq_zero (by omega)
      cases hR
end Go.Proofs.YtjocjjclgebfnaaDoor
