/- Both forks. -/
import Derived.Test.YtboelnkeejmjnaaLawRgO
import Derived.Shelf.SlMaps.Clone
import Derived.Deep.WholeRow
import Derived.Deep.RegionHeld3
namespace Go.Proofs.Ytboelnkeejmjnaa
open Go.RowKit Go.Maps
set_option linter.unusedVariables false
set_option maxRecDepth 100000
theorem wpList_stores {ops : Array Oper} {rest : List Oper} {o : Oper} {a : Act} {w w' : World} {Q : Exit → Act → World → Prop} (hgd : o.guard = none) (ty : TypeId) (p x : Operand) (ho : o.op = .store ty p x) (v u : Value) (hp : a.eval p = v) (hx : a.eval x = u) (hL : (Instr.storeAt ty v u).run Try.prog w = .ok () w')
    (h : wpList Try.prog ops Q rest (a.put o.dst undef) w') : wpList Try.prog ops Q (o :: rest) a w :=
  wpList_plain hgd fun K hK => by
    unfold Oper.wp execOp
    simp only [ho, hp, hx, Sem.run_bind, hL, Result.andThen_ok, Sem.run_pure]
    exact hK _ _ h
set_option maxHeartbeats 2000000 in
theorem mclone_c (r : Nat) (cs : List (Int × Value)) (w : World) (h : Mp w r .u8 cs) : Calls Try.prog 32 #[.map (some r)] w fun e w' => e = .returned (.map (some w.heap.size)) ∧ Mp w' w.heap.size .u8 cs ∧ Below w.heap.size w w' := by
  obtain ⟨arr, c, h1, h2⟩ := h
  have hq := fun w => run_eql_map_nil_sl (P := Try.prog) w 50 _ _ (some r) Try.underlying50
  have HF : Hid3 (Mp (w.alloc (.map arr c)) w.heap.size .u8 cs ∧ Below w.heap.size w (w.alloc (.map arr c))) := ⟨⟨arr, c, heap_alloc_new w _, h2⟩, below_new w _⟩
  clear h2
  go_enter Try.func32, Try.ntmps32
  go_wp2
  rw [run_callFunc_extern Try.func44 (by kernel_rfl) (by kernel_rfl) (by kernel_rfl) (e := Extern.MapsClone.clone) (by kernel_rfl), run_maps_clone_sl w 50 h1]
  simp only [Result.andThen]
  rw [Oper.upon_value]
  go_wp2
  rw [run_typeAssert_map_sl _ 50 20 _ _ _ Try.underlying50]
  simp only [Result.andThen]
  rw [Oper.upon_value]
  go_wp2
  go_ret
  exact ⟨rfl, HF.out⟩
set_option maxHeartbeats 2000000 in
theorem mclone_f (r : Nat) (cs : List (Int × Value)) (w : World) (h : Mp w r .i64 cs) : Calls Try.prog 33 #[.map (some r)] w fun e w' => e = .returned (.map (some w.heap.size)) ∧ Mp w' w.heap.size .i64 cs ∧ Below w.heap.size w w' := by
  obtain ⟨arr, c, h1, h2⟩ := h
  have hq := fun w => run_eql_map_nil_sl (P := Try.prog) w 51 _ _ (some r) Try.underlying51
  have HF : Hid3 (Mp (w.alloc (.map arr c)) w.heap.size .i64 cs ∧ Below w.heap.size w (w.alloc (.map arr c))) := ⟨⟨arr, c, heap_alloc_new w _, h2⟩, below_new w _⟩
  clear h2
  go_enter Try.func33, Try.ntmps33
  go_wp2
  rw [run_callFunc_extern Try.func44 (by kernel_rfl) (by kernel_rfl) (by kernel_rfl) (e := Extern.MapsClone.clone) (by kernel_rfl), run_maps_clone_sl w 51 h1]
  simp only [Result.andThen]
  rw [Oper.upon_value]
  go_wp2
  rw [run_typeAssert_map_sl _ 51 20 _ _ _ Try.underlying51]
  simp only [Result.andThen]
  rw [Oper.upon_value]
  go_wp2
  go_ret
  exact ⟨rfl, HF.out⟩
set_option maxHeartbeats 4000000 in
theorem fork_any (B b rc rf : Nat) (q : St) (w : World) (h : RgS B w b rc rf q) : Calls Try.prog 15 #[.pointer (some ⟨b, 0, none⟩)] w fun e w' => ∃ fb fc ff, e = .returned (.pointer (some ⟨fb, 0, none⟩)) ∧ RgS w.heap.size w' fb fc ff q ∧ Below w.heap.size w w' := by
  obtain ⟨cs, hcs, hcn, hcl⟩ := h.mc
  obtain ⟨fs, hfs, hfn, hfl⟩ := h.mf
  have c1 := mclone_c rc cs w.drew (hcs.below (below_drew w))
  have HM : Hid3 (∀ W, Below w.heap.size w W → Mp W rf .i64 fs) := ⟨fun W hW => hfs.below hW⟩
  have HS : Hid3 (∀ W, Below w.heap.size w W → W.cell? ⟨b, 0, none⟩ = some (.map (some rc)) ∧ W.cell? ⟨b, 1, none⟩ = some (.map (some rf))) := ⟨fun W hW => ⟨(h.r.below hW).cell 0, (h.r.below hW).cell 1⟩⟩
  have hS0 := Hid3.mk (HS.out w.drew (below_drew w))
  have HF : Hid3 (∀ W1 W2, Below w.heap.size w W1 → Mp W1 w.heap.size .u8 cs → Below W1.heap.size W1 W2 → Mp W2 W1.heap.size .i64 fs → RgS w.heap.size (W2.alloc (.cells #[.map (some w.heap.size), .map (some W1.heap.size)] 53)) W2.heap.size w.heap.size W1.heap.size q ∧ Below w.heap.size w (W2.alloc (.cells #[.map (some w.heap.size), .map (some W1.heap.size)] 53))) := ⟨fun W1 W2 h1 h2 h3 h4 => by
    have hX := below_new W2 (.cells #[.map (some w.heap.size), .map (some W1.heap.size)] 53)
    have h12 := h1.trans (h3.mono h1.size)
    have hlt := h2.lt
    exact ⟨⟨h12.size, Nat.le_refl _, h1.size, by omega, Cl.new W2 _ _, ⟨cs, (h2.below h3).below hX, hcn, hcl⟩, ⟨fs, h4.below hX, hfn, hfl⟩⟩, h12.trans (hX.mono h12.size)⟩⟩
  clear h hcs hcn hcl hfs hfn hfl
  go_enter Try.func15, Try.ntmps15
  go_wp2_with fail
  go_region_held3 (fun w' => w'.cell? ⟨b, 0, none⟩ = some (.map (some rc)) ∧ w'.cell? ⟨b, 1, none⟩ = some (.map (some rf))) (with_reducible (first | exact hS0.out | exact hS1.out | exact hS2.out | exact hS3.out)) ((first
    | (go_at_call 32; (with_reducible refine c1.mono ?_); rintro e W1 ⟨rfl, hm1, hB1⟩; have HB1 : Hid3 (Below w.heap.size w W1) := Hid3.mk ((below_drew w).trans hB1); have HM1 := Hid3.mk hm1; have hS1 := Hid3.mk (HS.out W1 HB1.out); have cm := mclone_f rf fs W1 (HM.out W1 HB1.out); clear hm1 hB1)
    | (go_at_call 33; (with_reducible refine cm.mono ?_); rintro e W2 ⟨rfl, hm2, hB2⟩; have hS2 := Hid3.mk (HS.out W2 (HB1.out.trans (hB2.mono HB1.out.size))); have HI0 := Hid3.mk (HF.out W1 W2 HB1.out HM1.out hB2 hm2); have hS3 := Hid3.mk (HS.out _ HI0.out.2); clear hm2 hB2)))
  clear c1 cm hS0 hS1 hS2 hS3 HS HM HF HM1 HB1
  go_wp2
  go_ret
  exact ⟨_, _, _, rfl, HI0.out⟩
set_option maxHeartbeats 4000000 in
theorem rfork_any (B b : Nat) (q : St) (w : World) (h : Rf B w b q.C) (B' : Nat) (hB : B' ≤ w.heap.size) : Calls Try.prog 16 #[.pointer (some ⟨b, 0, none⟩)] w fun r w' => r = .returned (.pointer (some ⟨w.heap.size, 0, none⟩)) ∧ Rf B' w' w.heap.size q.C ∧ Below w.heap.size w w' := by
  obtain ⟨C, hH, hsz, hat⟩ := h.r
  have H : Hid3 (Rf B' (w.alloc (.cells C 66)) w.heap.size q.C ∧ Below w.heap.size w (w.alloc (.cells C 66))) := ⟨⟨hB, C, heap_alloc_new w _, hsz, hat⟩, below_new w _⟩
  have hi : (Try.prog.info? 66).map (·.size) = some C.size := by rw [hsz]; kernel_rfl
  have h1 : C.all (·.oneCell') = true := by
    rw [Array.all_eq_true]
    intro i hi
    by_cases h64 : i < 64
    · have := (hat i h64).1
      rw [Array.getElem?_eq_getElem hi] at this
      injection this with this
      rw [this]
      rfl
    · have := (hat (i - 64) (by omega)).2
      rw [show 64 + (i - 64) = i by omega, Array.getElem?_eq_getElem hi] at this
      injection this with this
      rw [this]
      rfl
  have hz := zeroR w
  have hzs : z128.toArray.size = C.size := by rw [hsz]; simp [z128]
  generalize z128.toArray = Z at *
  clear h hB hat
  go_enter Try.func16, Try.ntmps16
  go_wp2_with (first | (refine wpList_load_row rfl 66 _ rfl b rfl 66 C (0, 0) _ hH Try.underlying66 rfl hi ?_) | (refine wpList_stores rfl 66 _ _ rfl _ (.agg C) rfl rfl (run_storeAt_new w 66 _ C hi hzs h1) ?_))
  go_ret
  exact ⟨rfl, H.out⟩
end Go.Proofs.Ytboelnkeejmjnaa
