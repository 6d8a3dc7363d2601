/- The program's Frames. -/
import Derived.Test.YtknmbecabgencaaRgF
import Derived.Test.YtknmbecabgencaaSo14
import Derived.RangeFuncBox
namespace Go.Proofs.Ytknmbecabgencaa
open Go.RowKit Go.Maps
set_option linter.unusedVariables false
set_option maxRecDepth 100000
theorem wpList_step {ops : Array Oper} {rest : List Oper} {o : Oper} {a : Act} {w : World} {Q : Exit → Act → World → Prop} (hgd : o.guard = none) (x : Operand) (ho : o.op = .next x false) (r rc : Nat) {K dn : List Int} (hx : a.eval x = .pointer (some ⟨r, 0, none⟩)) (h : It w r rc K dn) (hne : r ≠ rc)
    (hDone : dn.Perm K → wpList Try.prog ops Q rest (a.put o.dst (.tuple #[.bool false])) w)
    (hMore : ∀ z ∈ K, ∀ v w', (Instr.entry (.pointer (some ⟨r, 0, none⟩))).run Try.prog w' = .ok (.tuple #[.int .u8 z, v]) w' → It w' r rc K (dn ++ [z]) → Apart (XB r) w w' → w'.heap.size = w.heap.size → wpList Try.prog ops Q rest (a.put o.dst (.tuple #[.bool true, .int .u8 z, v])) w') : wpList Try.prog ops Q (o :: rest) a w := by
  rcases h.next hne o.type with ⟨h1, h2⟩ | ⟨z, hz, v, w', h1, h2, h3, h4, h5⟩
  · exact wpList_nxt hgd x ho _ _ hx h2 (hDone h1)
  · exact wpList_nxt hgd x ho _ _ hx h1 (hMore z hz v w' h2 h3 h4 h5)
theorem info_parts {t : TypeId} {z : Value} {s b : Nat} (h : (Try.prog.info? t).map (fun i => (i.zero, i.size, i.bytes)) = some (some z, s, b)) : ∃ i, Try.prog.info? t = some i ∧ i.zero = some z ∧ i.size = s ∧ i.bytes = b := by
  rw [Option.map_eq_some_iff] at h
  obtain ⟨i, hi, hz⟩ := h
  simp only [Prod.mk.injEq] at hz
  exact ⟨i, hi, hz.1, hz.2.1, hz.2.2⟩
theorem infoU : (Try.prog.info? 5).map (fun i => (i.zero, i.size, i.bytes)) = some (some (.int .u8 0), 1, 1) := by kernel_rfl
theorem own_stay {w w' : World} {B e z n : Nat} {v : Value} {xs : List Value} {X : Nat → Prop} (h : w.ownsRow B e z v n xs) (k : Apart X w w') (hx : ∀ g, X g → g < B) : w'.ownsRow B e z v n xs := by
  refine ⟨h.1, ?_⟩
  rcases h.2 with h0 | ⟨g, cap, cur, h1, h2, h3, h4⟩
  · exact .inl h0
  · refine .inr ⟨g, cap, cur, h1, h2, ?_, h4⟩
    rw [k.block g (Array.getElem?_eq_some_iff.1 h3).1 (fun e => by have := hx g e; omega)]
    exact h3
theorem few : ∀ (n : Nat) (l : List Int), l.Nodup → (∀ x ∈ l, 0 ≤ x ∧ x < n) → l.length ≤ n
  | 0, l, _, h => by
    cases l with
    | nil => exact Nat.le_refl _
    | cons x r => have := h x (by simp); omega
  | n + 1, l, hn, h => by
    have ih := few n (l.erase n) (hn.erase _) (fun x hx => by
      have h1 := (List.Nodup.mem_erase_iff hn).1 hx
      have := h x h1.2
      have := h1.1
      omega)
    have := List.length_erase (a := (n : Int)) (l := l)
    split at this <;> omega
def slLen : Value → Nat
  | .slice _ n _ => n
  | _ => 0
theorem mem_keys {q : St} {cs : List (Int × Value)} (hl : ∀ k, lk cs k = (q.C k).map cV) (f : Int) : f ∈ keys cs ↔ (q.C f).isSome = true := by
  have h1 := lk_none cs f
  rw [hl f] at h1
  cases e : q.C f with
  | none => rw [e] at h1; exact ⟨fun m => absurd m (h1.1 rfl), fun c => by cases c⟩
  | some c =>
    rw [e] at h1
    refine ⟨fun _ => rfl, fun _ => ?_⟩
    by_cases m : f ∈ keys cs
    · exact m
    · have := h1.2 m
      cases this
theorem It.under {w w' : World} {n r rc : Nat} {K dn : List Int} (h : It w r rc K dn) (k : Below n w w') (h1 : r < n) (h2 : rc < n) : It w' r rc K dn := by
  obtain ⟨arr, clock, seen, a1, a2, a3⟩ := h
  exact ⟨arr, clock, seen, (k.block rc h2).trans a1, (k.block r h1).trans a2, a3⟩
set_option maxHeartbeats 2000000 in
theorem frames_of (B b rc rf : Nat) (q : St) (w : World) (h : RgS B w b rc rf q) (hq : q.Ok) : Calls Try.prog 10 #[.pointer (some ⟨b, 0, none⟩)] w fun r w' => ∃ v, ∃ ys : List Int, r = .returned v ∧ (∀ f, f ∈ ys ↔ (q.C f).isSome = true) ∧ ys.Nodup ∧ ys.Pairwise (· ≤ ·) ∧ Rd w' (w.heap.size + 1) v ys ∧ Below w.heap.size w w' := by
  have hb := h.r.lt
  have c0 : w.cell? ⟨b, 0, none⟩ = some (.map (some rc)) := h.r.cell 0
  obtain ⟨cs, hm, hn, hl⟩ := h.mc
  obtain ⟨o, hrun, hit⟩ := It.start hm (t := 37) Try.underlying37
  have hK : ∀ f, f ∈ keys cs ↔ (q.C f).isSome = true := mem_keys hl
  have hfew : (keys cs).length ≤ 64 := few 64 (keys cs) hn (fun x hx => by
    have := (hK x).1 hx
    cases e : q.C x with
    | none => rw [e] at this; cases this
    | some c =>
      have h2 := hq.c x c.1 c.2 e
      exact ⟨h2.1, h2.2.1⟩)
  have hrc := hm.lt
  have hne : w.heap.size ≠ rc := fun e => by omega
  have HK := Hid3.mk (And.intro hK hn)
  have HI0 := Hid3.mk hit
  have HB0 : Hid3 (Below w.heap.size w (w.alloc o)) := ⟨below_new w o⟩
  have hs0 : (w.alloc o).heap.size = w.heap.size + 1 := by simp
  obtain ⟨i0, hi, hz0, hz1, hz2⟩ := info_parts infoU
  generalize keys cs = K at *
  generalize hWX : w.alloc o = WX at *
  clear h hm hn hl hit hK hq hWX
  go_enter Try.func10, Try.ntmps10
  go_wp2_with (refine wpList_rng rfl 37 _ rfl _ _ rfl hrun ?_)
  go_frame
  go_loopw [3] (fun s3 wr => ∃ dn : List Int, Hid3 (It wr w.heap.size rc K dn) ∧ wr.ownsRow (w.heap.size + 1) 5 1 s3 dn.length (dn.map u8V) ∧ Hid3 (Below w.heap.size w wr) ∧ w.heap.size + 1 ≤ wr.heap.size) (fun s3 _ => 65 - slLen s3)
  case atStart => exact ⟨[], HI0, World.ownsRow_nil _ _ _ _, HB0, by omega⟩
  case round =>
    obtain ⟨dn, HI, hown, HB, hsz⟩ := hrel
    have hle := HI.out.le
    obtain ⟨a0, cap0, hvf⟩ : ∃ a cap, u3 = .slice a dn.length cap := by
      rcases hown.2 with ⟨hv0, hk0⟩ | ⟨g, cap, cur, hv0, _⟩
      · exact ⟨none, 0, by rw [hk0]; exact hv0⟩
      · exact ⟨_, _, hv0⟩
    subst hvf
    go_wp2_with (at_next; refine wpList_step rfl _ rfl w.heap.size rc rfl HI.out hne ?_ ?_)
    · intro hp
      have cS := sort_c (w.heap.size + 1) wr _ dn hown hsz (by omega)
      go_wp2_with fail
      refine cS.mono ?_
      rintro r W ⟨rfl, ys, hy, hys, hownY, hBY⟩
      have HF : Hid3 ((∀ f, f ∈ ys ↔ (q.C f).isSome = true) ∧ ys.Nodup ∧ ys.Pairwise (· ≤ ·) ∧ Rd W (w.heap.size + 1) (.slice a0 dn.length cap0) ys ∧ Below w.heap.size w W) := ⟨⟨fun f => by rw [(hy.trans hp).mem_iff]; exact HK.out.1 f, (hy.trans hp).nodup_iff.2 HK.out.2, hys, hownY, HB.out.trans (hBY.mono (by omega))⟩⟩
      clear cS hownY hBY
      go_wp2
      go_ret
      exact ⟨_, ys, rfl, HF.out⟩
    · intro z hz v w1 hen hI1 hap hsz1
      have hown1 := own_stay hown hap (fun g e => by have e' : g = w.heap.size := e; omega)
      have HI1 := Hid3.mk hI1
      have HB1 : Hid3 (Below w.heap.size w w1) := ⟨HB.out.trans (hap.below w.heap.size (fun g e => by have e' : g = w.heap.size := e; omega) HB.out.size)⟩
      have hle1 := hI1.le
      rw [List.length_append, List.length_singleton] at hle1
      have hsz2 : w.heap.size + 1 ≤ w1.heap.size := by omega
      clear hI1 hap hown HI HB hsz1
      go_wp2_with (first | (refine wpList_ent rfl _ rfl _ _ rfl hen ?_) | (at_builtin; refine wpList_append_own _ rfl _ _ 34 rfl (w.heap.size + 1) 5 i0 (.int .u8 0) 1 1 Try.underlying34 hi hz0 hz1 hz2 rfl (by decide) _ _ _ rfl (hown1.alloc _) ⟨w1.heap.size, 0, none⟩ 1 1 [u8V z] rfl rfl (cell_one_new _ _ _) (by simp [u8V, Value.oneCell']) (by unfold maxLen; omega) (by omega) (by simp; omega) ?_; intro v' w2 hown' hgrow _; obtain ⟨g', cap', rfl⟩ := ownsRow_succ hown'))
      go_roundw
      case rel =>
        have hBB : Below (w.heap.size + 1) w1 w2 := ((Below.refl (w.heap.size + 1) w1).alloc hsz2 _).grown hgrow (by simp; omega) (fun j ej => (hown1.lt j ej).1)
        exact ⟨dn ++ [z], ⟨HI1.out.under hBB (by omega) (by omega)⟩, by rw [List.length_append, List.map_append]; exact hown', ⟨HB1.out.trans (hBB.mono (by omega))⟩, Nat.le_trans hsz2 hBB.size⟩
      case measure => simp [slLen]; omega
end Go.Proofs.Ytknmbecabgencaa
