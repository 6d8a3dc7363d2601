/- The program's pool: Quota, Size, Guard. -/
import Derived.Test.YtedknoadcdnioaaPlG
namespace Go.Proofs.Ytedknoadcdnioaa
open Go.RowKit Go.Maps
set_option linter.unusedVariables false
set_option maxRecDepth 100000
theorem poolCs_set (fb n : Nat) (M : Fin 6 → Int) (v : Value) (m : Int) : ∀ e : Fin 6, (poolCs fb n M v).set (1 + e.1) (.int .i64 m) = poolCs fb n (upd M e m) v := fun | 0 => rfl | 1 => rfl | 2 => rfl | 3 => rfl | 4 => rfl | 5 => rfl
theorem Pl.quota {B : Nat} {w : World} {b fb n : Nat} {v : Value} {q : Ps} (h : Pl B w b fb n v q) (e : Fin 6) (m : Int) : PStp B w (w.setCell ⟨b, 1 + e.1, none⟩ (.int .i64 m)) b fb n v ⟨q.O, q.G, upd q.M e m, q.E⟩ := by
  obtain ⟨n1, n2, n3⟩ := h.ne
  refine ⟨⟨v, ⟨h.g, h.gf, ?_, h.f.stay (Apart.set w ⟨b, 1 + e.1, none⟩ _) (fun e => n1 e.symm), h.e.kept (grownSets w b _ _) (.inr n2), h.o, h.n9⟩, fun _ e => .inl e⟩, (Apart.at w b _ _ (.inl rfl))⟩
  have := h.c.set (1 + e.1) (.int .i64 m)
  rw [poolCs_set] at this
  exact this
def qtE (e : Nat) (m : Int) : Int := if 6 ≤ e ∨ m < 0 ∨ 64 < m then 2 else 0
def qtQ (q : Ps) (e : Nat) (m : Int) : Ps := if h : e < 6 then (if m < 0 ∨ 64 < m then q else ⟨q.O, q.G, upd q.M ⟨e, h⟩ m, q.E⟩) else q
def gdC (n : Nat) (q : Ps) (f : Nat) : ByteArray × Int := if oF n q f = 0 then (.empty, 0) else q.G f
set_option maxHeartbeats 1000000 in
theorem guard_any (B b fb n : Nat) (v : Value) (q : Ps) (f : Nat) (hf : f ≤ 255) (w : World) (h : Pl B w b fb n v q) : Calls Try.prog 8 #[.pointer (some ⟨b, 0, none⟩), .int .u8 f] w fun r w' => r = .returned (.tuple #[.agg #[.string (gdC n q f).1, .int .u8 (gdC n q f).2], .bool (decide (oF n q f ≠ 0))]) ∧ Below w.heap.size w w' := by
  have hX := below_new w (.cells #[.string ⟨#[]⟩, .int .u8 0] 27)
  have hT : Two (w.alloc (.cells #[.string ⟨#[]⟩, .int .u8 0] 27)) w.heap.size 27 (.string ⟨#[]⟩) (.int .u8 0) := Two.new w _ _ _
  have h0 := h.low hX
  have cO := owners_any B b fb n v q f hf _ h0
  have HX := Hid3.mk hX
  unfold gdC
  by_cases hz : oF n q f = 0
  · have hzb : decide (oF n q f ≠ 0) = false := by simpa using hz
    rw [hzb]
    rw [hz] at cO ⊢
    rw [if_pos rfl]
    have HT := Hid3.mk hT
    have g0 := hT.c0
    have g1 := hT.f 0
    have g2 := (hT.set0 (.string ⟨#[]⟩)).c1
    have g3 := (hT.set0 (.string ⟨#[]⟩)).f 1
    clear h h0 hX hT
    go_enter Try.func8, Try.ntmps8
    go_wp2_with fail
    refine cO.mono ?_
    rintro r w' ⟨rfl, rfl⟩
    clear cO
    generalize w.alloc (.cells #[.string ⟨#[]⟩, .int .u8 0] 27) = W at *
    go_wp2
    have hT2 := (HT.out.set0 (.string ⟨#[]⟩)).set1 (.int .u8 0)
    exact bodyPost_ret (v := .tuple #[.agg #[.string ⟨#[]⟩, .int .u8 0], .bool false]) (by simp [results, Try.results8, go_sem, hT2.c0, hT2.c1]) rfl ⟨rfl, Below.set2 HX.out (by omega) _ _⟩
  · have hzb : decide (oF n q f ≠ 0) = true := by simpa using hz
    rw [if_neg hz, hzb]
    have hfn : f < n := by
      unfold oF at hz
      by_cases k : f < n
      · exact k
      · rw [if_neg k] at hz
        exact absurd rfl hz
    have hfz : (f : Int) < (n : Int) := by omega
    have hzz : (((oF n q f : Nat) : Int) == 0) = false := by simpa using hz
    have c0 := h0.cells.1
    obtain ⟨_, g1, g2⟩ := h0.f.at f hfn
    have g3 : (w.alloc (.cells #[.string ⟨#[]⟩, .int .u8 0] 27)).cell? ⟨fb, f * 3 + 1 + 1, none⟩ = some (.int .u8 (q.G f).2) := g2
    have hb := h0.c.lt
    have hfl := h0.f.lt
    have HT := Hid3.mk hT
    have k0 := hT.c0
    have k1 := hT.f 0
    have k2 := (hT.set0 (.string (q.G f).1)).c1
    have k3 := (hT.set0 (.string (q.G f).1)).f 1
    clear h h0 hX hT
    generalize (q.G f).1 = og at *
    generalize (q.G f).2 = orr at *
    generalize ((oF n q f : Nat) : Int) = ov at *
    go_enter Try.func8, Try.ntmps8
    go_wp2_with fail
    refine cO.mono ?_
    rintro r w' ⟨rfl, rfl⟩
    clear cO
    generalize w.alloc (.cells #[.string ⟨#[]⟩, .int .u8 0] 27) = W at *
    go_wp2
    have hT2 := (HT.out.set0 (.string og)).set1 (.int .u8 orr)
    exact bodyPost_ret (v := .tuple #[.agg #[.string og, .int .u8 orr], .bool true]) (by simp [results, Try.results8, go_sem, hT2.c0, hT2.c1]) rfl ⟨rfl, Below.set2 HX.out (by omega) _ _⟩
end Go.Proofs.Ytedknoadcdnioaa
