/- A list with the same, in links of its own. A new table; another one with the same; what Room refuses. -/
import Derived.Test.YtdegjmceeggldaaExY
import Derived.Test.YtdegjmceeggldaaExT
import Derived.Deep.RegionHeld3
namespace Go.Proofs.Ytdegjmceeggldaa
open Go.RowKit Go.Shelf Go.Maps
set_option linter.unusedVariables false
set_option maxRecDepth 100000
attribute [local go_sem] Oper.semAt_some
theorem Lks.kept {W W' : World} {row : Option Nat} (hg : W.grownBy W' row) (hr : ∀ r, row = some r → ∃ o : Obj, W.heap[r]? = some o ∧ o.isCells = false) : ∀ {ns : List Ln}, Lks W ns → Lks W' ns
  | [], _ => trivial
  | _ :: _, h => ⟨h.1.kept hg hr, Lks.kept hg hr h.2⟩
theorem Cl.putD {W : World} {b D : Nat} {t : TypeId} {c : List Value} {o : Obj} {x : Option (List Deferred)} (h : Cl W b t c) (hD : W.heap[D]? = some (.deferred x)) : Cl (W.putObj D o) b t c := by
  have hne : b ≠ D := fun e => by
    rw [← e] at hD
    have := h.symm.trans hD
    injection this with this
    cases this
  exact (World.putObj_heap_other hne).trans h
theorem Lks.putD {W : World} {D : Nat} {o : Obj} {x : Option (List Deferred)} (hD : W.heap[D]? = some (.deferred x)) : ∀ {ns : List Ln}, Lks W ns → Lks (W.putObj D o) ns
  | [], _ => trivial
  | _ :: _, h => ⟨h.1.putD hD, Lks.putD hD h.2⟩
/-- A list that is being copied. -/
structure Nw (w V : World) (A B : Nat) (pre : List Ex) : Prop where
  ex : ∃ P b y, Lks V (P ++ [(b, y)]) ∧ (P ++ [(b, y)]).map Prod.snd = zEx :: pre ∧ ((P ++ [(b, y)]).map Prod.fst).Nodup ∧ (∀ p ∈ P ++ [(b, y)], w.heap.size ≤ p.1 ∧ p.1 ≠ B) ∧ (P ++ [(b, y)]).head?.map Prod.fst = some A ∧ Boxed V B 39 (.pointer (some ⟨b, 0, none⟩))
  bl : Below w.heap.size w V
theorem Nw.own {w : World} {A B n : Nat} (hn : w.heap.size ≤ n) : OwnFrom n (fun (pre : List Ex) V => Nw w V A B pre) := fun s V V' row hs hg hr => by
  obtain ⟨P, b, y, h1, h2, h3, h4, h5, h6⟩ := hs.ex
  exact ⟨⟨P, b, y, h1.kept hg (fun r e => (hr r e).2), h2, h3, h4, h5, Cl.kept h6 hg (fun r e => (hr r e).2)⟩, hs.bl.trans ((Below.refl _ V).grown hg hs.bl.size (fun k e => Nat.le_trans hn (hr k e).1))⟩
end Go.Proofs.Ytdegjmceeggldaa
namespace Go.Proofs.Ytdegjmceeggldaa
open Go.RowKit Go.Shelf Go.Maps
set_option linter.unusedVariables false
set_option maxRecDepth 100000
theorem new_no (n : Int) (w : World) (h : n < 1 ∨ 64 < n) : Calls Try.prog 4 #[.int .i64 n] w fun e w' => e = .returned (.pointer none) ∧ w' = w := by
  by_cases h1 : n < 1
  · clear h
    go_enter Try.func4, Try.ntmps4
    go_wp2
    go_ret
    exact ⟨rfl, rfl⟩
  · have h2 : 64 < n := h.resolve_left h1
    clear h
    go_enter Try.func4, Try.ntmps4
    go_wp2
    go_ret
    exact ⟨rfl, rfl⟩
theorem new_ok (n : Nat) (w : World) (h1 : 1 ≤ n) (h2 : n ≤ 64) : Calls Try.prog 4 #[.int .i64 n] w fun e w' => e = .returned (.pointer (some ⟨w.heap.size + 1, 0, none⟩)) ∧ Pt w.heap.size w' ⟨w.heap.size + 1, w.heap.size, []⟩ (xt0 n) ∧ Below w.heap.size w w' := by
  have z1 : ¬ (n : Int) < 1 := by omega
  have z2 : ¬ (64 : Int) < n := by omega
  have hP : Hid3 (Pt w.heap.size ((w.alloc (.cells (lkCs zEx []).toArray 41)).alloc (.cells #[.int .i64 n, .pointer (some ⟨w.heap.size, 0, none⟩), .int .u32 0] 43)) ⟨w.heap.size + 1, w.heap.size, []⟩ (xt0 n) ∧ Below w.heap.size w ((w.alloc (.cells (lkCs zEx []).toArray 41)).alloc (.cells #[.int .i64 n, .pointer (some ⟨w.heap.size, 0, none⟩), .int .u32 0] 43))) := by
    have b1 := (Cl.new w 41 (lkCs zEx [])).alloc (.cells #[.int .i64 n, .pointer (some ⟨w.heap.size, 0, none⟩), .int .u32 0] 43)
    have b2 := Cl.new (w.alloc (.cells (lkCs zEx []).toArray 41)) 43 [.int .i64 n, .pointer (some ⟨w.heap.size, 0, none⟩), .int .u32 0]
    rw [World.size_alloc] at b2
    refine ⟨⟨⟨b2, b2.lt, ⟨⟨b1, trivial⟩, by simp, ?_⟩⟩, rfl, by simp [Lo.all], ?_, xt0_ok n h1 h2⟩, ((Below.refl _ w).alloc (Nat.le_refl _) _).alloc (by simp) _⟩
    · intro p hp
      rw [List.mem_singleton.1 hp]
      exact b1.lt
    · rintro k (rfl | hk)
      · exact Nat.le_succ _
      · have : k = w.heap.size := by simpa [Lo.all] using hk
        omega
  rw [show (lkCs zEx []).toArray = #[.int .u32 0, .int .i64 0, .int .i64 0, .int .u8 0, .string ⟨#[]⟩, .int .u8 0, .pointer none] from rfl] at hP
  go_enter Try.func4, Try.ntmps4
  go_wp2
  go_ret
  exact ⟨rfl, hP.out⟩
end Go.Proofs.Ytdegjmceeggldaa
