/- The program's pool: New. -/
import Derived.Test.YtedknoadcdnioaaPlH
import Derived.Laws.MakeOwn
namespace Go.Proofs.Ytedknoadcdnioaa
open Go.RowKit Go.Maps
set_option linter.unusedVariables false
set_option maxRecDepth 100000
def stZ : Array Value := #[.int .u64 0, .string ⟨#[]⟩, .int .u8 0]
theorem infoSt : (Try.prog.info? 49).map (fun i => (i.zero, i.size, i.bytes)) = some (some (.agg stZ), 3, 32) := by kernel_rfl
theorem heap_new (w : World) (o : Obj) : (w.alloc o).heap[w.heap.size]? = some o := Array.getElem?_push_size
theorem Fr.made (w : World) (n : Nat) : Fr (w.alloc (.cells (madeCells stZ (n * 3)) 49)) w.heap.size n (fun _ => 0) (fun _ => (.empty, 0)) := by
  refine ⟨madeCells stZ (n * 3), heap_new w _, size_madeCells _ _, fun i hi => ?_⟩
  have e0 : (i * 3) % 3 = 0 := by omega
  have e1 : (i * 3 + 1) % 3 = 1 := by omega
  have e2 : (i * 3 + 2) % 3 = 2 := by omega
  have s3 : stZ.size = 3 := rfl
  refine ⟨?_, ?_, ?_⟩ <;> unfold madeCells <;> rw [Array.getElem?_map, Array.getElem?_range, if_pos (by omega)] <;> simp only [Option.map_some, s3, e0, e1, e2] <;> rfl
theorem wpList_mkS {ops : Array Oper} {rest : List Oper} {o : Oper} {a : Act} {w : World} {Q : Exit → Act → World → Prop} (hgd : o.guard = none) (x y : Operand) (ho : o.op = .makeSlice 37 x y) (n : Nat) (hn : n ≤ 64) (hx : a.eval x = .int .i64 n) (hy : a.eval y = .int .i64 n)
    (h : ∀ w', Fr w' w.heap.size n (fun _ => 0) (fun _ => (.empty, 0)) → Below w.heap.size w w' → w'.heap.size = w.heap.size + 1 → wpList Try.prog ops Q rest (a.put o.dst (.slice (some ⟨w.heap.size, 0, none⟩) n n)) w') : wpList Try.prog ops Q (o :: rest) a w :=
  wpList_plain hgd fun K hK => by
    have hi := infoSt
    cases hI : Try.prog.info? 49 with
    | none => rw [hI] at hi; cases hi
    | some i =>
      rw [hI] at hi
      simp only [Option.map_some, Option.some.injEq, Prod.mk.injEq] at hi
      obtain ⟨i1, i2, i3⟩ := hi
      have hr := run_makeSlice (P := Try.prog) w 37 49 i (.agg stZ) (by kernel_rfl) hI i1 .i64 .i64 n n (by omega) (by omega) (by rw [i2]; omega) (by rw [i3]; omega) (by omega)
      rw [i2] at hr
      simp only [Int.toNat_natCast] at hr
      unfold Oper.wp execOp
      simp only [ho, hx, hy, Sem.run_bind, hr, Result.andThen_ok, Sem.run_pure]
      exact hK _ _ (h _ (Fr.made w n) (below_new w _) (by simp))
def mayK (n k : Nat) : Fin 6 → Int := fun i => if i.1 < k then n else 0
theorem mayK_set (n k : Nat) (hk : k < 6) : upd (mayK n k) ⟨k, hk⟩ n = mayK n (k + 1) := by
  funext i
  unfold upd mayK
  by_cases e : i = ⟨k, hk⟩
  · rw [if_pos e, e, if_pos (Nat.lt_succ_self k)]
  · have : i.1 ≠ k := fun x => e (Fin.ext x)
    rw [if_neg e]
    by_cases h : i.1 < k
    · rw [if_pos h, if_pos (by omega)]
    · rw [if_neg h, if_neg (by omega)]
/-- A pool that is being laid. -/
structure Nw (w wr : World) (b fb n k : Nat) : Prop where
  c : Cl wr b 41 (poolCs fb n (mayK n k) (.slice none 0 0))
  f : Fr wr fb n (fun _ => 0) (fun _ => (.empty, 0))
  bl : Below w.heap.size w wr
  gb : w.heap.size ≤ b
  gf : w.heap.size ≤ fb
  ne : fb ≠ b
theorem below_at {w wr : World} (b j : Nat) (v : Value) (h : Below w.heap.size w wr) (hb : w.heap.size ≤ b) : Below w.heap.size w (wr.setCell ⟨b, j, none⟩ v) := ⟨h.os, h.tape, h.output, by simpa [World.setCell] using h.size, fun k hk => (Below.heap_setCell wr ⟨b, j, none⟩ v k (fun e => by dsimp only at e; omega)).trans (h.block k hk)⟩
theorem Nw.set {w wr : World} {b fb n k : Nat} (h : Nw w wr b fb n k) (hk : k < 6) : Nw w (wr.setCell ⟨b, 1 + k, none⟩ (.int .i64 n)) b fb n (k + 1) := by
  refine ⟨?_, h.f.stay (Apart.set wr ⟨b, 1 + k, none⟩ _) h.ne, below_at b _ _ h.bl h.gb, h.gb, h.gf, h.ne⟩
  have := h.c.set (1 + k) (.int .i64 n)
  rw [poolCs_set fb n _ _ n ⟨k, hk⟩, mayK_set n k hk] at this
  exact this
theorem Nw.may {w wr : World} {b fb n k : Nat} (h : Nw w wr b fb n k) (hk : k < 6) : wr.cell? ⟨b, 1 + k, none⟩ = some (.int .i64 0) := by
  rw [h.c.cell]
  have := (show ∀ e : Fin 6, (poolCs fb n (mayK n k) (.slice none 0 0))[1 + e.1]? = some (.int .i64 (mayK n k e)) from fun | 0 => rfl | 1 => rfl | 2 => rfl | 3 => rfl | 4 => rfl | 5 => rfl) ⟨k, hk⟩
  rw [this]
  unfold mayK
  rw [if_neg (Nat.lt_irrefl k)]
def newP (n : Nat) : Ps := ⟨fun _ => 0, fun _ => (.empty, 0), mayK n 6, []⟩
theorem Nw.pl {w wr : World} {b fb n : Nat} (h : Nw w wr b fb n 6) (hn : n ≤ 9) : Pl w.heap.size wr b fb n (.slice none 0 0) (newP n) := ⟨h.gb, h.gf, h.c, h.f, by
  refine ⟨?_, .inl ⟨rfl, ?_⟩⟩ <;> first | rfl | exact ⟨rfl, rfl⟩ | (simp [newP, evCs]), fun i hi => by show (0 : Nat) < 64; omega, hn⟩
set_option maxHeartbeats 2000000 in
theorem new_in (n : Nat) (h1 : 1 ≤ n) (h64 : n ≤ 64) (w : World) : Calls Try.prog 4 #[.int .i64 n] w fun r w' => ∃ b fb, r = .returned (.pointer (some ⟨b, 0, none⟩)) ∧ Nw w w' b fb n 6 := by
  have h1z : ¬ (n : Int) < 1 := by omega
  have h2z : ¬ (64 : Int) < (n : Int) := by omega
  go_enter Try.func4, Try.ntmps4
  go_wp2_with (refine wpList_mkS rfl _ _ rfl n h64 rfl rfl ?_; intro w1 hF hB1 hs1; have HS := Hid3.mk (And.intro hF (And.intro hB1 hs1)); clear hF hB1 hs1)
  have HN : Hid3 (Nw w (w1.alloc (.cells (poolCs w.heap.size n (mayK n 0) (.slice none 0 0)).toArray 41)) w1.heap.size w.heap.size n 0) := ⟨⟨Cl.new w1 _ _, HS.out.1.below (below_new w1 _), HS.out.2.1.trans ((below_new w1 _).mono HS.out.2.1.size), HS.out.2.1.size, Nat.le_refl _, by have := HS.out.2.2; omega⟩⟩
  have hlb := HS.out.2.1.size
  clear HS
  generalize w.heap.size = fb at *
  generalize w1.heap.size = b at *
  go_loopw [4, 15] (fun _ s wr => ∃ k : Nat, k ≤ 6 ∧ s = .int .i64 k ∧ b < wr.heap.size ∧ Hid3 (Nw w wr b fb n k)) (fun _ s _ => 6 - (intOf s).toNat)
  case atStart => exact ⟨0, Nat.zero_le _, rfl, HN.out.c.lt, HN⟩
  case round =>
    obtain ⟨k, hk, rfl, hbl, HK⟩ := hrel
    by_cases hlt : k < 6
    · have hltz : (k : Int) < 6 := by omega
      have c0 := HK.out.may hlt
      have f0 := HK.out.c.thaw (1 + k)
      have HK2 := Hid3.mk (HK.out.set hlt)
      go_wp2
      go_roundw
      case rel => exact ⟨k + 1, by omega, by go_num, HK2.out.c.lt, HK2⟩
      case measure => simp [intOf]; omega
    · have hltz : ¬ (k : Int) < 6 := by omega
      have hk6 : k = 6 := by omega
      subst hk6
      go_wp2
      go_ret
      first | exact ⟨b, fb, rfl, HK.out⟩ | exact ⟨b, rfl, fb, HK.out⟩
end Go.Proofs.Ytedknoadcdnioaa
