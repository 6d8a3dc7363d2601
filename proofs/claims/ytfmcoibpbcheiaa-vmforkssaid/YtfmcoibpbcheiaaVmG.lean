/- The program's vm: Fill and Poke of one byte. -/
import Derived.Test.YtfmcoibpbcheiaaVmF
import Derived.OrdersHeld
namespace Go.Proofs.Ytfmcoibpbcheiaa
open Go.RowKit Go.Maps
set_option linter.unusedVariables false
set_option maxRecDepth 100000
theorem takeD {ops : Array Oper} {Q : Exit → Act → World → Prop} {S : World → Prop} {i : Nat} {oi : Oper} {v : Value} {fuel : Nat} {listed : Array Bool} {a : Act} {w : World} (d : Option Nat) (hi : ops[i]? = some oi) (hd : oi.dst = d)
    (hs : Region.noSelect ops = true) (hf : Region.free .any ops listed i = true) (hr : (Region.ready .any ops listed).contains i = true)
    (hQ : ∀ c a w, Q (.panic c) (a.put d v) w → Q (.panic c) a w) (hy : YieldsIf Try.prog ops S oi v a) (hS : S w)
    (h : wpAnyH Try.prog .any ops Q S fuel (listed.setIfInBounds i true) (a.put d v) w) : wpAnyH Try.prog .any ops Q S (fuel + 1) listed a w := by
  subst hd
  exact wpAnyH_take hi hs hf hr hQ hy hS h
theorem step_look {w : World} {ops : Array Oper} {o : Oper} {a : Act} {K : Act → World → Prop} {Q : Exit → Act → World → Prop} {E : Prop} (d : Option Nat) (hd : o.dst = d) (hgd : o.guard = none) (t : TypeId) (x i : Operand) (c : Bool) (ho : o.op = .lookup t x i c) (xv iv u : Value) (hx : a.eval x = xv) (hi : a.eval i = iv) (hL : (Instr.lookup t xv iv c).run Try.prog w = .ok u w)
    (h : K (a.put d u) w) : if Region.wanted o (yielded ops a.tmps) = true then Oper.wp Try.prog o a w K Q else E := by
  subst hd
  have hw : Region.wanted o (yielded ops a.tmps) = true := by simp [Region.wanted, hgd]
  rw [if_pos hw]
  unfold Oper.wp execOp
  simp only [ho, hx, hi, Sem.run_bind, hL, Result.andThen_ok, Sem.run_pure]
  exact h
theorem step_mupd {w w' : World} {ops : Array Oper} {o : Oper} {a : Act} {K : Act → World → Prop} {Q : Exit → Act → World → Prop} {E : Prop} (d : Option Nat) (hd : o.dst = d) (hgd : o.guard = none) (t : TypeId) (x i v : Operand) (ho : o.op = .mapUpdate t x i v) (xv iv vv : Value) (hx : a.eval x = xv) (hi : a.eval i = iv) (hv : a.eval v = vv) (hL : (Instr.mapUpdate t xv iv vv).run Try.prog w = .ok () w')
    (h : K (a.put d undef) w') : if Region.wanted o (yielded ops a.tmps) = true then Oper.wp Try.prog o a w K Q else E := by
  subst hd
  have hw : Region.wanted o (yielded ops a.tmps) = true := by simp [Region.wanted, hgd]
  rw [if_pos hw]
  unfold Oper.wp execOp
  simp only [ho, hx, hi, hv, Sem.run_bind, hL, Result.andThen_ok, Sem.run_pure]
  exact h
def ndI (s : Vs) (f : Int) : Int := if ownB s f = true then 0 else 1
set_option maxHeartbeats 4000000 in
theorem needs_one (B : Nat) (l : Lo) (s : Vs) (p : Fin 6) (k : Nat) (f : Int) (w : World) (h : Vb B w l s) (hp : s.has p = true) (hk : k < 16) (hn : s.pg p (k : Int) = some f) (hf : f = -1 ∨ (0 ≤ f ∧ f < 64)) : Calls Try.prog 41 #[.pointer (some ⟨l.b, 0, none⟩), .map (some (l.r p)), .int .i64 k, .int .i64 k] w fun r w' => r = .returned (.tuple #[.int .i64 (ndI s f), .int .i64 0]) ∧ w' = w := by
  unfold ndI
  have hL := lookP (h.sp p hp).2 (k : Int)
  rw [hn] at hL
  have cO := own_any B l s f hf w h
  generalize l.r p = r at *
  simp only [Option.getD_some, Option.isSome_some] at *
  have hk2 : ¬ ((k : Int) + 1 ≤ k) := by omega
  have hk3 : IntKind.i64.wrap ((k : Int) + 1) = (k : Int) + 1 := by rw [IntKind.wrap_i64]; omega
  obtain ⟨R, hR⟩ : ∃ R : Int, (if ownB s f = true then (0 : Int) else 1) = R := ⟨_, rfl⟩
  rw [hR]
  have HR := Hid3.mk hR
  generalize ownB s f = o at *
  generalize hkk : (k : Int) = d at *
  clear h hn hf hR hkk
  go_enter Try.func41, Try.ntmps41
  go_wp2
  go_loopw [10, 11] (fun c i W => W = w ∧ ((i = .int .i64 d ∧ c = .int .i64 0) ∨ (i = .int .i64 (d + 1) ∧ c = .int .i64 R))) (fun _ i _ => (d + 1 - intOf i).toNat)
  case atStart => exact ⟨rfl, .inl ⟨rfl, rfl⟩⟩
  case round =>
    obtain ⟨rfl, ⟨rfl, rfl⟩ | ⟨rfl, rfl⟩⟩ := hrel
    · cases o
      · have e : R = 1 := by rw [← HR.out]; rfl
        subst e
        go_wp2_with (refine wpList_look rfl 60 _ _ rfl _ _ _ rfl rfl hL ?_)
        refine cO.mono ?_
        rintro r W ⟨rfl, rfl⟩
        go_wp2
        go_roundw
        case rel => exact ⟨by first | rfl | trivial, .inr ⟨by first | rfl | trivial, by first | rfl | trivial⟩⟩
        case measure => simp [intOf]; omega
      · have e : R = 0 := by rw [← HR.out]; rfl
        subst e
        go_wp2_with (refine wpList_look rfl 60 _ _ rfl _ _ _ rfl rfl hL ?_)
        refine cO.mono ?_
        rintro r W ⟨rfl, rfl⟩
        go_wp2
        go_roundw
        case rel => exact ⟨by first | rfl | trivial, .inr ⟨by first | rfl | trivial, by first | rfl | trivial⟩⟩
        case measure => simp [intOf]; omega
    · go_wp2
      go_ret2
      exact ⟨rfl, rfl⟩
end Go.Proofs.Ytfmcoibpbcheiaa
