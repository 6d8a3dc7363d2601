/- The program's area: Upcall. -/
import Derived.Test.YtgoofonogdhhoabArH
namespace Go.Proofs.Ytgoofonogdhhoab
open Go.RowKit Go.Maps
set_option linter.unusedVariables false
set_option maxRecDepth 100000
def upS (k : Fin 5) (v : Int) (q : Ar) : Rg := { q.s with pc := (q.en k).getD 0, a1 := v, a2 := k.1 }
def upQ (k : Fin 5) (v : Int) (q : Ar) : Ar := keepQ q.s { q with s := upS k v q }
theorem Ac.up {B : Nat} {w : World} {b : Nat} {q : Ar} (h : Ac B w b q) (hal : q.al = true) (k : Fin 5) (v : Int) : AStp B w (((w.setCell ⟨b, 1, none⟩ (.int .u16 ((q.en k).getD 0))).setCell ⟨b, 3, none⟩ (.int .u16 v)).setCell ⟨b, 4, none⟩ (.int .u16 k.1)) b { q with s := upS k v q } :=
  ⟨⟨h.g, ((h.c.set 1 _).set 3 _).set 4 _, h.ok.1, fun e => by rw [show q.al = false from e] at hal; cases hal⟩, ((Apart.at (X := XB b) _ b _ _ rfl).trans (Apart.at (X := XB b) _ b _ _ rfl)).trans (Apart.at (X := XB b) _ b _ _ rfl)⟩
/-- What is asked behind a region that ends as ever, and nothing where it panics. -/
def onlyN (Q : Exit → Act → World → Prop) : Exit → Act → World → Prop
  | .normal, a, w => Q .normal a w
  | _, _, _ => False
theorem onlyN_n {Q : Exit → Act → World → Prop} {a : Act} {w : World} (h : Q .normal a w) : onlyN Q .normal a w := h
theorem wp_normal {c : Code} {Q : Exit → Act → World → Prop} {a : Act} {w : World} (h : c.wp Try.prog (onlyN Q) a w) : c.wp Try.prog Q a w :=
  Code.wp_mono (fun e a w h => by cases e <;> first | exact h | exact h.elim) h
set_option maxHeartbeats 4000000 in
theorem upcall_go (B b : Nat) (q : Ar) (k : Fin 5) (v : Int) (w : World) (h : Ac B w b q) (hal : q.al = true) (he : (q.en k).isSome = true) (h4 : q.kp.length < 4) : Calls Try.prog 6 #[.pointer (some ⟨b, 0, none⟩), .int .u8 k.1, .int .u16 v] w fun r w' => r = .returned (.int .i64 0) ∧ AStp B w w' b (upQ k v q) := by
  have hmf : ∀ (fn : Fn) (first cap : Array Value) (w : World), (Instr.makeFunc fn first cap).run Try.prog w = .ok (.func fn first cap) w := fun _ _ _ _ => rfl
  have hX := below_new w (.cells #[.pointer (some ⟨b, 0, none⟩)] 27)
  have hA := h.below hX
  have cR := ready_ok B b q k _ hA
  have hR : readyE k q = 0 := by unfold readyE; rw [if_pos hal, if_pos he, if_neg (by omega)]
  rw [hR] at cR
  have hb := h.lt
  have HC := Hid3.mk (Cl.new w 27 [.pointer (some ⟨b, 0, none⟩)])
  have HX := Hid3.mk hX
  have HA := Hid3.mk hA
  have HL := Hid3.mk (And.intro hal h4)
  have hk5 := k.2
  have h2 : (k.1 : Int) < 5 := by omega
  have hw : IntKind.u16.wrap (k.1 : Int) = k.1 := by rw [IntKind.wrap_u16]; omega
  clear h hX hA hR hal he h4
  go_enter_defers Try.func6, Try.ntmps6
  go_wp2_with fail
  refine cR.mono ?_
  rintro r W ⟨rfl, hB⟩
  have hA1 := HA.out.below hB
  have HC1 := Hid3.mk (HC.out.below hB)
  have p0 : W.cell? ⟨w.heap.size, 0, none⟩ = some (.pointer (some ⟨b, 0, none⟩)) := HC1.out.cell 0
  have c1 := hA1.k.cs 1 _ rfl
  have c2 := hA1.k.cs 2 _ rfl
  have c3 := hA1.k.cs 3 _ rfl
  have c4 := hA1.k.cs 4 _ rfl
  have c5 := hA1.k.cs 5 _ rfl
  have c6 := hA1.k.cs 6 _ rfl
  have c7 := hA1.k.cs 7 _ rfl
  have c8 := hA1.k.cs 8 _ rfl
  have c9 := hA1.k.cs 9 _ rfl
  have ce := hA1.k.ct k
  have f1 := hA1.k.f 1
  have f3 := hA1.k.f 3
  have f4 := hA1.k.f 4
  have hbl := hA1.lt
  have hpl : w.heap.size < W.heap.size := HC1.out.lt
  have hB1 := HX.out.trans (hB.mono HX.out.size)
  have hA2 : Ac B (W.alloc (.cells q.s.vs.toArray 26)).drew b q := hA1.below ((below_new W _).trans ((below_drew _).mono (below_new W _).size))
  have HS := Hid3.mk ((hA2.up HL.out.1 k v).pre (hB1.trans (((below_new W (.cells q.s.vs.toArray 26)).trans ((below_drew _).mono (below_new W _).size)).mono hB1.size)))
  have HA2 := Hid3.mk hA2
  have HU := Hid3.mk (hA2.up HL.out.1 k v)
  have HN := Hid3.mk (Cl.new W 26 q.s.vs).drew
  have HP2 := Hid3.mk (HC1.out.alloc (.cells q.s.vs.toArray 26)).drew
  clear hA1 hA2 cR hB hB1
  go_wp2_with fail
  have q0 : (W.alloc (.cells q.s.vs.toArray 26)).cell? ⟨w.heap.size, 0, none⟩ = some (.pointer (some ⟨b, 0, none⟩)) := HP2.out.cell 0
  have e1 : (W.alloc (.cells q.s.vs.toArray 26)).cell? ⟨b, 47 + k.1 * 2, none⟩ = some (.int .u16 ((q.en k).getD 0)) := HA2.out.k.ct k
  have g1 : (W.alloc (.cells q.s.vs.toArray 26)).frozen? ⟨b, 1, none⟩ = false := HA2.out.k.f 1
  have g3 : (W.alloc (.cells q.s.vs.toArray 26)).frozen? ⟨b, 3, none⟩ = false := HA2.out.k.f 3
  have g4 : (W.alloc (.cells q.s.vs.toArray 26)).frozen? ⟨b, 4, none⟩ = false := HA2.out.k.f 4
  have d1 := HA2.out.k.cs 1 _ rfl
  have d3 := HA2.out.k.cs 3 _ rfl
  have d4 := HA2.out.k.cs 4 _ rfl
  change (W.alloc (.cells q.s.vs.toArray 26)).cell? _ = _ at d1
  change (W.alloc (.cells q.s.vs.toArray 26)).cell? _ = _ at d3
  change (W.alloc (.cells q.s.vs.toArray 26)).cell? _ = _ at d4
  change Code.wp _ _ _ _ (W.alloc (.cells q.s.vs.toArray 26))
  clear c1 c2 c3 c4 c5 c6 c7 c8 c9 ce f1 f3 f4 p0
  have hwb : w.heap.size ≠ b := by omega
  have HV : Hid3 (AStp B w (((W.alloc (.cells q.s.vs.toArray 26)).setCell ⟨b, 1, none⟩ (.int .u16 ((q.en k).getD 0))).setCell ⟨b, 3, none⟩ (.int .u16 v) |>.setCell ⟨b, 4, none⟩ (.int .u16 k.1)).drew b { q with s := upS k v q }) := ⟨HS.out⟩
  have HVN : Hid3 (Cl (((W.alloc (.cells q.s.vs.toArray 26)).setCell ⟨b, 1, none⟩ (.int .u16 ((q.en k).getD 0))).setCell ⟨b, 3, none⟩ (.int .u16 v) |>.setCell ⟨b, 4, none⟩ (.int .u16 k.1)).drew W.heap.size 26 q.s.vs) := ⟨(((HN.out.other (by omega) _ _).other (by omega) _ _).other (by omega) _ _)⟩
  have HVP : Hid3 (Cl (((W.alloc (.cells q.s.vs.toArray 26)).setCell ⟨b, 1, none⟩ (.int .u16 ((q.en k).getD 0))).setCell ⟨b, 3, none⟩ (.int .u16 v) |>.setCell ⟨b, 4, none⟩ (.int .u16 k.1)).drew w.heap.size 27 [.pointer (some ⟨b, 0, none⟩)]) := ⟨(((HP2.out.other hwb _ _).other hwb _ _).other hwb _ _)⟩
  clear HS HU HN HP2 HC HX HA HC1 HA2
  generalize W.alloc (.cells q.s.vs.toArray 26) = W2 at *
  generalize hat : (q.en k).getD 0 = at0 at *
  have Hat := Hid3.mk hat
  clear hat
  refine wp_normal ?_
  go_big_region
  refine onlyN_n ?_
  generalize (((W2.setCell ⟨b, 1, none⟩ (.int .u16 at0)).setCell ⟨b, 3, none⟩ (.int .u16 v)).setCell ⟨b, 4, none⟩ (.int .u16 k.1)).drew = W3 at *
  generalize W.heap.size = x at *
  have hp3 := HVP.out.cell 0
  clear q0 e1 g1 g3 g4 d1 d3 d4
  go_wp2
  refine leaves_cons (f := 12) (args := #[.pointer (some ⟨w.heap.size, 0, none⟩), .pointer (some ⟨x, 0, none⟩)]) (by simp) (by simp [go_sem]) ?_
  refine (put_off B b w.heap.size x { q with s := upS k v q } q.s .returning W3 HV.out.a HL.out.2 HL.out.1 hp3 HVN.out).mono ?_
  rintro e u' w'' ⟨rfl, rfl, hS⟩
  exact ⟨_, results_tmp rfl _ _ _, rfl, HV.out.trans hS⟩
theorem upcall_no (B b : Nat) (q : Ar) (k : Fin 5) (v : Int) (w : World) (h : Ac B w b q) (hR : readyE k q ≠ 0) : Calls Try.prog 6 #[.pointer (some ⟨b, 0, none⟩), .int .u8 k.1, .int .u16 v] w fun r w' => r = .returned (.int .i64 (readyE k q)) ∧ Below w.heap.size w w' := by
  have hX := below_new w (.cells #[.pointer (some ⟨b, 0, none⟩)] 27)
  have cR := ready_ok B b q k _ (h.below hX)
  generalize readyE k q = z at *
  go_enter_defers Try.func6, Try.ntmps6
  go_wp2_with fail
  refine cR.mono ?_
  rintro r W ⟨rfl, hB⟩
  go_wp2
  exact ⟨_, results_tmp rfl _ _ _, rfl, hX.trans (hB.mono hX.size)⟩
theorem upcall_bad (b : Nat) (k v : Int) (w : World) (h1 : 5 ≤ k) : Calls Try.prog 6 #[.pointer (some ⟨b, 0, none⟩), .int .u8 k, .int .u16 v] w fun r w' => r = .returned (.int .i64 2) ∧ Below w.heap.size w w' := by
  have hX := below_new w (.cells #[.pointer (some ⟨b, 0, none⟩)] 27)
  have cR := ready_bad b k (w.alloc (.cells #[.pointer (some ⟨b, 0, none⟩)] 27)) h1
  go_enter_defers Try.func6, Try.ntmps6
  go_wp2_with fail
  refine cR.mono ?_
  rintro r W ⟨rfl, rfl⟩
  go_wp2
  exact ⟨_, results_tmp rfl _ _ _, rfl, hX⟩
end Go.Proofs.Ytgoofonogdhhoab
