/- Contracts of single functions, and plain lemmas, on which the exact laws of this seat rest; each holds under the conditions that it states. -/
import Derived.Test.YtnmnlbgialolhaaDoorR1
import Derived.Test.YtnmnlbgialolhaaDoorGY
import Derived.Test.YtnmnlbgialolhaaDoorGE
import Derived.Test.YtnmnlbgialolhaaDoorRJ
import Derived.RegionDies
namespace Go.Proofs.YtnmnlbgialolhaaDoor
set_option linter.unusedVariables false
set_option linter.unusedSimpArgs false
open Go.RowKit

theorem catchGr_panicking (pb qb : Nat) (u0 b0 : Value) (t1 t2 : TypeId) (u : TypeId) (pv : Value) (older : List PanicEntry) (w : World) (h1 : w.heap[pb]? = some (.cells #[u0] t1 (0, 0))) (h2 : w.heap[qb]? = some (.cells #[b0] t2 (0, 0))) (hne : pb ≠ qb) :
    CallsD Tryd.prog 94 #[.pointer (some ⟨pb, 0, none⟩), .pointer (some ⟨qb, 0, none⟩)] (.panicking ({ v := .iface u pv, recovered := false } :: older)) w fun e u' w' =>
      e = .returned (.tuple #[]) ∧ u' = .panicking ({ v := .iface u pv, recovered := true } :: older) ∧ w' = ((w.alloc (.cells #[.slice none 0 0] 35)).setCell ⟨pb, 0, none⟩ (.slice none 0 0)).setCell ⟨qb, 0, none⟩ (.bool false) := by
  have hA1 : (w.alloc (.cells #[.slice none 0 0] 35)).heap[pb]? = some (.cells #[u0] t1 (0, 0)) := (Below.heap_alloc _ _ _ (Array.getElem?_eq_some_iff.1 h1).1).trans h1
  have hA2 : (w.alloc (.cells #[.slice none 0 0] 35)).heap[qb]? = some (.cells #[b0] t2 (0, 0)) := (Below.heap_alloc _ _ _ (Array.getElem?_eq_some_iff.1 h2).1).trans h2
  have hc := cell_of_one hA1
  have hz := free_of_one hA1
  have hA3 : ((w.alloc (.cells #[.slice none 0 0] 35)).setCell ⟨pb, 0, none⟩ (.slice none 0 0)).heap[qb]? = some (.cells #[b0] t2 (0, 0)) := (Below.heap_setCell _ _ _ _ (by simp; first | exact hne | exact fun e => hne e.symm)).trans hA2
  have hd2 := cell_of_one hA3
  have hf2 := free_of_one hA3
  refine callsD_of_wpS Tryd.func94 rfl fun c₀ cs hu => ?_
  apply wpS_seq
  apply wpS_region
  simp [wpOpsS, go_sem, recoverD, hu, Tryd.ntmps94, Exit.thenS]
  refine wpS_cond (t := true) (by simp [Act.eval, Array.replicate]) ?_
  simp only [if_true]
  apply wpS_seq
  apply wpS_region
  simp [wpOpsS, go_sem, Exit.thenS]
  apply wpS_region
  simp [wpOpsS, go_sem, hc, hz, hd2, hf2, bodyPostS, results, Tryd.results94]

theorem catchGr_idle (p q : Addr) (w : World) :
    CallsD Tryd.prog 94 #[.pointer (some p), .pointer (some q)] .returning w fun e u' w' => e = .returned (.tuple #[]) ∧ u' = .returning ∧ w' = w := by
  refine callsD_of_wpS Tryd.func94 rfl fun c₀ cs hu => ?_
  apply wpS_seq
  apply wpS_region
  simp [wpOpsS, go_sem, recoverD, hu, Tryd.ntmps94, Exit.thenS]
  refine wpS_cond (t := false) (by simp [Act.eval, Array.replicate]) ?_
  simp only [Bool.false_eq_true, if_false]
  refine wpS_of_wp (wp_skip ?_)
  cases c₀
  simp_all [bodyPostS, results, Tryd.results94]

/-- the work yields -/
theorem attemptGr_yes (K : Nat) (caps : Array Value) (w : World) (Q : Value → World → World → Prop) (hcf : ∀ args (W : World), (callFunc K args).run Tryd.prog W = .ok (.enter K args) W) (hw : ∀ W, Below w.heap.size w W → Calls Tryd.prog K caps W (fun e w' => ∃ (ao : Option Addr) (n cap : Nat), e = .returned (.agg #[.slice ao n cap]) ∧ Q (.agg #[.slice ao n cap]) W w' ∧ Below W.heap.size W w')) :
    Calls Tryd.prog 52 #[.func (.func K) #[] caps] w fun e w' => ∃ (ao : Option Addr) (n cap : Nat) (w1 : World), e = .returned (.tuple #[.agg #[.slice ao n cap], .bool true]) ∧ Q (.agg #[.slice ao n cap]) ((w.alloc (.cells #[.slice none 0 0] 35)).alloc (.cells #[.bool false] 4)) w1 ∧ Below w.heap.size w w1 ∧ w' = (w1.setCell ⟨w.heap.size, 0, none⟩ (.slice ao n cap)).setCell ⟨w.heap.size + 1, 0, none⟩ (.bool true) ∧ w1.heap[w.heap.size]? = some (.cells #[.slice none 0 0] 35 (0, 0)) ∧ w1.heap[w.heap.size + 1]? = some (.cells #[.bool false] 4 (0, 0)) := by
  have hmf : ∀ (fn : Fn) (first cap : Array Value) (w : World), (Instr.makeFunc fn first cap).run Tryd.prog w = .ok (.func fn first cap) w := fun _ _ _ _ => rfl
  have hb0 := Joins.below_alloc2 w (.cells #[.slice none 0 0] 35) (.cells #[.bool false] 4)
  have CW := Lib.hid (hw _ hb0)
  have h1 : ((w.alloc (.cells #[.slice none 0 0] 35)).alloc (.cells #[.bool false] 4)).heap[w.heap.size]? = some (.cells #[.slice none 0 0] 35 (0, 0)) := by
    rw [Below.heap_alloc _ _ _ (by simp)]; exact heap_alloc_last w _
  have h2 : ((w.alloc (.cells #[.slice none 0 0] 35)).alloc (.cells #[.bool false] 4)).heap[w.heap.size + 1]? = some (.cells #[.bool false] 4 (0, 0)) := heap_alloc2_new _ _ _
  have H1 := Lib.hid h1
  have H2 := Lib.hid h2
  have B0 := Lib.hid hb0
  clear h1 h2 hb0 hw
  go_enter_defers Tryd.func52, Tryd.ntmps52
  go_wp2_with fail
  refine CW.out.mono ?_
  rintro e w1 ⟨ao, n, cap, rfl, hQ, hb⟩
  have r1 := (hb.block w.heap.size (by simp; omega)).trans H1.out
  have r2 := (hb.block (w.heap.size + 1) (by simp)).trans H2.out
  have c1 := cell_of_one r1
  have c2 := cell_of_one r2
  have f1 := free_of_one r1
  have f2 := free_of_one r2
  have HQ := Lib.hid hQ
  have HB := Lib.hid hb
  have R1 := Lib.hid r1
  have R2 := Lib.hid r2
  clear hQ hb r1 r2
  go_wp2_with fail
  have x1 : ((w1.setCell ⟨w.heap.size, 0, none⟩ (.slice ao n cap)).setCell ⟨w.heap.size + 1, 0, none⟩ (.bool true)).cell? ⟨w.heap.size, 0, none⟩ = some (.slice ao n cap) := by
    rw [World.cell?_setCell_other _ _ _ _ (by intro e; have := congrArg Addr.block e; simp at this)]
    exact cell_of_one (one_setCell R1.out)
  have r3 : (w1.setCell ⟨w.heap.size, 0, none⟩ (.slice ao n cap)).heap[w.heap.size + 1]? = some (.cells #[.bool false] 4 (0, 0)) := (Below.heap_setCell _ _ _ _ (by simp)).trans R2.out
  have x2 : ((w1.setCell ⟨w.heap.size, 0, none⟩ (.slice ao n cap)).setCell ⟨w.heap.size + 1, 0, none⟩ (.bool true)).cell? ⟨w.heap.size + 1, 0, none⟩ = some (.bool true) := cell_of_one (one_setCell r3)
  refine leaves_cons (f := 94) (args := #[.pointer (some ⟨w.heap.size, 0, none⟩), .pointer (some ⟨w.heap.size + 1, 0, none⟩)]) (by simp) (by simp [go_sem]) ?_
  refine (catchGr_idle ⟨w.heap.size, 0, none⟩ ⟨w.heap.size + 1, 0, none⟩ _).mono ?_
  rintro e u' w'' ⟨rfl, rfl, rfl⟩
  refine ⟨.tuple #[.agg #[.slice ao n cap], .bool true], by simp [results, Tryd.results52, go_sem, x1, x2], ao, n, cap, w1, rfl, HQ.out, B0.out.trans (HB.out.mono (by simp; omega)), rfl, R1.out, R2.out⟩

set_option maxHeartbeats 1000000 in
set_option maxRecDepth 100000 in
/-- the work is given up -/
theorem attemptGr_no (K : Nat) (caps : Array Value) (w : World) (hcf : ∀ args (W : World), (callFunc K args).run Tryd.prog W = .ok (.enter K args) W) (hw : ∀ W, Below w.heap.size w W → Calls Tryd.prog K caps W (fun e w' => (∃ T x, e = .panicked [{ v := .iface T x, recovered := false }]) ∧ Below W.heap.size W w')) :
    Calls Tryd.prog 52 #[.func (.func K) #[] caps] w fun e w' => e = .returned (.tuple #[.agg #[.slice none 0 0], .bool false]) ∧ Below w.heap.size w w' := by
  have hmf : ∀ (fn : Fn) (first cap : Array Value) (w : World), (Instr.makeFunc fn first cap).run Tryd.prog w = .ok (.func fn first cap) w := fun _ _ _ _ => rfl
  have hb0 := Joins.below_alloc2 w (.cells #[.slice none 0 0] 35) (.cells #[.bool false] 4)
  have CW := Lib.hid (hw _ hb0)
  have h1 : ((w.alloc (.cells #[.slice none 0 0] 35)).alloc (.cells #[.bool false] 4)).heap[w.heap.size]? = some (.cells #[.slice none 0 0] 35 (0, 0)) := by
    rw [Below.heap_alloc _ _ _ (by simp)]; exact heap_alloc_last w _
  have h2 : ((w.alloc (.cells #[.slice none 0 0] 35)).alloc (.cells #[.bool false] 4)).heap[w.heap.size + 1]? = some (.cells #[.bool false] 4 (0, 0)) := heap_alloc2_new _ _ _
  have H1 := Lib.hid h1
  have H2 := Lib.hid h2
  have B0 := Lib.hid hb0
  clear h1 h2 hb0 hw
  go_enter_defers Tryd.func52, Tryd.ntmps52
  go_wp2_with fail
  refine CW.out.mono ?_
  rintro e w1 ⟨⟨T, x, rfl⟩, hb⟩
  have r1 := (hb.block w.heap.size (by simp; omega)).trans H1.out
  have r2 := (hb.block (w.heap.size + 1) (by simp)).trans H2.out
  have HB := Lib.hid (B0.out.trans (hb.mono (by simp; omega)))
  clear hb
  go_wp2_with fail
  have a1 : (w1.alloc (.cells #[.slice none 0 0] 35)).heap[w.heap.size]? = some (.cells #[.slice none 0 0] 35 (0, 0)) := (Below.heap_alloc _ _ _ (Array.getElem?_eq_some_iff.1 r1).1).trans r1
  have a2 : (w1.alloc (.cells #[.slice none 0 0] 35)).heap[w.heap.size + 1]? = some (.cells #[.bool false] 4 (0, 0)) := (Below.heap_alloc _ _ _ (Array.getElem?_eq_some_iff.1 r2).1).trans r2
  have r3 : ((w1.alloc (.cells #[.slice none 0 0] 35)).setCell ⟨w.heap.size, 0, none⟩ (.slice none 0 0)).heap[w.heap.size + 1]? = some (.cells #[.bool false] 4 (0, 0)) := (Below.heap_setCell _ _ _ _ (by simp)).trans a2
  have x1 : (((w1.alloc (.cells #[.slice none 0 0] 35)).setCell ⟨w.heap.size, 0, none⟩ (.slice none 0 0)).setCell ⟨w.heap.size + 1, 0, none⟩ (.bool false)).cell? ⟨w.heap.size, 0, none⟩ = some (.slice none 0 0) := by
    rw [World.cell?_setCell_other _ _ _ _ (by intro e; have := congrArg Addr.block e; simp at this)]
    exact cell_of_one (one_setCell a1)
  have x2 : (((w1.alloc (.cells #[.slice none 0 0] 35)).setCell ⟨w.heap.size, 0, none⟩ (.slice none 0 0)).setCell ⟨w.heap.size + 1, 0, none⟩ (.bool false)).cell? ⟨w.heap.size + 1, 0, none⟩ = some (.bool false) := cell_of_one (one_setCell r3)
  have hs := HB.out.size
  refine leaves_cons (f := 94) (args := #[.pointer (some ⟨w.heap.size, 0, none⟩), .pointer (some ⟨w.heap.size + 1, 0, none⟩)]) (by simp) (by simp [go_sem]) ?_
  refine (catchGr_panicking w.heap.size (w.heap.size + 1) (.slice none 0 0) (.bool false) _ _ T x [] _ r1 r2 (by simp)).mono ?_
  rintro e u' w'' ⟨rfl, rfl, rfl⟩
  refine ⟨.tuple #[.agg #[.slice none 0 0], .bool false], by simp [results, Tryd.results52, go_sem, x1, x2], rfl, ((HB.out.alloc hs _).setCell (p := ⟨w.heap.size, 0, none⟩) (Nat.le_refl _) _).setCell (p := ⟨w.heap.size + 1, 0, none⟩) (by simp) _⟩

end Go.Proofs.YtnmnlbgialolhaaDoor

/- Contracts of single functions, and plain lemmas, on which the exact laws of this seat rest; each holds under the conditions that it states. -/
namespace Go.Proofs.YtnmnlbgialolhaaDoor
set_option linter.unusedVariables false
set_option linter.unusedSimpArgs false
open Go.RowKit
attribute [local go_sem] Oper.semAt_some

theorem OwnR.set {W : World} {lo hi n : Nat} {v : Value} {us : Nat → Value} {f : Nat → List Int} (h : OwnR W lo hi v us n f) (a : Nat) (x : Value) (ha : a < lo) : OwnR (W.setCell ⟨a, 0, none⟩ x) lo hi v us n f :=
  h.keep fun j h1 _ => Below.heap_setCell W ⟨a, 0, none⟩ x j (by show j ≠ a; omega)
/-- a grey picture that was made of rows -/
def TookGy (w : World) (n : Nat) (f : Nat → List Int) (e : Ending) (w' : World) : Prop := ∃ g cap, e = .returned (.agg #[.slice (some ⟨g, 0, none⟩) n cap]) ∧ (∃ us, OwnR w' w.heap.size w'.heap.size (.slice (some ⟨g, 0, none⟩) n cap) us n f) ∧ Below w.heap.size w w'

end Go.Proofs.YtnmnlbgialolhaaDoor
