/- Contracts of single functions, and plain lemmas, on which the exact laws of this seat rest; each holds under the conditions that it states. -/
import Derived.Test.YtakaglbbcaplhaaDoorDE
import Derived.Test.YtakaglbbcaplhaaDoorR1
namespace Go.Proofs.YtakaglbbcaplhaaDoor
set_option linter.unusedVariables false
set_option linter.unusedSimpArgs false
open Go.RowKit

/-- what the deferred closure leaves -/
def caughtQ (w : World) (p q : Nat) : World := (((w.alloc (.cells #[.int .i64 0, .int .i64 0] 31)).setCell ⟨p, 0, none⟩ (.int .i64 0)).setCell ⟨p, 1, none⟩ (.int .i64 0)).setCell ⟨q, 0, none⟩ (.bool false)

set_option maxHeartbeats 1000000 in
set_option maxRecDepth 100000 in
theorem catchQ_panicking (p q : Nat) (s : Int × Int) (b0 : Value) (u : TypeId) (pv : Value) (older : List PanicEntry) (w : World) (hp : Var2 w p s) (hq : w.heap[q]? = some (.cells #[b0] 4 (0, 0))) (hne : p ≠ q) :
    CallsD Tryd.prog 155 #[.pointer (some ⟨p, 0, none⟩), .pointer (some ⟨q, 0, none⟩)] (.panicking ({ v := .iface u pv, recovered := false } :: older)) w fun e u' w' =>
      e = .returned (.tuple #[]) ∧ u' = .panicking ({ v := .iface u pv, recovered := true } :: older) ∧ w' = caughtQ w p q := by
  have hlp := hp.lt
  have hlq := (Array.getElem?_eq_some_iff.1 hq).1
  have hn : Var2 (w.alloc (.cells #[.int .i64 0, .int .i64 0] 31)) w.heap.size (0, 0) := heap_alloc_last w _
  have hpa : Var2 (w.alloc (.cells #[.int .i64 0, .int .i64 0] 31)) p s := (Below.heap_alloc _ _ _ hlp).trans hp
  have hqa : (w.alloc (.cells #[.int .i64 0, .int .i64 0] 31)).heap[q]? = some (.cells #[b0] 4 (0, 0)) := (Below.heap_alloc _ _ _ hlq).trans hq
  obtain ⟨W, hW⟩ : ∃ W, w.alloc (.cells #[.int .i64 0, .int .i64 0] 31) = W := ⟨_, rfl⟩
  have hcq : caughtQ w p q = ((W.setCell ⟨p, 0, none⟩ (.int .i64 0)).setCell ⟨p, 1, none⟩ (.int .i64 0)).setCell ⟨q, 0, none⟩ (.bool false) := by rw [← hW]; rfl
  rw [hcq]
  have hp1 : (W.setCell ⟨p, 0, none⟩ (.int .i64 0)).heap[p]? = some (.cells #[.int .i64 0, .int .i64 s.2] 31 (0, 0)) := by
    rw [hW] at hpa
    exact Joins.block_setCell hpa (.int .i64 0)
  have hq1 : (W.setCell ⟨p, 0, none⟩ (.int .i64 0)).heap[q]? = some (.cells #[b0] 4 (0, 0)) := by
    rw [hW] at hqa
    exact (Below.heap_setCell _ _ _ _ (Ne.symm hne)).trans hqa
  have hq2 : ((W.setCell ⟨p, 0, none⟩ (.int .i64 0)).setCell ⟨p, 1, none⟩ (.int .i64 0)).heap[q]? = some (.cells #[b0] 4 (0, 0)) := (Below.heap_setCell _ _ _ _ (Ne.symm hne)).trans hq1
  rw [hW] at hn hpa
  have n0 := hn.c0
  have n1 := hn.c1
  have p0 := hpa.c0
  have pf0 := two_free hpa 0
  have p1 : (W.setCell ⟨p, 0, none⟩ (.int .i64 0)).cell? ⟨p, 1, none⟩ = some (.int .i64 s.2) := by rw [Joins.cell_of_block hp1 1]; rfl
  have pf1 : (W.setCell ⟨p, 0, none⟩ (.int .i64 0)).frozen? ⟨p, 1, none⟩ = false := Joins.unfrozen_of_block hp1 1
  have q2 := cell_of_one hq2
  have qf2 := free_of_one hq2
  have HW := Lib.hid hW
  clear hW hp hq hqa hq1 hq2 hp1 hn hpa hcq
  refine callsD_of_wpS Tryd.func155 rfl fun c₀ cs hu => ?_
  apply wpS_seq
  apply wpS_region
  simp [wpOpsS, go_sem, recoverD, hu, Tryd.ntmps155, Exit.thenS]
  refine wpS_cond (t := true) (by simp [Act.eval, Array.replicate]) ?_
  simp only [if_true]
  apply wpS_seq
  apply wpS_region
  simp [wpOpsS, go_sem, Exit.thenS]
  rw [HW.out]
  apply wpS_region
  simp [wpOpsS, go_sem, n0, n1, p0, pf0, p1, pf1, q2, qf2, bodyPostS, results, Tryd.results155]

theorem catchQ_idle (p q : Addr) (w : World) :
    CallsD Tryd.prog 155 #[.pointer (some p), .pointer (some q)] .returning w fun e u' w' => e = .returned (.tuple #[]) ∧ u' = .returning ∧ w' = w := by
  refine callsD_of_wpS Tryd.func155 rfl fun c₀ cs hu => ?_
  apply wpS_seq
  apply wpS_region
  simp [wpOpsS, go_sem, recoverD, hu, Tryd.ntmps155, Exit.thenS]
  refine wpS_cond (t := false) (by simp [Act.eval, Array.replicate]) ?_
  simp only [Bool.false_eq_true, if_false]
  refine wpS_of_wp (wp_skip ?_)
  cases c₀
  simp_all [bodyPostS, results, Tryd.results155]
end Go.Proofs.YtakaglbbcaplhaaDoor

/- Contracts of single functions, and plain lemmas, on which the exact laws of this seat rest; each holds under the conditions that it states. -/
namespace Go.Proofs.YtakaglbbcaplhaaDoor
set_option linter.unusedVariables false
set_option linter.unusedSimpArgs false
open Go.RowKit
attribute [local go_sem] Oper.semAt_some

set_option maxHeartbeats 1000000 in
set_option maxRecDepth 100000 in
theorem attemptQ_yes (K : Nat) (caps : Array Value) (r1 r2 : Int) (w : World) (hcf : ∀ args (W : World), (callFunc K args).run Tryd.prog W = .ok (.enter K args) W) (hw : ∀ W, Below w.heap.size w W → Calls Tryd.prog K caps W (fun e w' => e = .returned (.agg #[.int .i64 r1, .int .i64 r2]) ∧ Below W.heap.size W w')) :
    Calls Tryd.prog 103 #[.func (.func K) #[] caps] w (SaysSOk (r1, r2) true w) := by
  have hmf : ∀ (fn : Fn) (first cap : Array Value) (w : World), (Instr.makeFunc fn first cap).run Tryd.prog w = .ok (.func fn first cap) w := fun _ _ _ _ => rfl
  have hb0 := Joins.below_alloc2 w (.cells #[.int .i64 0, .int .i64 0] 31) (.cells #[.bool false] 4)
  have CW := Lib.hid (hw _ hb0)
  have h1 : Var2 ((w.alloc (.cells #[.int .i64 0, .int .i64 0] 31)).alloc (.cells #[.bool false] 4)) w.heap.size (0, 0) := by
    show _ = _
    rw [Below.heap_alloc _ _ _ (by simp)]; exact heap_alloc_last w _
  have h2 : ((w.alloc (.cells #[.int .i64 0, .int .i64 0] 31)).alloc (.cells #[.bool false] 4)).heap[w.heap.size + 1]? = some (.cells #[.bool false] 4 (0, 0)) := heap_alloc2_new _ _ _
  have H1 := Lib.hid h1
  have H2 := Lib.hid h2
  have B0 := Lib.hid hb0
  clear h1 h2 hb0 hw
  go_enter_defers Tryd.func103, Tryd.ntmps103
  go_wp2_with fail
  refine CW.out.mono ?_
  rintro e w1 ⟨rfl, hb⟩
  have R1 : Hid (Var2 w1 w.heap.size (0, 0)) := H1.out.below hb
  have r2' := (hb.block (w.heap.size + 1) (by simp)).trans H2.out
  have R1a : Hid (Var2 w1 w.heap.size (0, 0)) := R1
  have hp1 : (w1.setCell ⟨w.heap.size, 0, none⟩ (.int .i64 r1)).heap[w.heap.size]? = some (.cells #[.int .i64 r1, .int .i64 0] 31 (0, 0)) := Joins.block_setCell R1.out (.int .i64 r1)
  have p0 := R1.out.c0
  have p1' := R1.out.c1
  have pf0 := two_free R1.out 0
  have p1 : (w1.setCell ⟨w.heap.size, 0, none⟩ (.int .i64 r1)).cell? ⟨w.heap.size, 1, none⟩ = some (.int .i64 0) := by rw [Joins.cell_of_block hp1 1]; rfl
  have pf1 : (w1.setCell ⟨w.heap.size, 0, none⟩ (.int .i64 r1)).frozen? ⟨w.heap.size, 1, none⟩ = false := Joins.unfrozen_of_block hp1 1
  have pf1' := two_free R1.out 1
  have c2 := cell_of_one r2'
  have f2 := free_of_one r2'
  have HB := Lib.hid hb
  have R2 := Lib.hid r2'
  have HV : Hid (Var2 ((w1.setCell ⟨w.heap.size, 0, none⟩ (.int .i64 r1)).setCell ⟨w.heap.size, 1, none⟩ (.int .i64 r2)) w.heap.size (r1, r2)) := R1.out.upd r1 r2
  have HB2 : Hid (((w1.setCell ⟨w.heap.size, 0, none⟩ (.int .i64 r1)).setCell ⟨w.heap.size, 1, none⟩ (.int .i64 r2)).heap[w.heap.size + 1]? = some (.cells #[.bool false] 4 (0, 0))) := (Below.heap_setCell _ _ _ _ (by simp)).trans ((Below.heap_setCell _ _ _ _ (by simp)).trans R2.out)
  clear hb hp1 r2'
  go_wp2_with fail
  obtain ⟨W3, hW3⟩ : ∃ W3, ((w1.setCell ⟨w.heap.size, 0, none⟩ (.int .i64 r1)).setCell ⟨w.heap.size, 1, none⟩ (.int .i64 r2)) = W3 := ⟨_, rfl⟩
  rw [hW3] at HV HB2 ⊢
  have hB3 : Below w.heap.size w W3 := by
    rw [← hW3]
    exact ((B0.out.trans (HB.out.mono (by simp; omega))).setCell (p := ⟨w.heap.size, 0, none⟩) (by simp) _).setCell (p := ⟨w.heap.size, 1, none⟩) (by simp) _
  have V4 := HV.out.far (C := w.heap.size + 1) (i := 0) (by omega) (.bool true)
  have x0 := V4.c0
  have x1 := V4.c1
  have x2 : (W3.setCell ⟨w.heap.size + 1, 0, none⟩ (.bool true)).cell? ⟨w.heap.size + 1, 0, none⟩ = some (.bool true) := cell_of_one (one_setCell HB2.out)
  refine leaves_cons (f := 155) (args := #[.pointer (some ⟨w.heap.size, 0, none⟩), .pointer (some ⟨w.heap.size + 1, 0, none⟩)]) (by simp) (by simp [go_sem]) ?_
  refine (catchQ_idle ⟨w.heap.size, 0, none⟩ ⟨w.heap.size + 1, 0, none⟩ _).mono ?_
  rintro e u' w'' ⟨rfl, rfl, rfl⟩
  refine ⟨.tuple #[.agg #[.int .i64 r1, .int .i64 r2], .bool true], by simp [results, Tryd.results103, go_sem, x0, x1, x2], rfl, hB3.setCell (p := ⟨w.heap.size + 1, 0, none⟩) (by simp) _⟩

set_option maxHeartbeats 1000000 in
set_option maxRecDepth 100000 in
theorem attemptQ_no (K : Nat) (caps : Array Value) (w : World) (hcf : ∀ args (W : World), (callFunc K args).run Tryd.prog W = .ok (.enter K args) W) (hw : ∀ W, Below w.heap.size w W → Calls Tryd.prog K caps W (fun e w' => (∃ T x, e = .panicked [{ v := .iface T x, recovered := false }]) ∧ Below W.heap.size W w')) :
    Calls Tryd.prog 103 #[.func (.func K) #[] caps] w (SaysSOk (0, 0) false w) := by
  have hmf : ∀ (fn : Fn) (first cap : Array Value) (w : World), (Instr.makeFunc fn first cap).run Tryd.prog w = .ok (.func fn first cap) w := fun _ _ _ _ => rfl
  have hb0 := Joins.below_alloc2 w (.cells #[.int .i64 0, .int .i64 0] 31) (.cells #[.bool false] 4)
  have CW := Lib.hid (hw _ hb0)
  have h1 : Var2 ((w.alloc (.cells #[.int .i64 0, .int .i64 0] 31)).alloc (.cells #[.bool false] 4)) w.heap.size (0, 0) := by
    show _ = _
    rw [Below.heap_alloc _ _ _ (by simp)]; exact heap_alloc_last w _
  have h2 : ((w.alloc (.cells #[.int .i64 0, .int .i64 0] 31)).alloc (.cells #[.bool false] 4)).heap[w.heap.size + 1]? = some (.cells #[.bool false] 4 (0, 0)) := heap_alloc2_new _ _ _
  have H1 := Lib.hid h1
  have H2 := Lib.hid h2
  have B0 := Lib.hid hb0
  clear h1 h2 hb0 hw
  go_enter_defers Tryd.func103, Tryd.ntmps103
  go_wp2_with fail
  refine CW.out.mono ?_
  rintro e w1 ⟨⟨T, x, rfl⟩, hb⟩
  have R1 : Hid (Var2 w1 w.heap.size (0, 0)) := H1.out.below hb
  have R2 := Lib.hid ((hb.block (w.heap.size + 1) (by simp)).trans H2.out)
  have HB := Lib.hid (B0.out.trans (hb.mono (by simp; omega)))
  clear hb
  go_wp2_with fail
  have hs := HB.out.size
  have hb1 := Joins.below_alloc1 w1 (.cells #[.int .i64 0, .int .i64 0] 31)
  have V2 : Var2 (((w1.alloc (.cells #[.int .i64 0, .int .i64 0] 31)).setCell ⟨w.heap.size, 0, none⟩ (.int .i64 0)).setCell ⟨w.heap.size, 1, none⟩ (.int .i64 0)) w.heap.size (0, 0) := (R1.out.below hb1).upd 0 0
  have V3 := V2.far (C := w.heap.size + 1) (i := 0) (by omega) (.bool false)
  have r3 : (((w1.alloc (.cells #[.int .i64 0, .int .i64 0] 31)).setCell ⟨w.heap.size, 0, none⟩ (.int .i64 0)).setCell ⟨w.heap.size, 1, none⟩ (.int .i64 0)).heap[w.heap.size + 1]? = some (.cells #[.bool false] 4 (0, 0)) := (Below.heap_setCell _ _ _ _ (by simp)).trans ((Below.heap_setCell _ _ _ _ (by simp)).trans ((hb1.block _ (Array.getElem?_eq_some_iff.1 R2.out).1).trans R2.out))
  have x2 : (caughtQ w1 w.heap.size (w.heap.size + 1)).cell? ⟨w.heap.size + 1, 0, none⟩ = some (.bool false) := cell_of_one (one_setCell r3)
  have V3' : Var2 (caughtQ w1 w.heap.size (w.heap.size + 1)) w.heap.size (0, 0) := V3
  have x0 := V3'.c0
  have x1 := V3'.c1
  refine leaves_cons (f := 155) (args := #[.pointer (some ⟨w.heap.size, 0, none⟩), .pointer (some ⟨w.heap.size + 1, 0, none⟩)]) (by simp) (by simp [go_sem]) ?_
  refine (catchQ_panicking w.heap.size (w.heap.size + 1) (0, 0) (.bool false) T x [] _ R1.out R2.out (by omega)).mono ?_
  rintro e u' w'' ⟨rfl, rfl, rfl⟩
  have hBc : Below w.heap.size w (caughtQ w1 w.heap.size (w.heap.size + 1)) := (((HB.out.alloc hs _).setCell (p := ⟨w.heap.size, 0, none⟩) (by simp) _).setCell (p := ⟨w.heap.size, 1, none⟩) (by simp) _).setCell (p := ⟨w.heap.size + 1, 0, none⟩) (by simp) _
  exact ⟨.tuple #[.agg #[.int .i64 0, .int .i64 0], .bool false], by simp [results, Tryd.results103, go_sem, x0, x1, x2], rfl, hBc⟩

theorem call_Near1 : ∀ args (W : World), (callFunc 104 args).run Tryd.prog W = .ok (.enter 104 args) W := by
  intro args W
  first | (go_simp; done) | (simp [callFunc, go_sem]; done) | kernel_rfl

set_option maxHeartbeats 4000000 in
set_option maxRecDepth 100000 in
theorem impl_NearestOf (v : Value) (ss : List ByteArray) (k x y : Int) (w : World) (hN : ss.length ≤ maxLen) (hz : ∀ s ∈ ss, s.size ≤ maxLen) (hv : Sl w v ss) (he : ErrLen w) (hn : NoRes w) :
    Calls Tryd.prog 44 #[.agg #[v], .int .i64 k, .agg #[.int .i64 x, .int .i64 y]] w (SaysSOk (neV ss k x y) (neOk ss k x y) w) := by
  have hbA := Joins.below_alloc3 w (.cells #[v] 29) (.cells #[.int .i64 k] 2) (.cells #[.int .i64 x, .int .i64 y] 31)
  obtain ⟨W0, hW0⟩ : ∃ W0, (((w.alloc (.cells #[v] 29)).alloc (.cells #[.int .i64 k] 2)).alloc (.cells #[.int .i64 x, .int .i64 y] 31)) = W0 := ⟨_, rfl⟩
  have hs0 : W0.heap.size = w.heap.size + 1 + 1 + 1 := by rw [← hW0]; simp
  have hp0 : W0.heap[w.heap.size]? = some (.cells #[v] 29 (0, 0)) := by
    rw [← hW0, Below.heap_alloc _ _ _ (by simp; omega), Below.heap_alloc _ _ _ (by simp)]; exact heap_alloc_last w _
  have hk0 : W0.heap[w.heap.size + 1]? = some (.cells #[.int .i64 k] 2 (0, 0)) := by
    rw [← hW0, Below.heap_alloc _ _ _ (by simp)]
    exact heap_alloc2_new _ _ _
  have hr0 : Var2 W0 (w.heap.size + 1 + 1) (x, y) := by
    show _ = _
    rw [← hW0]
    have := heap_alloc_last ((w.alloc (.cells #[v] 29)).alloc (.cells #[.int .i64 k] 2)) (.cells #[.int .i64 x, .int .i64 y] 31)
    simpa only [World.size_alloc] using this
  rw [hW0] at hbA
  have hB1 : Below w.heap.size w (W0.alloc (.cells #[.int .i64 0, .int .i64 0] 31)) := hbA.alloc hbA.size _
  have hb1 := Joins.below_alloc1 W0 (.cells #[.int .i64 0, .int .i64 0] 31)
  obtain ⟨W1, hW1⟩ : ∃ W1, W0.alloc (.cells #[.int .i64 0, .int .i64 0] 31) = W1 := ⟨_, rfl⟩
  have hR1 : Var2 W1 (w.heap.size + 1 + 1 + 1) (0, 0) := by
    show _ = _
    rw [← hW1, ← hs0]
    exact heap_alloc_last W0 _
  rw [hW1] at hB1 hb1
  have cp : ∀ W, Below W1.heap.size W1 W → W.cell? ⟨w.heap.size, 0, none⟩ = some v := fun W hb => cell_kept hb (cell_kept hb1 (cell_of_one hp0))
  have ck : ∀ W, Below W1.heap.size W1 W → W.cell? ⟨w.heap.size + 1, 0, none⟩ = some (.int .i64 k) := fun W hb => cell_kept hb (cell_kept hb1 (cell_of_one hk0))
  have cs : ∀ W, Below W1.heap.size W1 W → Var2 W (w.heap.size + 1 + 1) (x, y) := fun W hb => (hr0.below hb1).below hb
  have C : Hid (Calls Tryd.prog 103 #[.func (.func 104) #[] #[.pointer (some ⟨w.heap.size, 0, none⟩), .pointer (some ⟨w.heap.size + 1, 0, none⟩), .pointer (some ⟨w.heap.size + 1 + 1, 0, none⟩)]] W1 (SaysSOk (neV ss k x y) (neOk ss k x y) W1)) := by
    cases hok : neOk ss k x y with
    | true =>
      have e1 : neV ss k x y = ((nrL k x y (bl ss)).1.1, (nrL k x y (bl ss)).1.2) := by unfold neV; rw [if_pos hok]
      rw [e1]
      exact attemptQ_yes 104 _ _ _ W1 call_Near1 (fun W hb => nearWork_yes w.heap.size (w.heap.size + 1) (w.heap.size + 1 + 1) v ss k x y W hN hz (cp W hb) (ck W hb) (cs W hb) ((hv.below hB1).below hb) ((he.below hB1).below hb) hok)
    | false =>
      have e1 : neV ss k x y = (0, 0) := by unfold neV; rw [if_neg (by rw [hok]; decide)]
      rw [e1]
      exact attemptQ_no 104 _ W1 call_Near1 (fun W hb => nearWork_no w.heap.size (w.heap.size + 1) (w.heap.size + 1 + 1) v ss k x y W hN hz (cp W hb) (ck W hb) (cs W hb) ((hv.below hB1).below hb) ((he.below hB1).below hb) ((hn.below hB1).below hb) hok)
  obtain ⟨⟨r1, r2⟩, hr⟩ : ∃ r, neV ss k x y = r := ⟨_, rfl⟩
  obtain ⟨ok, hok⟩ : ∃ r, neOk ss k x y = r := ⟨_, rfl⟩
  rw [hr, hok] at C ⊢
  have HW0 := Lib.hid hW0
  have HW1 := Lib.hid hW1
  have HR1 := Lib.hid hR1
  have HB1 := Lib.hid hB1
  have hmf : ∀ (fn : Fn) (first cap : Array Value) (w : World), (Instr.makeFunc fn first cap).run Tryd.prog w = .ok (.func fn first cap) w := fun _ _ _ _ => rfl
  clear hv he hn hr hok hW0 hW1 hR1 hB1 hb1 cp ck cs hp0 hk0 hr0 hbA hs0
  go_enter Tryd.func44, Tryd.ntmps44
  go_wp2_with fail
  rw [HW0.out, HW1.out]
  refine C.out.mono ?_
  rintro e w1 ⟨rfl, hb⟩
  have HRa := Lib.hid (HR1.out.below hb)
  have z0 := HRa.out.c0
  have z1 := HRa.out.c1
  have g0 := two_free HRa.out 0
  have g1 := two_free HRa.out 1
  have HB := Lib.hid (HB1.out.trans (hb.mono HB1.out.size))
  clear hb
  go_wp2_with fail
  exact bodyPost_ret (results_cell_tmp Tryd.results44 _ _ (w.heap.size + 1 + 1 + 1) 31 _ (0, 0) _ rfl (HRa.out.upd r1 r2) Tryd.underlying31 rfl infoSp1) rfl ⟨rfl, (HB.out.setCell (p := ⟨w.heap.size + 1 + 1 + 1, 0, none⟩) (by simp; omega) _).setCell (p := ⟨w.heap.size + 1 + 1 + 1, 1, none⟩) (by simp; omega) _⟩
end Go.Proofs.YtakaglbbcaplhaaDoor
