/- Contracts of single functions, and plain lemmas, on which the exact laws of this seat rest; each holds under the conditions that it states. -/
import Derived.Test.YthblhibkbcmbaaaDoorQb
import Derived.Defers
import Derived.Recover
import Derived.WalkLawsBesides
import Derived.Test.YthblhibkbcmbaaaDoorGB
import Derived.Test.YthblhibkbcmbaaaDoorIs
import Derived.BigQuiet
import Derived.Test.YthblhibkbcmbaaaDoorMo
namespace Go.Proofs.YthblhibkbcmbaaaDoor
set_option linter.unusedVariables false
set_option linter.unusedSimpArgs false
open Go.RowKit

/-- the error that work is given up with -/
def NoRes (w : World) : Prop := ∃ T x, w.cell? ⟨0, 0, none⟩ = some (.iface T x)
theorem NoRes.below {w w' : World} (h : NoRes w) (hb : Below w.heap.size w w') : NoRes w' := by
  obtain ⟨T, x, h⟩ := h
  exact ⟨T, x, cell_kept hb h⟩

theorem catchN_panicking (p q : Addr) (u0 b0 : Value) (u : TypeId) (pv : Value) (older : List PanicEntry) (w : World) (hc : w.cell? p = some u0) (hz : w.frozen? p = false) (hc2 : w.cell? q = some b0) (hz2 : w.frozen? q = false) (hne : p.block ≠ q.block) :
    CallsD Tryd.prog 59 #[.pointer (some p), .pointer (some q)] (.panicking ({ v := .iface u pv, recovered := false } :: older)) w fun e u' w' =>
      e = .returned (.tuple #[]) ∧ u' = .panicking ({ v := .iface u pv, recovered := true } :: older) ∧ w' = (w.setCell p (.slice none 0 0)).setCell q (.bool false) := by
  have hd2 : (w.setCell p (.slice none 0 0)).cell? q = some b0 := by rw [World.cell?_setCell_other _ _ _ _ (fun e => hne (by rw [e]))]; exact hc2
  have hf2 : (w.setCell p (.slice none 0 0)).frozen? q = false := by rw [World.frozen?_setCell]; exact hz2
  refine callsD_of_wpS Tryd.func59 rfl fun c₀ cs hu => ?_
  apply wpS_seq
  apply wpS_region
  simp [wpOpsS, go_sem, recoverD, hu, Tryd.ntmps59, Exit.thenS]
  refine wpS_cond (t := true) (by simp [Act.eval, Array.replicate]) ?_
  simp only [if_true]
  apply wpS_seq
  apply wpS_region
  simp [wpOpsS, go_sem, Exit.thenS]
  apply wpS_region
  simp [wpOpsS, go_sem, hc, hz, hd2, hf2, bodyPostS, results, Tryd.results59]

theorem catchN_idle (p q : Addr) (w : World) :
    CallsD Tryd.prog 59 #[.pointer (some p), .pointer (some q)] .returning w fun e u' w' => e = .returned (.tuple #[]) ∧ u' = .returning ∧ w' = w := by
  refine callsD_of_wpS Tryd.func59 rfl fun c₀ cs hu => ?_
  apply wpS_seq
  apply wpS_region
  simp [wpOpsS, go_sem, recoverD, hu, Tryd.ntmps59, Exit.thenS]
  refine wpS_cond (t := false) (by simp [Act.eval, Array.replicate]) ?_
  simp only [Bool.false_eq_true, if_false]
  refine wpS_of_wp (wp_skip ?_)
  cases c₀
  simp_all [bodyPostS, results, Tryd.results59]

/-- the work yields -/
theorem attemptN_yes (K cb : Nat) (w : World) (Q : Value → World → World → Prop) (hcf : ∀ args (W : World), (callFunc K args).run Tryd.prog W = .ok (.enter K args) W) (hw : ∀ W, Below w.heap.size w W → Calls Tryd.prog K #[.pointer (some ⟨cb, 0, none⟩)] W (fun e w' => ∃ ao n cap, e = .returned (.slice ao n cap) ∧ Q (.slice ao n cap) W w' ∧ Below W.heap.size W w')) :
    Calls Tryd.prog 32 #[.func (.func K) #[] #[.pointer (some ⟨cb, 0, none⟩)]] w fun e w' => ∃ ao n cap w1, e = .returned (.tuple #[.slice ao n cap, .bool true]) ∧ Q (.slice ao n cap) ((w.alloc (.cells #[.slice none 0 0] 26)).alloc (.cells #[.bool false] 4)) w1 ∧ Below w.heap.size w w1 ∧ w' = (w1.setCell ⟨w.heap.size, 0, none⟩ (.slice ao n cap)).setCell ⟨w.heap.size + 1, 0, none⟩ (.bool true) ∧ w1.heap[w.heap.size]? = some (.cells #[.slice none 0 0] 26 (0, 0)) ∧ w1.heap[w.heap.size + 1]? = some (.cells #[.bool false] 4 (0, 0)) := by
  have hmf : ∀ (fn : Fn) (first cap : Array Value) (w : World), (Instr.makeFunc fn first cap).run Tryd.prog w = .ok (.func fn first cap) w := fun _ _ _ _ => rfl
  have hb0 := Joins.below_alloc2 w (.cells #[.slice none 0 0] 26) (.cells #[.bool false] 4)
  have CW := Lib.hid (hw _ hb0)
  have h1 : ((w.alloc (.cells #[.slice none 0 0] 26)).alloc (.cells #[.bool false] 4)).heap[w.heap.size]? = some (.cells #[.slice none 0 0] 26 (0, 0)) := by
    rw [Below.heap_alloc _ _ _ (by simp)]; exact heap_alloc_last w _
  have h2 : ((w.alloc (.cells #[.slice none 0 0] 26)).alloc (.cells #[.bool false] 4)).heap[w.heap.size + 1]? = some (.cells #[.bool false] 4 (0, 0)) := heap_alloc2_new _ _ _
  have H1 := Lib.hid h1
  have H2 := Lib.hid h2
  have B0 := Lib.hid hb0
  clear h1 h2 hb0 hw
  go_enter_defers Tryd.func32, Tryd.ntmps32
  go_wp2_with fail
  refine CW.out.mono ?_
  rintro e w1 ⟨ao, n, cap, rfl, hQ, hb⟩
  have r1 := (hb.block w.heap.size (by simp; omega)).trans H1.out
  have r2 := (hb.block (w.heap.size + 1) (by simp)).trans H2.out
  have c1 := cell_of_one r1
  have c2 := cell_of_one r2
  have f1 := free_of_one r1
  have f2 := free_of_one r2
  have HQ := Lib.hid hQ
  have HB := Lib.hid hb
  have R1 := Lib.hid r1
  have R2 := Lib.hid r2
  clear hQ hb r1 r2
  go_wp2_with fail
  have x1 : ((w1.setCell ⟨w.heap.size, 0, none⟩ (.slice ao n cap)).setCell ⟨w.heap.size + 1, 0, none⟩ (.bool true)).cell? ⟨w.heap.size, 0, none⟩ = some (.slice ao n cap) := by
    rw [World.cell?_setCell_other _ _ _ _ (by intro e; have := congrArg Addr.block e; simp at this)]
    exact cell_of_one (one_setCell R1.out)
  have r3 : (w1.setCell ⟨w.heap.size, 0, none⟩ (.slice ao n cap)).heap[w.heap.size + 1]? = some (.cells #[.bool false] 4 (0, 0)) := (Below.heap_setCell _ _ _ _ (by simp)).trans R2.out
  have x2 : ((w1.setCell ⟨w.heap.size, 0, none⟩ (.slice ao n cap)).setCell ⟨w.heap.size + 1, 0, none⟩ (.bool true)).cell? ⟨w.heap.size + 1, 0, none⟩ = some (.bool true) := cell_of_one (one_setCell r3)
  refine leaves_cons (f := 59) (args := #[.pointer (some ⟨w.heap.size, 0, none⟩), .pointer (some ⟨w.heap.size + 1, 0, none⟩)]) (by simp) (by simp [go_sem]) ?_
  refine (catchN_idle ⟨w.heap.size, 0, none⟩ ⟨w.heap.size + 1, 0, none⟩ _).mono ?_
  rintro e u' w'' ⟨rfl, rfl, rfl⟩
  refine ⟨.tuple #[.slice ao n cap, .bool true], by simp [results, Tryd.results32, go_sem, x1, x2], ao, n, cap, w1, rfl, HQ.out, B0.out.trans (HB.out.mono (by simp; omega)), rfl, R1.out, R2.out⟩

set_option maxHeartbeats 1000000 in
set_option maxRecDepth 100000 in
/-- the work is given up -/
theorem attemptN_no (K cb : Nat) (w : World) (hcf : ∀ args (W : World), (callFunc K args).run Tryd.prog W = .ok (.enter K args) W) (hw : ∀ W, Below w.heap.size w W → Calls Tryd.prog K #[.pointer (some ⟨cb, 0, none⟩)] W (fun e w' => (∃ T x, e = .panicked [{ v := .iface T x, recovered := false }]) ∧ Below W.heap.size W w')) :
    Calls Tryd.prog 32 #[.func (.func K) #[] #[.pointer (some ⟨cb, 0, none⟩)]] w fun e w' => e = .returned (.tuple #[.slice none 0 0, .bool false]) ∧ Below w.heap.size w w' := by
  have hmf : ∀ (fn : Fn) (first cap : Array Value) (w : World), (Instr.makeFunc fn first cap).run Tryd.prog w = .ok (.func fn first cap) w := fun _ _ _ _ => rfl
  have hb0 := Joins.below_alloc2 w (.cells #[.slice none 0 0] 26) (.cells #[.bool false] 4)
  have CW := Lib.hid (hw _ hb0)
  have h1 : ((w.alloc (.cells #[.slice none 0 0] 26)).alloc (.cells #[.bool false] 4)).heap[w.heap.size]? = some (.cells #[.slice none 0 0] 26 (0, 0)) := by
    rw [Below.heap_alloc _ _ _ (by simp)]; exact heap_alloc_last w _
  have h2 : ((w.alloc (.cells #[.slice none 0 0] 26)).alloc (.cells #[.bool false] 4)).heap[w.heap.size + 1]? = some (.cells #[.bool false] 4 (0, 0)) := heap_alloc2_new _ _ _
  have H1 := Lib.hid h1
  have H2 := Lib.hid h2
  have B0 := Lib.hid hb0
  clear h1 h2 hb0 hw
  go_enter_defers Tryd.func32, Tryd.ntmps32
  go_wp2_with fail
  refine CW.out.mono ?_
  rintro e w1 ⟨⟨T, x, rfl⟩, hb⟩
  have r1 := (hb.block w.heap.size (by simp; omega)).trans H1.out
  have r2 := (hb.block (w.heap.size + 1) (by simp)).trans H2.out
  have HB := Lib.hid (B0.out.trans (hb.mono (by simp; omega)))
  clear hb
  go_wp2_with fail
  have r3 : (w1.setCell ⟨w.heap.size, 0, none⟩ (.slice none 0 0)).heap[w.heap.size + 1]? = some (.cells #[.bool false] 4 (0, 0)) := (Below.heap_setCell _ _ _ _ (by simp)).trans r2
  have x1 : ((w1.setCell ⟨w.heap.size, 0, none⟩ (.slice none 0 0)).setCell ⟨w.heap.size + 1, 0, none⟩ (.bool false)).cell? ⟨w.heap.size, 0, none⟩ = some (.slice none 0 0) := by
    rw [World.cell?_setCell_other _ _ _ _ (by intro e; have := congrArg Addr.block e; simp at this)]
    exact cell_of_one (one_setCell r1)
  have x2 : ((w1.setCell ⟨w.heap.size, 0, none⟩ (.slice none 0 0)).setCell ⟨w.heap.size + 1, 0, none⟩ (.bool false)).cell? ⟨w.heap.size + 1, 0, none⟩ = some (.bool false) := cell_of_one (one_setCell r3)
  have hs := HB.out.size
  refine leaves_cons (f := 59) (args := #[.pointer (some ⟨w.heap.size, 0, none⟩), .pointer (some ⟨w.heap.size + 1, 0, none⟩)]) (by simp) (by simp [go_sem]) ?_
  refine (catchN_panicking ⟨w.heap.size, 0, none⟩ ⟨w.heap.size + 1, 0, none⟩ (.slice none 0 0) (.bool false) T x [] _ (cell_of_one r1) (free_of_one r1) (cell_of_one r2) (free_of_one r2) (by simp)).mono ?_
  rintro e u' w'' ⟨rfl, rfl, rfl⟩
  refine ⟨.tuple #[.slice none 0 0, .bool false], by simp [results, Tryd.results32, go_sem, x1, x2], rfl, (HB.out.setCell (p := ⟨w.heap.size, 0, none⟩) (Nat.le_refl _) _).setCell (p := ⟨w.heap.size + 1, 0, none⟩) (by simp) _⟩

set_option maxHeartbeats 1000000 in
set_option maxRecDepth 100000 in
theorem require_yes (w : World) : Calls Tryd.prog 35 #[.bool true] w fun e w' => e = .returned (.tuple #[]) ∧ w' = w := by
  go_enter Tryd.func35, Tryd.ntmps35
  go_wp2
  first | (go_end0; exact ⟨rfl, rfl⟩) | (refine bodyPost_ret (results_none rfl _ _ _) rfl ?_; exact ⟨rfl, rfl⟩)

set_option maxHeartbeats 1000000 in
set_option maxRecDepth 100000 in
theorem require_no (w : World) (h : NoRes w) : Calls Tryd.prog 35 #[.bool false] w fun e w' => ∃ T x, e = .panicked [{ v := .iface T x, recovered := false }] ∧ w' = w := by
  obtain ⟨T, x, hc⟩ := h
  go_enter Tryd.func35, Tryd.ntmps35
  go_wp2
  exact ⟨rfl, T, x, rfl, rfl⟩
end Go.Proofs.YthblhibkbcmbaaaDoor

/- Contracts of single functions, and plain lemmas, on which the exact laws of this seat rest; each holds under the conditions that it states. -/
namespace Go.Proofs.YthblhibkbcmbaaaDoor
set_option linter.unusedVariables false
set_option linter.unusedSimpArgs false
open Go.RowKit

/-! ### which rows are those of a grey picture -/
/-- a row with numbers up to m alone -/
def numsB (m : Int) (ns : List Int) : Bool := ns.all fun x => inB x 0 m
/-- the first k rows are as long as the first one and have such numbers -/
def rowsB (m : Int) (gs : List (List Int)) (k : Nat) : Bool := (List.range k).all fun i => decide ((rowF gs i).length = (rowF gs 0).length) && numsB m (rowF gs i)
def vG (m : Int) (gs : List (List Int)) : Bool := inB (gs.length : Int) 1 16 && inB ((rowF gs 0).length : Int) 1 16 && rowsB m gs gs.length
theorem rowsB_bad {m : Int} {gs : List (List Int)} {i : Nat} (hi : i < gs.length) (h : (rowF gs i).length ≠ (rowF gs 0).length ∨ numsB m (rowF gs i) = false) : vG m gs = false := by
  have : rowsB m gs gs.length = false := by
    unfold rowsB
    rw [List.all_eq_false]
    refine ⟨i, List.mem_range.2 hi, ?_⟩
    rcases h with h | h
    · rw [decide_eq_false h]; simp
    · rw [h]; simp
  unfold vG
  rw [this, Bool.and_false]
theorem numsB_bad {m : Int} {ns : List Int} {j : Nat} (hj : j < ns.length) (h : inB (ns.getD j 0) 0 m = false) : numsB m ns = false := by
  unfold numsB
  rw [List.all_eq_false]
  refine ⟨ns.getD j 0, ?_, by rw [h]; simp⟩
  rw [List.getD_eq_getElem?_getD, List.getElem?_eq_getElem hj]
  exact List.getElem_mem hj
theorem numsB_good {m : Int} {ns : List Int} (h : ∀ j, j < ns.length → inB (ns.getD j 0) 0 m = true) : numsB m ns = true := by
  unfold numsB
  rw [List.all_eq_true]
  intro x hx
  obtain ⟨j, hj, rfl⟩ := List.getElem_of_mem hx
  have := h j hj
  rwa [List.getD_eq_getElem?_getD, List.getElem?_eq_getElem hj] at this
theorem rowsB_good {m : Int} {gs : List (List Int)} (h : ∀ i, i < gs.length → (rowF gs i).length = (rowF gs 0).length ∧ numsB m (rowF gs i) = true) : rowsB m gs gs.length = true := by
  unfold rowsB
  rw [List.all_eq_true]
  intro i hi
  have := h i (List.mem_range.1 hi)
  rw [decide_eq_true this.1, this.2]
  rfl
/-- what a valid one has -/
structure VG (m : Int) (gs : List (List Int)) : Prop where
  n1 : 1 ≤ gs.length
  n16 : gs.length ≤ 16
  w1 : 1 ≤ (rowF gs 0).length
  w16 : (rowF gs 0).length ≤ 16
  len : ∀ i, i < gs.length → (rowF gs i).length = (rowF gs 0).length
  num : ∀ i, i < gs.length → ∀ j, j < (rowF gs 0).length → 0 ≤ (rowF gs i).getD j 0 ∧ (rowF gs i).getD j 0 ≤ m
theorem vg_of {m : Int} {gs : List (List Int)} (h : vG m gs = true) : VG m gs := by
  unfold vG inB at h
  simp only [Bool.and_eq_true, decide_eq_true_eq] at h
  obtain ⟨⟨⟨a, b⟩, c, d⟩, e⟩ := h
  unfold rowsB at e
  rw [List.all_eq_true] at e
  have hl : ∀ i, i < gs.length → (rowF gs i).length = (rowF gs 0).length := fun i hi => by
    have := e i (List.mem_range.2 hi)
    rw [Bool.and_eq_true] at this
    exact of_decide_eq_true this.1
  refine ⟨by omega, by omega, by omega, by omega, hl, fun i hi j hj => ?_⟩
  have := e i (List.mem_range.2 hi)
  rw [Bool.and_eq_true] at this
  have h2 := this.2
  unfold numsB at h2
  rw [List.all_eq_true] at h2
  have hj' : j < (rowF gs i).length := by rw [hl i hi]; exact hj
  have h3 := h2 ((rowF gs i)[j]) (List.getElem_mem hj')
  rw [List.getD_eq_getElem?_getD, List.getElem?_eq_getElem hj']
  unfold inB at h3
  simpa using h3

/-- a row of rows opened: each row's cell, and its numbers -/
theorem SlG.open' {W : World} {v : Value} {gs : List (List Int)} (h : SlG W v gs) : ∃ (ao : Option Addr) (cap : Nat), v = .slice ao gs.length cap ∧
    (0 < gs.length → ∃ b off, ao = some ⟨b, off, none⟩ ∧ b < W.heap.size ∧ ∀ i, i < gs.length → ∃ (ay : Option Addr) (cy : Nat), W.cell? ⟨b, off + i, none⟩ = some (.slice ay (rowF gs i).length cy) ∧ SlN W (.slice ay (rowF gs i).length cy) (rowF gs i) ∧
      (0 < (rowF gs i).length → ∃ b2 o2, ay = some ⟨b2, o2, none⟩ ∧ b2 < W.heap.size ∧ ∀ j, j < (rowF gs i).length → W.cell? ⟨b2, o2 + j, none⟩ = some (.int .i64 ((rowF gs i).getD j 0)))) := by
  rcases h with ⟨ao, cap, rfl, h0⟩ | ⟨b, off, cap, us, rfl, hpos, hb, hc⟩
  · exact ⟨ao, cap, by rw [h0], fun h => by omega⟩
  · refine ⟨_, cap, rfl, fun _ => ⟨b, off, rfl, hb, fun i hi => ?_⟩⟩
    obtain ⟨h1, h2⟩ := hc i hi
    obtain ⟨ay, cy, e⟩ := h2.form
    rw [e] at h1 h2
    refine ⟨ay, cy, h1, h2, fun hp => ?_⟩
    rcases h2 with ⟨ao2, cap2, e2, h0⟩ | ⟨b2, o2, cap2, e2, _, hb2, hc2⟩
    · rw [h0] at hp; simp at hp
    · injection e2 with e3 e4 e5
      exact ⟨b2, o2, e3, hb2, hc2⟩

end Go.Proofs.YthblhibkbcmbaaaDoor

/- Contracts of single functions, and plain lemmas, on which the exact laws of this seat rest; each holds under the conditions that it states. -/
namespace Go.Proofs.YthblhibkbcmbaaaDoor
set_option linter.unusedVariables false
open Go.RowKit

theorem isSide_any (n : Int) (w : World) : Calls Tryd.prog 60 #[.int .i64 n] w fun e w' => e = .returned (.bool (inB n 1 16)) ∧ w = w' := by
  by_cases h1 : 1 ≤ n
  · have e2 : Hid (inB n 1 16 = decide (n ≤ 16)) := by
      show inB n 1 16 = _
      simp [inB, h1]
    go_enter Tryd.func60, Tryd.ntmps60
    go_wp2
    go_ret
    exact ⟨ret_bool e2.out.symm, rfl⟩
  · have e2 : Hid (inB n 1 16 = false) := by
      show inB n 1 16 = _
      simp [inB, h1]
    go_enter Tryd.func60, Tryd.ntmps60
    go_wp2
    go_ret
    exact ⟨ret_bool (a := false) e2.out.symm, rfl⟩

/-! ### has, black: the matrix's cells are a variable C -/
end Go.Proofs.YthblhibkbcmbaaaDoor

/- Contracts of single functions, and plain lemmas, on which the exact laws of this seat rest; each holds under the conditions that it states. -/
namespace Go.Proofs.YthblhibkbcmbaaaDoor
set_option linter.unusedVariables false
set_option linter.unusedSimpArgs false
open Go.RowKit

/-! ### the least and the greatest number of a row -/
def mnK (ns : List Int) : Nat → Int
  | 0 => ns.getD 0 0
  | k + 1 => min (mnK ns k) (ns.getD k 0)
def mxK (ns : List Int) : Nat → Int
  | 0 => ns.getD 0 0
  | k + 1 => max (mxK ns k) (ns.getD k 0)
theorem mnK_ge (ns : List Int) (z : Int) : ∀ k, z ≤ mnK ns k ↔ z ≤ ns.getD 0 0 ∧ ∀ j, j < k → z ≤ ns.getD j 0
  | 0 => by simp [mnK]
  | k + 1 => by
    show z ≤ min (mnK ns k) (ns.getD k 0) ↔ _
    have ih := mnK_ge ns z k
    constructor
    · intro h
      have h1 : z ≤ mnK ns k := by omega
      have h2 : z ≤ ns.getD k 0 := by omega
      refine ⟨(ih.1 h1).1, fun j hj => ?_⟩
      by_cases e : j = k
      · rw [e]; exact h2
      · exact (ih.1 h1).2 j (by omega)
    · rintro ⟨h1, h2⟩
      have h3 := ih.2 ⟨h1, fun j hj => h2 j (by omega)⟩
      have h4 := h2 k (by omega)
      omega
theorem mxK_le (ns : List Int) (z : Int) : ∀ k, mxK ns k ≤ z ↔ ns.getD 0 0 ≤ z ∧ ∀ j, j < k → ns.getD j 0 ≤ z
  | 0 => by simp [mxK]
  | k + 1 => by
    show max (mxK ns k) (ns.getD k 0) ≤ z ↔ _
    have ih := mxK_le ns z k
    constructor
    · intro h
      have h1 : mxK ns k ≤ z := by omega
      have h2 : ns.getD k 0 ≤ z := by omega
      refine ⟨(ih.1 h1).1, fun j hj => ?_⟩
      by_cases e : j = k
      · rw [e]; exact h2
      · exact (ih.1 h1).2 j (by omega)
    · rintro ⟨h1, h2⟩
      have h3 := ih.2 ⟨h1, fun j hj => h2 j (by omega)⟩
      have h4 := h2 k (by omega)
      omega
theorem numsB_mm {ns : List Int} (m : Int) (h : 0 < ns.length) : numsB m ns = (decide (0 ≤ mnK ns ns.length) && decide (mxK ns ns.length ≤ m)) := by
  rw [Bool.eq_iff_iff, Bool.and_eq_true, decide_eq_true_eq, decide_eq_true_eq, mnK_ge, mxK_le]
  constructor
  · intro hh
    have key : ∀ j, j < ns.length → 0 ≤ ns.getD j 0 ∧ ns.getD j 0 ≤ m := fun j hj => by
      cases hb : inB (ns.getD j 0) 0 m with
      | false => rw [numsB_bad hj hb] at hh; cases hh
      | true => unfold inB at hb; simpa using hb
    exact ⟨⟨(key 0 h).1, fun j hj => (key j hj).1⟩, (key 0 h).2, fun j hj => (key j hj).2⟩
  · rintro ⟨⟨_, h1⟩, _, h2⟩
    exact numsB_good fun j hj => inB_yes (h1 j hj) (h2 j hj)

end Go.Proofs.YthblhibkbcmbaaaDoor
