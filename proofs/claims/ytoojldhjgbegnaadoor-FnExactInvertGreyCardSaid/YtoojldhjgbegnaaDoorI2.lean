/- Contracts of single functions, and plain lemmas, on which the exact laws of this seat rest; each holds under the conditions that it states. -/
import Derived.Test.YtoojldhjgbegnaaDoorR1
import Derived.Test.YtoojldhjgbegnaaDoorGZ
import Derived.Test.YtoojldhjgbegnaaDoorGE
import Derived.Test.YtoojldhjgbegnaaDoorRJ
import Derived.RegionDies
namespace Go.Proofs.YtoojldhjgbegnaaDoor
set_option linter.unusedVariables false
set_option linter.unusedSimpArgs false
open Go.RowKit

theorem catchGr_panicking (pb qb : Nat) (u0 b0 : Value) (t1 t2 : TypeId) (u : TypeId) (pv : Value) (older : List PanicEntry) (w : World) (h1 : w.heap[pb]? = some (.cells #[u0] t1 (0, 0))) (h2 : w.heap[qb]? = some (.cells #[b0] t2 (0, 0))) (hne : pb ≠ qb) :
    CallsD Tryd.prog 73 #[.pointer (some ⟨pb, 0, none⟩), .pointer (some ⟨qb, 0, none⟩)] (.panicking ({ v := .iface u pv, recovered := false } :: older)) w fun e u' w' =>
      e = .returned (.tuple #[]) ∧ u' = .panicking ({ v := .iface u pv, recovered := true } :: older) ∧ w' = ((w.alloc (.cells #[.slice none 0 0] 26)).setCell ⟨pb, 0, none⟩ (.slice none 0 0)).setCell ⟨qb, 0, none⟩ (.bool false) := by
  have hA1 : (w.alloc (.cells #[.slice none 0 0] 26)).heap[pb]? = some (.cells #[u0] t1 (0, 0)) := (Below.heap_alloc _ _ _ (Array.getElem?_eq_some_iff.1 h1).1).trans h1
  have hA2 : (w.alloc (.cells #[.slice none 0 0] 26)).heap[qb]? = some (.cells #[b0] t2 (0, 0)) := (Below.heap_alloc _ _ _ (Array.getElem?_eq_some_iff.1 h2).1).trans h2
  have hc := cell_of_one hA1
  have hz := free_of_one hA1
  have hA3 : ((w.alloc (.cells #[.slice none 0 0] 26)).setCell ⟨pb, 0, none⟩ (.slice none 0 0)).heap[qb]? = some (.cells #[b0] t2 (0, 0)) := (Below.heap_setCell _ _ _ _ (by simp; first | exact hne | exact fun e => hne e.symm)).trans hA2
  have hd2 := cell_of_one hA3
  have hf2 := free_of_one hA3
  refine callsD_of_wpS Tryd.func73 rfl fun c₀ cs hu => ?_
  apply wpS_seq
  apply wpS_region
  simp [wpOpsS, go_sem, recoverD, hu, Tryd.ntmps73, Exit.thenS]
  refine wpS_cond (t := true) (by simp [Act.eval, Array.replicate]) ?_
  simp only [if_true]
  apply wpS_seq
  apply wpS_region
  simp [wpOpsS, go_sem, Exit.thenS]
  apply wpS_region
  simp [wpOpsS, go_sem, hc, hz, hd2, hf2, bodyPostS, results, Tryd.results73]

theorem catchGr_idle (p q : Addr) (w : World) :
    CallsD Tryd.prog 73 #[.pointer (some p), .pointer (some q)] .returning w fun e u' w' => e = .returned (.tuple #[]) ∧ u' = .returning ∧ w' = w := by
  refine callsD_of_wpS Tryd.func73 rfl fun c₀ cs hu => ?_
  apply wpS_seq
  apply wpS_region
  simp [wpOpsS, go_sem, recoverD, hu, Tryd.ntmps73, Exit.thenS]
  refine wpS_cond (t := false) (by simp [Act.eval, Array.replicate]) ?_
  simp only [Bool.false_eq_true, if_false]
  refine wpS_of_wp (wp_skip ?_)
  cases c₀
  simp_all [bodyPostS, results, Tryd.results73]

/-- the work yields -/
theorem attemptGr_yes (K : Nat) (caps : Array Value) (w : World) (Q : Value → World → World → Prop) (hcf : ∀ args (W : World), (callFunc K args).run Tryd.prog W = .ok (.enter K args) W) (hw : ∀ W, Below w.heap.size w W → Calls Tryd.prog K caps W (fun e w' => ∃ (ao : Option Addr) (n cap : Nat), e = .returned (.agg #[.slice ao n cap]) ∧ Q (.agg #[.slice ao n cap]) W w' ∧ Below W.heap.size W w')) :
    Calls Tryd.prog 43 #[.func (.func K) #[] caps] w fun e w' => ∃ (ao : Option Addr) (n cap : Nat) (w1 : World), e = .returned (.tuple #[.agg #[.slice ao n cap], .bool true]) ∧ Q (.agg #[.slice ao n cap]) ((w.alloc (.cells #[.slice none 0 0] 26)).alloc (.cells #[.bool false] 4)) w1 ∧ Below w.heap.size w w1 ∧ w' = (w1.setCell ⟨w.heap.size, 0, none⟩ (.slice ao n cap)).setCell ⟨w.heap.size + 1, 0, none⟩ (.bool true) ∧ w1.heap[w.heap.size]? = some (.cells #[.slice none 0 0] 26 (0, 0)) ∧ w1.heap[w.heap.size + 1]? = some (.cells #[.bool false] 4 (0, 0)) := by
  have hmf : ∀ (fn : Fn) (first cap : Array Value) (w : World), (Instr.makeFunc fn first cap).run Tryd.prog w = .ok (.func fn first cap) w := fun _ _ _ _ => rfl
  have hb0 := Joins.below_alloc2 w (.cells #[.slice none 0 0] 26) (.cells #[.bool false] 4)
  have CW := Lib.hid (hw _ hb0)
  have h1 : ((w.alloc (.cells #[.slice none 0 0] 26)).alloc (.cells #[.bool false] 4)).heap[w.heap.size]? = some (.cells #[.slice none 0 0] 26 (0, 0)) := by
    rw [Below.heap_alloc _ _ _ (by simp)]; exact heap_alloc_last w _
  have h2 : ((w.alloc (.cells #[.slice none 0 0] 26)).alloc (.cells #[.bool false] 4)).heap[w.heap.size + 1]? = some (.cells #[.bool false] 4 (0, 0)) := heap_alloc2_new _ _ _
  have H1 := Lib.hid h1
  have H2 := Lib.hid h2
  have B0 := Lib.hid hb0
  clear h1 h2 hb0 hw
  go_enter_defers Tryd.func43, Tryd.ntmps43
  go_wp2_with fail
  refine CW.out.mono ?_
  rintro e w1 ⟨ao, n, cap, rfl, hQ, hb⟩
  have r1 := (hb.block w.heap.size (by simp; omega)).trans H1.out
  have r2 := (hb.block (w.heap.size + 1) (by simp)).trans H2.out
  have c1 := cell_of_one r1
  have c2 := cell_of_one r2
  have f1 := free_of_one r1
  have f2 := free_of_one r2
  have HQ := Lib.hid hQ
  have HB := Lib.hid hb
  have R1 := Lib.hid r1
  have R2 := Lib.hid r2
  clear hQ hb r1 r2
  go_wp2_with fail
  have x1 : ((w1.setCell ⟨w.heap.size, 0, none⟩ (.slice ao n cap)).setCell ⟨w.heap.size + 1, 0, none⟩ (.bool true)).cell? ⟨w.heap.size, 0, none⟩ = some (.slice ao n cap) := by
    rw [World.cell?_setCell_other _ _ _ _ (by intro e; have := congrArg Addr.block e; simp at this)]
    exact cell_of_one (one_setCell R1.out)
  have r3 : (w1.setCell ⟨w.heap.size, 0, none⟩ (.slice ao n cap)).heap[w.heap.size + 1]? = some (.cells #[.bool false] 4 (0, 0)) := (Below.heap_setCell _ _ _ _ (by simp)).trans R2.out
  have x2 : ((w1.setCell ⟨w.heap.size, 0, none⟩ (.slice ao n cap)).setCell ⟨w.heap.size + 1, 0, none⟩ (.bool true)).cell? ⟨w.heap.size + 1, 0, none⟩ = some (.bool true) := cell_of_one (one_setCell r3)
  refine leaves_cons (f := 73) (args := #[.pointer (some ⟨w.heap.size, 0, none⟩), .pointer (some ⟨w.heap.size + 1, 0, none⟩)]) (by simp) (by simp [go_sem]) ?_
  refine (catchGr_idle ⟨w.heap.size, 0, none⟩ ⟨w.heap.size + 1, 0, none⟩ _).mono ?_
  rintro e u' w'' ⟨rfl, rfl, rfl⟩
  refine ⟨.tuple #[.agg #[.slice ao n cap], .bool true], by simp [results, Tryd.results43, go_sem, x1, x2], ao, n, cap, w1, rfl, HQ.out, B0.out.trans (HB.out.mono (by simp; omega)), rfl, R1.out, R2.out⟩

set_option maxHeartbeats 1000000 in
set_option maxRecDepth 100000 in
/-- the work is given up -/
theorem attemptGr_no (K : Nat) (caps : Array Value) (w : World) (hcf : ∀ args (W : World), (callFunc K args).run Tryd.prog W = .ok (.enter K args) W) (hw : ∀ W, Below w.heap.size w W → Calls Tryd.prog K caps W (fun e w' => (∃ T x, e = .panicked [{ v := .iface T x, recovered := false }]) ∧ Below W.heap.size W w')) :
    Calls Tryd.prog 43 #[.func (.func K) #[] caps] w fun e w' => e = .returned (.tuple #[.agg #[.slice none 0 0], .bool false]) ∧ Below w.heap.size w w' := by
  have hmf : ∀ (fn : Fn) (first cap : Array Value) (w : World), (Instr.makeFunc fn first cap).run Tryd.prog w = .ok (.func fn first cap) w := fun _ _ _ _ => rfl
  have hb0 := Joins.below_alloc2 w (.cells #[.slice none 0 0] 26) (.cells #[.bool false] 4)
  have CW := Lib.hid (hw _ hb0)
  have h1 : ((w.alloc (.cells #[.slice none 0 0] 26)).alloc (.cells #[.bool false] 4)).heap[w.heap.size]? = some (.cells #[.slice none 0 0] 26 (0, 0)) := by
    rw [Below.heap_alloc _ _ _ (by simp)]; exact heap_alloc_last w _
  have h2 : ((w.alloc (.cells #[.slice none 0 0] 26)).alloc (.cells #[.bool false] 4)).heap[w.heap.size + 1]? = some (.cells #[.bool false] 4 (0, 0)) := heap_alloc2_new _ _ _
  have H1 := Lib.hid h1
  have H2 := Lib.hid h2
  have B0 := Lib.hid hb0
  clear h1 h2 hb0 hw
  go_enter_defers Tryd.func43, Tryd.ntmps43
  go_wp2_with fail
  refine CW.out.mono ?_
  rintro e w1 ⟨⟨T, x, rfl⟩, hb⟩
  have r1 := (hb.block w.heap.size (by simp; omega)).trans H1.out
  have r2 := (hb.block (w.heap.size + 1) (by simp)).trans H2.out
  have HB := Lib.hid (B0.out.trans (hb.mono (by simp; omega)))
  clear hb
  go_wp2_with fail
  have a1 : (w1.alloc (.cells #[.slice none 0 0] 26)).heap[w.heap.size]? = some (.cells #[.slice none 0 0] 26 (0, 0)) := (Below.heap_alloc _ _ _ (Array.getElem?_eq_some_iff.1 r1).1).trans r1
  have a2 : (w1.alloc (.cells #[.slice none 0 0] 26)).heap[w.heap.size + 1]? = some (.cells #[.bool false] 4 (0, 0)) := (Below.heap_alloc _ _ _ (Array.getElem?_eq_some_iff.1 r2).1).trans r2
  have r3 : ((w1.alloc (.cells #[.slice none 0 0] 26)).setCell ⟨w.heap.size, 0, none⟩ (.slice none 0 0)).heap[w.heap.size + 1]? = some (.cells #[.bool false] 4 (0, 0)) := (Below.heap_setCell _ _ _ _ (by simp)).trans a2
  have x1 : (((w1.alloc (.cells #[.slice none 0 0] 26)).setCell ⟨w.heap.size, 0, none⟩ (.slice none 0 0)).setCell ⟨w.heap.size + 1, 0, none⟩ (.bool false)).cell? ⟨w.heap.size, 0, none⟩ = some (.slice none 0 0) := by
    rw [World.cell?_setCell_other _ _ _ _ (by intro e; have := congrArg Addr.block e; simp at this)]
    exact cell_of_one (one_setCell a1)
  have x2 : (((w1.alloc (.cells #[.slice none 0 0] 26)).setCell ⟨w.heap.size, 0, none⟩ (.slice none 0 0)).setCell ⟨w.heap.size + 1, 0, none⟩ (.bool false)).cell? ⟨w.heap.size + 1, 0, none⟩ = some (.bool false) := cell_of_one (one_setCell r3)
  have hs := HB.out.size
  refine leaves_cons (f := 73) (args := #[.pointer (some ⟨w.heap.size, 0, none⟩), .pointer (some ⟨w.heap.size + 1, 0, none⟩)]) (by simp) (by simp [go_sem]) ?_
  refine (catchGr_panicking w.heap.size (w.heap.size + 1) (.slice none 0 0) (.bool false) _ _ T x [] _ r1 r2 (by simp)).mono ?_
  rintro e u' w'' ⟨rfl, rfl, rfl⟩
  refine ⟨.tuple #[.agg #[.slice none 0 0], .bool false], by simp [results, Tryd.results43, go_sem, x1, x2], rfl, ((HB.out.alloc hs _).setCell (p := ⟨w.heap.size, 0, none⟩) (Nat.le_refl _) _).setCell (p := ⟨w.heap.size + 1, 0, none⟩) (by simp) _⟩

end Go.Proofs.YtoojldhjgbegnaaDoor

/- Contracts of single functions, and plain lemmas, on which the exact laws of this seat rest; each holds under the conditions that it states. -/
namespace Go.Proofs.YtoojldhjgbegnaaDoor
set_option linter.unusedVariables false
set_option linter.unusedSimpArgs false
open Go.RowKit
attribute [local go_sem] Oper.semAt_some

theorem OwnR.set {W : World} {lo hi n : Nat} {v : Value} {us : Nat → Value} {f : Nat → List Int} (h : OwnR W lo hi v us n f) (a : Nat) (x : Value) (ha : a < lo) : OwnR (W.setCell ⟨a, 0, none⟩ x) lo hi v us n f :=
  h.keep fun j h1 _ => Below.heap_setCell W ⟨a, 0, none⟩ x j (by show j ≠ a; omega)
/-- the change that the opposite numbers are -/
theorem inv1_any (v : Value) (gs : List (List Int)) (w : World) (V : VG 99 gs) (hv : SlG w v gs) : Calls Tryd.prog 31 #[v] w (TookR w gs.length (rowF (ivGs gs))) := by
  have C := Lib.hid (changed_any v gs w V hv)
  unfold TookR at C ⊢
  go_enter Tryd.func31, Tryd.ntmps31
  go_wp2_with fail
  refine C.out.mono ?_
  rintro e w1 ⟨g, cap, rfl, h1, h2⟩
  have H1 := Lib.hid h1
  have H2 := Lib.hid h2
  clear h1 h2
  go_wp2
  go_ret
  exact ⟨_, _, rfl, H1.out, H2.out⟩

/-- a grey picture that was made of rows -/
def TookGy (w : World) (n : Nat) (f : Nat → List Int) (e : Ending) (w' : World) : Prop := ∃ g cap, e = .returned (.agg #[.slice (some ⟨g, 0, none⟩) n cap]) ∧ (∃ us, OwnR w' w.heap.size w'.heap.size (.slice (some ⟨g, 0, none⟩) n cap) us n f) ∧ Below w.heap.size w w'

theorem call_changedGrey1 (args : Array Value) (W : World) : (callFunc 66 args).run Tryd.prog W = .ok (.enter 66 args) W := by simp [go_sem]

set_option maxHeartbeats 2000000 in
set_option maxRecDepth 100000 in
theorem cgWork_yes (K : Nat) (hcf : ∀ args (W : World), (callFunc K args).run Tryd.prog W = .ok (.enter K args) W) (fb gb : Nat) (v : Value) (gs : List (List Int)) (n : Nat) (f : Nat → List Int) (w : World) (hN : gs.length ≤ 1048576) (hf : ∀ i, i < gs.length → (rowF gs i).length ≤ 1048576) (hv : SlG w v gs) (hr : NoRes w) (hl : w.cell? ⟨fb, 0, none⟩ = some (.func (.func K) #[] #[])) (hg : w.cell? ⟨gb, 0, none⟩ = some v) (hok : vG 99 gs = true)
    (hK : ∀ W, Below w.heap.size w W → Calls Tryd.prog K #[v] W (TookR W n f)) :
    Calls Tryd.prog 66 #[.pointer (some ⟨fb, 0, none⟩), .pointer (some ⟨gb, 0, none⟩)] w (TookGy w n f) := by
  obtain ⟨ao, cap, rfl, _⟩ := hv.open'
  have hb0 := Joins.below_alloc1 w (.cells #[.slice none 0 0] 26)
  have hr0 := heap_alloc_last w (.cells #[.slice none 0 0] 26)
  obtain ⟨W0, hW0⟩ : ∃ W0, w.alloc (.cells #[.slice none 0 0] 26) = W0 := ⟨_, rfl⟩
  rw [hW0] at hb0 hr0
  have HW0 := Lib.hid hW0
  have HB0 := Lib.hid hb0
  have hlt0 : w.heap.size < W0.heap.size := (Array.getElem?_eq_some_iff.1 hr0).1
  have HC : Hid (∀ W, Below W0.heap.size W0 W → W.cell? ⟨fb, 0, none⟩ = some (.func (.func K) #[] #[]) ∧ W.cell? ⟨gb, 0, none⟩ = some (.slice ao gs.length cap)) := fun W hb => ⟨cell_kept hb (cell_kept hb0 hl), cell_kept hb (cell_kept hb0 hg)⟩
  have KR : Hid (∀ W, Below W0.heap.size W0 W → W.heap[w.heap.size]? = some (.cells #[.slice none 0 0] 26 (0, 0))) := fun W hb => (hb.block _ (Array.getElem?_eq_some_iff.1 hr0).1).trans hr0
  have CG : Hid (∀ W, Below W0.heap.size W0 W → Calls Tryd.prog 60 #[.agg #[.slice ao gs.length cap]] W (fun e w' => e = .returned (.slice ao gs.length cap) ∧ Below W.heap.size W w')) := fun W hb => (requiredGrey_any (.slice ao gs.length cap) gs W hN hf ((hv.below hb0).below hb) ((hr.below hb0).below hb)).mono fun e w' h => by
    rcases h.1 with ⟨_, h1⟩ | ⟨h1, _⟩
    · exact ⟨h1, h.2⟩
    · rw [hok] at h1; cases h1
  have CK : Hid (∀ W, Below W0.heap.size W0 W → Calls Tryd.prog K #[.slice ao gs.length cap] W (TookR W n f)) := fun W hb => hK W (hb0.trans (hb.mono hb0.size))
  unfold TookR at CK
  clear hb0 hr0 hW0 hv hr hN hf hl hg hok hK
  go_enter Tryd.func66, Tryd.ntmps66
  go_upto_region 1 with fail
  rw [HW0.out]
  refine wp_region_inv_at (by kernel_rfl) (fun A0 L A W => ∃ (b0 b1 b2 b3 b4 b5 : Bool) (v3 v4 v5 v6 v7 : Value) (g5 c5 : Nat), L = #[b0, b1, b2, b3, b4, b5] ∧ A = (((((A0.put (some 3) v3).put (some 4) v4).put (some 5) v5).put (some 6) v6).put (some 7) v7) ∧ (∃ Wp, Below W0.heap.size W0 Wp ∧ Hid (b3 = true → ∃ us, OwnR Wp W0.heap.size Wp.heap.size (.slice (some ⟨g5, 0, none⟩) n c5) us n f) ∧ W = (if b5 = true then Wp.setCell ⟨w.heap.size, 0, none⟩ (.slice (some ⟨g5, 0, none⟩) n c5) else Wp)) ∧ Hid (b0 = true → v3 = .func (.func K) #[] #[]) ∧ Hid (b1 = true → v4 = .agg #[.slice ao gs.length cap]) ∧ Hid (b2 = true → v5 = .slice ao gs.length cap) ∧ Hid (b3 = true → v6 = .slice (some ⟨g5, 0, none⟩) n c5) ∧ Hid (b4 = true → v7 = .agg #[.slice (some ⟨g5, 0, none⟩) n c5]) ∧ Hid ((b0 = false → b5 = false) ∧ (b1 = false → b5 = false) ∧ (b2 = false → b5 = false) ∧ (b4 = false → b5 = false)) ∧ Hid (b4 = true → b3 = true)) ?_ ?_ ?_
  · intro A0
    refine ⟨false, false, false, false, false, false, A0.tmps.getD 3 undef, A0.tmps.getD 4 undef, A0.tmps.getD 5 undef, A0.tmps.getD 6 undef, A0.tmps.getD 7 undef, 0, 0, rfl, (by simp only [put_self]), ⟨_, (Below.refl _ _).drew, Lib.hid (fun hf => by cases hf), rfl⟩, Lib.hid (fun hf => by cases hf), Lib.hid (fun hf => by cases hf), Lib.hid (fun hf => by cases hf), Lib.hid (fun hf => by cases hf), Lib.hid (fun hf => by cases hf), Lib.hid ⟨fun _ => rfl, fun _ => rfl, fun _ => rfl, fun _ => rfl⟩, Lib.hid (fun hf => by cases hf)⟩
  · intro L A W hI i hi o ho K' hK
    have hlt := (ready_left hi).1
    have hun := (ready_left hi).2
    have haf := ready_after hi ho
    clear hi
    obtain ⟨b0, b1, b2, b3, b4, b5, v3, v4, v5, v6, v7, g5, c5, rfl, rfl, hB, h0, h1, h2, h3, h4, p, u4_3⟩ := hI
    have hc : i = 0 ∨ i = 1 ∨ i = 2 ∨ i = 3 ∨ i = 4 ∨ i = 5 := by
      simp at hlt
      omega
    rcases hc with rfl | rfl | rfl | rfl | rfl | rfl
    all_goals (obtain rfl := Option.some.inj ho; clear ho; simp [Region.binds] at haf hun; (try simp only [List.getElem_toArray, List.getElem_cons_zero, List.getElem_cons_succ]); simp only [Act.put, List.setIfInBounds_toArray, List.set_cons_zero, List.set_cons_succ])
    · -- operation 0
      replace hK := Lib.hid hK
      have hlast : b5 = false := p.out.1 hun
      subst hlast
      obtain ⟨Wp, hB, hgf, hWp⟩ := hB
      have hWq : W = Wp := by simpa using hWp
      clear hWp
      subst hWq
      have q0 := (HC.out W hB).1
      have q1 := (HC.out W hB).2
      have qR := KR.out W hB
      have qr0 := cell_of_one qR
      have qr1 := free_of_one qR
      subst hun
      go_simp
      exact hK.out _ _ ⟨true, b1, b2, b3, b4, false, .func (.func K) #[] #[], v4, v5, v6, v7, g5, c5, rfl, (by simp only [Act.put, List.setIfInBounds_toArray, List.set_cons_zero, List.set_cons_succ]), ⟨_, hB, hgf, rfl⟩, Lib.hid (fun _ => rfl), h1, h2, h3, h4, Lib.hid ⟨(fun hf => by cases hf), (fun _ => rfl), (fun _ => rfl), (fun _ => rfl)⟩, u4_3⟩
    · -- operation 1
      replace hK := Lib.hid hK
      have hlast : b5 = false := p.out.2.1 hun
      subst hlast
      obtain ⟨Wp, hB, hgf, hWp⟩ := hB
      have hWq : W = Wp := by simpa using hWp
      clear hWp
      subst hWq
      have q0 := (HC.out W hB).1
      have q1 := (HC.out W hB).2
      have qR := KR.out W hB
      have qr0 := cell_of_one qR
      have qr1 := free_of_one qR
      subst hun
      go_simp
      exact hK.out _ _ ⟨b0, true, b2, b3, b4, false, v3, .agg #[.slice ao gs.length cap], v5, v6, v7, g5, c5, rfl, (by simp only [Act.put, List.setIfInBounds_toArray, List.set_cons_zero, List.set_cons_succ]), ⟨_, hB, hgf, rfl⟩, h0, Lib.hid (fun _ => rfl), h2, h3, h4, Lib.hid ⟨(fun _ => rfl), (fun hf => by cases hf), (fun _ => rfl), (fun _ => rfl)⟩, u4_3⟩
    · -- operation 2
      replace hK := Lib.hid hK
      have hlast : b5 = false := p.out.2.2.1 hun
      subst hlast
      obtain ⟨Wp, hB, hgf, hWp⟩ := hB
      have hWq : W = Wp := by simpa using hWp
      clear hWp
      subst hWq
      have q0 := (HC.out W hB).1
      have q1 := (HC.out W hB).2
      have qR := KR.out W hB
      have qr0 := cell_of_one qR
      have qr1 := free_of_one qR
      obtain rfl := h1.out (by simp only [haf])
      subst hun
      go_simp
      refine (CG.out W hB).mono ?_
      rintro e W' ⟨rfl, hb⟩
      have hkept := fun kb (hk : kb < W.heap.size) => hb.block kb hk
      exact hK.out _ _ ⟨b0, b1, true, b3, b4, false, v3, .agg #[.slice ao gs.length cap], .slice ao gs.length cap, v6, v7, g5, c5, rfl, (by simp only [Act.put, List.setIfInBounds_toArray, List.set_cons_zero, List.set_cons_succ]), ⟨_, hB.trans (hb.mono hB.size), Lib.hid (fun hx => by obtain ⟨us, h⟩ := hgf.out hx; exact ⟨us, (h.keep (fun k _ h2 => hb.block k h2)).mono (Nat.le_refl _) hb.size⟩), rfl⟩, h0, Lib.hid (fun _ => rfl), Lib.hid (fun _ => rfl), h3, h4, Lib.hid ⟨(fun _ => rfl), (fun _ => rfl), (fun hf => by cases hf), (fun _ => rfl)⟩, u4_3⟩
    · -- operation 3
      replace hK := Lib.hid hK
      have hmid0 : b4 = false := by cases hb : b4 with | false => rfl | true => exact absurd (show true = false from (u4_3.out hb).symm.trans hun) (by decide)
      have hlast : b5 = false := p.out.2.2.2 hmid0
      clear hmid0
      subst hlast
      obtain ⟨Wp, hB, hgf, hWp⟩ := hB
      have hWq : W = Wp := by simpa using hWp
      clear hWp
      subst hWq
      have q0 := (HC.out W hB).1
      have q1 := (HC.out W hB).2
      have qR := KR.out W hB
      have qr0 := cell_of_one qR
      have qr1 := free_of_one qR
      obtain rfl := h0.out (by simp only [haf])
      obtain rfl := h2.out (by simp only [haf])
      subst hun
      go_simp
      refine (CK.out W hB).mono ?_
      rintro e W' ⟨g5n, c5n, rfl, hown, hb⟩
      have hkept := fun kb (hk : kb < W.heap.size) => hb.block kb hk
      exact hK.out _ _ ⟨b0, b1, b2, true, b4, false, .func (.func K) #[] #[], v4, .slice ao gs.length cap, .slice (some ⟨g5n, 0, none⟩) n c5n, v7, g5n, c5n, rfl, (by simp only [Act.put, List.setIfInBounds_toArray, List.set_cons_zero, List.set_cons_succ]), ⟨_, hB.trans (hb.mono hB.size), Lib.hid (fun _ => by obtain ⟨us, h⟩ := hown; exact ⟨us, h.mono hB.size (Nat.le_refl _)⟩), rfl⟩, Lib.hid (fun _ => rfl), h1, Lib.hid (fun _ => rfl), Lib.hid (fun _ => rfl), Lib.hid (fun hx => absurd (u4_3.out hx) (by decide)), Lib.hid ⟨(fun _ => rfl), (fun _ => rfl), (fun _ => rfl), (fun _ => rfl)⟩, Lib.hid (fun _ => rfl)⟩
    · -- operation 4
      replace hK := Lib.hid hK
      have hlast : b5 = false := p.out.2.2.2 hun
      subst hlast
      obtain ⟨Wp, hB, hgf, hWp⟩ := hB
      have hWq : W = Wp := by simpa using hWp
      clear hWp
      subst hWq
      have q0 := (HC.out W hB).1
      have q1 := (HC.out W hB).2
      have qR := KR.out W hB
      have qr0 := cell_of_one qR
      have qr1 := free_of_one qR
      obtain rfl := h3.out (by simp only [haf])
      subst hun
      go_simp
      exact hK.out _ _ ⟨b0, b1, b2, b3, true, false, v3, v4, v5, .slice (some ⟨g5, 0, none⟩) n c5, .agg #[.slice (some ⟨g5, 0, none⟩) n c5], g5, c5, rfl, (by simp only [Act.put, List.setIfInBounds_toArray, List.set_cons_zero, List.set_cons_succ]), ⟨_, hB, hgf, rfl⟩, h0, h1, h2, Lib.hid (fun _ => rfl), Lib.hid (fun _ => rfl), Lib.hid ⟨(fun _ => rfl), (fun _ => rfl), (fun _ => rfl), (fun hf => by cases hf)⟩, Lib.hid (fun _ => (by simp only [haf]))⟩
    · -- operation 5
      replace hK := Lib.hid hK
      subst hun
      obtain ⟨Wp, hB, hgf, hWp⟩ := hB
      have hWq : W = Wp := by simpa using hWp
      clear hWp
      subst hWq
      have q0 := (HC.out W hB).1
      have q1 := (HC.out W hB).2
      have qR := KR.out W hB
      have qr0 := cell_of_one qR
      have qr1 := free_of_one qR
      obtain rfl := h4.out (by simp only [haf])
      go_simp
      exact hK.out _ _ ⟨b0, b1, b2, b3, b4, true, v3, v4, v5, v6, .agg #[.slice (some ⟨g5, 0, none⟩) n c5], g5, c5, rfl, (by simp only [Act.put, List.setIfInBounds_toArray, List.set_cons_zero, List.set_cons_succ]), ⟨_, hB, hgf, rfl⟩, h0, h1, h2, h3, Lib.hid (fun _ => rfl), Lib.hid ⟨(fun hf => absurd (show false = true from hf.symm.trans (by simp only [haf])) (by decide)), (fun hf => absurd (show false = true from hf.symm.trans (by simp only [haf])) (by decide)), (fun hf => absurd (show false = true from hf.symm.trans (by simp only [haf])) (by decide)), (fun hf => absurd (show false = true from hf.symm.trans (by simp only [haf])) (by decide))⟩, u4_3⟩
  intro L A W hI hr
  obtain ⟨b0, b1, b2, b3, b4, b5, v3, v4, v5, v6, v7, g5, c5, rfl, rfl, hB, h0, h1, h2, h3, h4, p, u4_3⟩ := hI
  have d0 := ready_done hr 0 _ rfl (by simp [Region.binds])
  have d1 := ready_done hr 1 _ rfl (by simp [Region.binds])
  simp at d0 d1
  subst d0 d1
  have d2 := ready_done hr 2 _ rfl (by simp [Region.binds])
  simp at d2
  subst d2
  have d3 := ready_done hr 3 _ rfl (by simp [Region.binds])
  simp at d3
  subst d3
  have d4 := ready_done hr 4 _ rfl (by simp [Region.binds])
  simp at d4
  subst d4
  have d5 := ready_done hr 5 _ rfl (by simp [Region.binds])
  simp at d5
  subst d5
  obtain rfl := h0.out rfl
  obtain rfl := h1.out rfl
  obtain rfl := h2.out rfl
  obtain rfl := h3.out rfl
  obtain rfl := h4.out rfl
  obtain ⟨Wp, hB, hgf, hWp⟩ := hB
  have hgf := hgf.out rfl
  have hWq : W = Wp.setCell ⟨w.heap.size, 0, none⟩ (.slice (some ⟨g5, 0, none⟩) n c5) := by simpa using hWp
  clear hWp
  subst hWq
  simp only [Act.put, List.setIfInBounds_toArray, List.set_cons_zero, List.set_cons_succ]
  clear hr h0 h1 h2 h3 h4 p u4_3
  have P5 := KR.out Wp hB
  have B5 := Lib.hid (HB0.out.trans (hB.mono HB0.out.size))
  obtain ⟨us, hgf⟩ := hgf
  have O5 := Lib.hid (OwnR.mono (hgf.set w.heap.size (.slice (some ⟨g5, 0, none⟩) n c5) hlt0) (lo' := w.heap.size) (hi' := (Wp.setCell ⟨w.heap.size, 0, none⟩ (.slice (some ⟨g5, 0, none⟩) n c5)).heap.size) (Nat.le_of_lt hlt0) (by simp))
  have P6 := Lib.hid (one_setCell (u := .slice (some ⟨g5, 0, none⟩) n c5) P5)
  clear hgf hB P5
  go_wp2
  exact bodyPost_ret (results_cell1 (p := 2) (ty := 26) Tryd.results66 _ _ w.heap.size 26 #[.slice (some ⟨g5, 0, none⟩) n c5] (0, 0) _ rfl P6.out Tryd.underlying26 rfl (by kernel_rfl)) rfl ⟨g5, c5, rfl, ⟨us, O5.out⟩, B5.out.setCell (p := ⟨w.heap.size, 0, none⟩) (Nat.le_refl _) _⟩

set_option maxHeartbeats 2000000 in
set_option maxRecDepth 100000 in
theorem cgWork_no (F : Value) (fb gb : Nat) (v : Value) (gs : List (List Int)) (w : World) (hN : gs.length ≤ 1048576) (hf : ∀ i, i < gs.length → (rowF gs i).length ≤ 1048576) (hv : SlG w v gs) (hr : NoRes w) (hl : w.cell? ⟨fb, 0, none⟩ = some F) (hg : w.cell? ⟨gb, 0, none⟩ = some v) (hok : vG 99 gs = false) :
    Calls Tryd.prog 66 #[.pointer (some ⟨fb, 0, none⟩), .pointer (some ⟨gb, 0, none⟩)] w (fun e w' => (∃ T x, e = .panicked [{ v := .iface T x, recovered := false }]) ∧ Below w.heap.size w w') := by
  have hb0 := Joins.below_alloc1 w (.cells #[.slice none 0 0] 26)
  obtain ⟨W0, hW0⟩ : ∃ W0, w.alloc (.cells #[.slice none 0 0] 26) = W0 := ⟨_, rfl⟩
  rw [hW0] at hb0
  have HW0 := Lib.hid hW0
  have HB0 := Lib.hid hb0
  have c1 := cell_kept hb0 hl
  have c2 := cell_kept hb0 hg
  have CG : Hid (∀ W, Below W0.heap.size W0 W → Calls Tryd.prog 60 #[.agg #[v]] W (fun e w' => (∃ T x, e = .panicked [{ v := .iface T x, recovered := false }]) ∧ Below W.heap.size W w')) := fun W hb => (requiredGrey_any v gs W hN hf ((hv.below hb0).below hb) ((hr.below hb0).below hb)).mono fun e w' h => by
    rcases h.1 with ⟨h1, _⟩ | ⟨_, h1⟩
    · rw [hok] at h1; cases h1
    · exact ⟨h1, h.2⟩
  clear hb0 hv hr hf hl hg hW0 hok
  go_enter Tryd.func66, Tryd.ntmps66
  go_upto_region 1 with fail
  rw [HW0.out]
  go_region_dies
  all_goals (go_at_call 60; refine (CG.out _ (Below.refl _ _).drew).mono ?_; rintro e w4 ⟨⟨T, x, rfl⟩, hb4⟩; have HB4 := Lib.hid (HB0.out.trans (((Below.refl W0.heap.size W0).drew.trans (hb4.mono (Nat.le_refl _))).mono HB0.out.size)); clear hb4)
  all_goals go_wp2
  all_goals exact ⟨rfl, ⟨T, x, rfl⟩, HB4.out⟩

set_option maxHeartbeats 2000000 in
set_option maxRecDepth 100000 in
theorem changedGrey_any (K : Nat) (hcf : ∀ args (W : World), (callFunc K args).run Tryd.prog W = .ok (.enter K args) W) (v : Value) (gs P : List (List Int)) (w : World) (hN : gs.length ≤ 1048576) (hf : ∀ i, i < gs.length → (rowF gs i).length ≤ 1048576) (hv : SlG w v gs) (hr : NoRes w)
    (hK : vG 99 gs = true → ∀ W, Below w.heap.size w W → Calls Tryd.prog K #[v] W (TookR W P.length (rowF P))) :
    Calls Tryd.prog 30 #[.agg #[v], .func (.func K) #[] #[]] w (SaysGrey (if vG 99 gs then P else []) (vG 99 gs) w) := by
  have hmf : ∀ (fn : Fn) (first cap : Array Value) (w : World), (Instr.makeFunc fn first cap).run Tryd.prog w = .ok (.func fn first cap) w := fun _ _ _ _ => rfl
  obtain ⟨W0, hW0⟩ : ∃ W0, ((w.alloc (.cells #[v] 26)).alloc (.cells #[.func (.func K) #[] #[]] 57)).alloc (.cells #[.slice none 0 0] 26) = W0 := ⟨_, rfl⟩
  have hs0 : W0.heap.size = w.heap.size + 1 + 1 + 1 := by rw [← hW0]; simp
  have hb0 : Below w.heap.size w W0 := by rw [← hW0]; exact Joins.below_alloc3 _ _ _ _
  have p0 : W0.heap[w.heap.size]? = some (.cells #[v] 26 (0, 0)) := by
    rw [← hW0, Below.heap_alloc _ _ _ (by first | (simp; done) | (simp; omega)), Below.heap_alloc _ _ _ (by first | (simp; done) | (simp; omega))]; exact heap_alloc_last w _
  have p1 : W0.heap[w.heap.size + 1]? = some (.cells #[.func (.func K) #[] #[]] 57 (0, 0)) := by
    rw [← hW0, Below.heap_alloc _ _ _ (by first | (simp; done) | (simp; omega))]
    exact heap_alloc2_new _ _ _
  have p2 : W0.heap[w.heap.size + 1 + 1]? = some (.cells #[.slice none 0 0] 26 (0, 0)) := by
    rw [← hW0]
    have := heap_alloc_last ((w.alloc (.cells #[v] 26)).alloc (.cells #[.func (.func K) #[] #[]] 57)) (.cells #[.slice none 0 0] 26)
    simpa only [World.size_alloc] using this
  have HW := Lib.hid hW0
  have HB0 := Lib.hid hb0
  have KR : Hid (∀ W, Below W0.heap.size W0 W → W.heap[w.heap.size + 1 + 1]? = some (.cells #[.slice none 0 0] 26 (0, 0))) := fun W hb => (hb.block _ (by omega)).trans p2
  cases hok : vG 99 gs with
  | false =>
    have C := Lib.hid (attemptGr_no 66 #[.pointer (some ⟨w.heap.size + 1, 0, none⟩), .pointer (some ⟨w.heap.size, 0, none⟩)] W0 call_changedGrey1 (fun W hb => cgWork_no (.func (.func K) #[] #[]) (w.heap.size + 1) w.heap.size v gs W hN hf ((hv.below hb0).below hb) ((hr.below hb0).below hb) (cell_kept hb (cell_of_one p1)) (cell_kept hb (cell_of_one p0)) hok))
    show Calls _ _ _ _ (SaysGrey [] false w)
    clear hv hr hf hok p0 p1 p2 hb0 hW0 hs0 hK
    go_enter Tryd.func30, Tryd.ntmps30
    go_upto_region 1 with fail
    rw [HW.out]
    go_wp2_with fail
    refine C.out.mono ?_
    rintro e w1 ⟨rfl, hb1⟩
    have hp1 := KR.out _ hb1
    have hfr : w1.frozen? ⟨w.heap.size + 1 + 1, 0, none⟩ = false := free_of_one hp1
    have hc2 : w1.cell? ⟨w.heap.size + 1 + 1, 0, none⟩ = some (.slice none 0 0) := cell_of_one hp1
    have B1 : Hid (Below w.heap.size w w1) := HB0.out.trans (hb1.mono HB0.out.size)
    have P1 := Lib.hid hp1
    clear hb1 hp1
    go_wp2_with fail
    refine bodyPost_ret (v := .tuple #[.agg #[.slice none 0 0], .bool false]) (by simp [results, Tryd.results30, go_sem, cell_of_one (one_setCell P1.out)]) rfl ⟨_, _, _, rfl, ⟨fun _ => .slice none 0 0, OwnR.nil _ _ _ _ _⟩, B1.out.setCell (by show w.heap.size ≤ w.heap.size + 1 + 1; omega) _⟩
  | true =>
    have hle0 := hb0.size
    have C := Lib.hid (attemptGr_yes 66 #[.pointer (some ⟨w.heap.size + 1, 0, none⟩), .pointer (some ⟨w.heap.size, 0, none⟩)] W0 (fun u W w' => Below W0.heap.size W0 W → ∃ g c, u = .agg #[.slice (some ⟨g, 0, none⟩) P.length c] ∧ ∃ us, OwnR w' W.heap.size w'.heap.size (.slice (some ⟨g, 0, none⟩) P.length c) us P.length (rowF P)) call_changedGrey1 (fun W hb => (cgWork_yes K hcf (w.heap.size + 1) w.heap.size v gs P.length (rowF P) W hN hf ((hv.below hb0).below hb) ((hr.below hb0).below hb) (cell_kept hb (cell_of_one p1)) (cell_kept hb (cell_of_one p0)) hok (fun W2 hb2 => hK hok W2 ((hb0.trans (hb.mono hle0)).trans (hb2.mono ((hb0.trans (hb.mono hle0)).size))))).mono fun e w' ⟨g, c, h1, h2, h3⟩ => ⟨_, _, _, h1, fun _ => ⟨g, c, rfl, h2⟩, h3⟩))
    show Calls _ _ _ _ (SaysGrey P true w)
    obtain ⟨n, hn⟩ : ∃ n, P.length = n := ⟨_, rfl⟩
    have HPn := Lib.hid hn
    rw [hn] at C
    clear hv hr hf hok p0 p1 p2 hb0 hW0 hK hn
    go_enter Tryd.func30, Tryd.ntmps30
    go_upto_region 1 with fail
    rw [HW.out]
    go_wp2_with fail
    refine C.out.mono ?_
    rintro e w9 ⟨a5, n5, c5, w1, rfl, hQ, hb1, rfl, hr1, hr2⟩
    obtain ⟨g, c, hu, us, hown⟩ := hQ (Joins.below_alloc2 _ _ _)
    injection hu with hu
    have hu2 : Value.slice a5 n5 c5 = .slice (some ⟨g, 0, none⟩) n c := by
      have := congrArg (fun a : Array Value => a[0]?) hu
      simpa using this
    injection hu2 with h1 h2 h3
    subst h1 h2 h3
    have hsz : ((W0.alloc (.cells #[.slice none 0 0] 26)).alloc (.cells #[.bool false] 4)).heap.size = W0.heap.size + 2 := by simp
    rw [hsz] at hown
    have o1 := hown.set W0.heap.size (.slice (some ⟨g, 0, none⟩) n5 c5) (by omega)
    have o2 := o1.set (W0.heap.size + 1) (.bool true) (by omega)
    have hbe : Below W0.heap.size W0 ((w1.setCell ⟨W0.heap.size, 0, none⟩ (.slice (some ⟨g, 0, none⟩) n5 c5)).setCell ⟨W0.heap.size + 1, 0, none⟩ (.bool true)) := (hb1.setCell (by simp) _).setCell (by simp) _
    have hz9 : ((w1.setCell ⟨W0.heap.size, 0, none⟩ (.slice (some ⟨g, 0, none⟩) n5 c5)).setCell ⟨W0.heap.size + 1, 0, none⟩ (.bool true)).heap.size = w1.heap.size := by simp
    obtain ⟨W9, hW9⟩ : ∃ W9, ((w1.setCell ⟨W0.heap.size, 0, none⟩ (.slice (some ⟨g, 0, none⟩) n5 c5)).setCell ⟨W0.heap.size + 1, 0, none⟩ (.bool true)) = W9 := ⟨_, rfl⟩
    rw [hW9] at hbe o2 hz9 ⊢
    have hp1 := KR.out _ hbe
    have hfr : W9.frozen? ⟨w.heap.size + 1 + 1, 0, none⟩ = false := free_of_one hp1
    have hc2 : W9.cell? ⟨w.heap.size + 1 + 1, 0, none⟩ = some (.slice none 0 0) := cell_of_one hp1
    have O2 : Hid (OwnG (W9.setCell ⟨w.heap.size + 1 + 1, 0, none⟩ (.slice (some ⟨g, 0, none⟩) n5 c5)) w.heap.size (W9.setCell ⟨w.heap.size + 1 + 1, 0, none⟩ (.slice (some ⟨g, 0, none⟩) n5 c5)).heap.size (.slice (some ⟨g, 0, none⟩) n5 c5) P) := by
      refine ⟨us, ?_⟩
      rw [HPn.out]
      exact (o2.set (w.heap.size + 1 + 1) _ (by omega)).mono (by omega) (by simp [hz9])
    have P5 := Lib.hid hp1
    have B5 := Lib.hid (HB0.out.trans (hbe.mono HB0.out.size))
    clear hQ hb1 hr1 hr2 hown hu o1 o2 hbe hW9 hp1 hz9 hsz HPn
    go_wp2_with fail
    refine bodyPost_ret (v := .tuple #[.agg #[.slice (some ⟨g, 0, none⟩) n5 c5], .bool true]) (by simp [results, Tryd.results30, go_sem, cell_of_one (one_setCell P5.out)]) rfl ⟨_, _, _, rfl, O2.out, B5.out.setCell (by show w.heap.size ≤ w.heap.size + 1 + 1; omega) _⟩
end Go.Proofs.YtoojldhjgbegnaaDoor
