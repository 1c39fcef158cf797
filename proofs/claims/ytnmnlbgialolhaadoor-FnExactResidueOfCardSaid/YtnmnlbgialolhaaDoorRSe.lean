/- Contracts of single functions, and plain lemmas, on which the exact laws of this seat rest; each holds under the conditions that it states. -/
import Derived.Test.YtnmnlbgialolhaaDoorR1
import Derived.Test.YtnmnlbgialolhaaDoorRSc
import Derived.Test.YtnmnlbgialolhaaDoorRSa
import Derived.Test.YtnmnlbgialolhaaDoorR3
namespace Go.Proofs.YtnmnlbgialolhaaDoor
set_option linter.unusedVariables false
set_option linter.unusedSimpArgs false
open Go.RowKit

theorem catchPi_panicking (pb qb : Nat) (u0 b0 : Value) (t1 t2 : TypeId) (u : TypeId) (pv : Value) (older : List PanicEntry) (w : World) (h1 : w.heap[pb]? = some (.cells #[u0] t1 (0, 0))) (h2 : w.heap[qb]? = some (.cells #[b0] t2 (0, 0))) (hne : pb ≠ qb) :
    CallsD Tryd.prog 87 #[.pointer (some ⟨pb, 0, none⟩), .pointer (some ⟨qb, 0, none⟩)] (.panicking ({ v := .iface u pv, recovered := false } :: older)) w fun e u' w' =>
      e = .returned (.tuple #[]) ∧ u' = .panicking ({ v := .iface u pv, recovered := true } :: older) ∧ w' = ((w.alloc (.cells #[.slice none 0 0] 26)).setCell ⟨pb, 0, none⟩ (.slice none 0 0)).setCell ⟨qb, 0, none⟩ (.bool false) := by
  have hA1 : (w.alloc (.cells #[.slice none 0 0] 26)).heap[pb]? = some (.cells #[u0] t1 (0, 0)) := (Below.heap_alloc _ _ _ (Array.getElem?_eq_some_iff.1 h1).1).trans h1
  have hA2 : (w.alloc (.cells #[.slice none 0 0] 26)).heap[qb]? = some (.cells #[b0] t2 (0, 0)) := (Below.heap_alloc _ _ _ (Array.getElem?_eq_some_iff.1 h2).1).trans h2
  have hc := cell_of_one hA1
  have hz := free_of_one hA1
  have hA3 : ((w.alloc (.cells #[.slice none 0 0] 26)).setCell ⟨pb, 0, none⟩ (.slice none 0 0)).heap[qb]? = some (.cells #[b0] t2 (0, 0)) := (Below.heap_setCell _ _ _ _ (by simp; first | exact hne | exact fun e => hne e.symm)).trans hA2
  have hd2 := cell_of_one hA3
  have hf2 := free_of_one hA3
  refine callsD_of_wpS Tryd.func87 rfl fun c₀ cs hu => ?_
  apply wpS_seq
  apply wpS_region
  simp [wpOpsS, go_sem, recoverD, hu, Tryd.ntmps87, Exit.thenS]
  refine wpS_cond (t := true) (by simp [Act.eval, Array.replicate]) ?_
  simp only [if_true]
  apply wpS_seq
  apply wpS_region
  simp [wpOpsS, go_sem, Exit.thenS]
  apply wpS_region
  simp [wpOpsS, go_sem, hc, hz, hd2, hf2, bodyPostS, results, Tryd.results87]

theorem catchPi_idle (p q : Addr) (w : World) :
    CallsD Tryd.prog 87 #[.pointer (some p), .pointer (some q)] .returning w fun e u' w' => e = .returned (.tuple #[]) ∧ u' = .returning ∧ w' = w := by
  refine callsD_of_wpS Tryd.func87 rfl fun c₀ cs hu => ?_
  apply wpS_seq
  apply wpS_region
  simp [wpOpsS, go_sem, recoverD, hu, Tryd.ntmps87, Exit.thenS]
  refine wpS_cond (t := false) (by simp [Act.eval, Array.replicate]) ?_
  simp only [Bool.false_eq_true, if_false]
  refine wpS_of_wp (wp_skip ?_)
  cases c₀
  simp_all [bodyPostS, results, Tryd.results87]

/-- the work yields -/
theorem attemptPi_yes (K : Nat) (caps : Array Value) (w : World) (Q : Value → World → World → Prop) (hcf : ∀ args (W : World), (callFunc K args).run Tryd.prog W = .ok (.enter K args) W) (hw : ∀ W, Below w.heap.size w W → Calls Tryd.prog K caps W (fun e w' => ∃ (ao : Option Addr) (n cap : Nat), e = .returned (.agg #[.slice ao n cap]) ∧ Q (.agg #[.slice ao n cap]) W w' ∧ Below W.heap.size W w')) :
    Calls Tryd.prog 40 #[.func (.func K) #[] caps] w fun e w' => ∃ (ao : Option Addr) (n cap : Nat) (w1 : World), e = .returned (.tuple #[.agg #[.slice ao n cap], .bool true]) ∧ Q (.agg #[.slice ao n cap]) ((w.alloc (.cells #[.slice none 0 0] 26)).alloc (.cells #[.bool false] 4)) w1 ∧ Below w.heap.size w w1 ∧ w' = (w1.setCell ⟨w.heap.size, 0, none⟩ (.slice ao n cap)).setCell ⟨w.heap.size + 1, 0, none⟩ (.bool true) ∧ w1.heap[w.heap.size]? = some (.cells #[.slice none 0 0] 26 (0, 0)) ∧ w1.heap[w.heap.size + 1]? = some (.cells #[.bool false] 4 (0, 0)) := by
  have hmf : ∀ (fn : Fn) (first cap : Array Value) (w : World), (Instr.makeFunc fn first cap).run Tryd.prog w = .ok (.func fn first cap) w := fun _ _ _ _ => rfl
  have hb0 := Joins.below_alloc2 w (.cells #[.slice none 0 0] 26) (.cells #[.bool false] 4)
  have CW := Lib.hid (hw _ hb0)
  have h1 : ((w.alloc (.cells #[.slice none 0 0] 26)).alloc (.cells #[.bool false] 4)).heap[w.heap.size]? = some (.cells #[.slice none 0 0] 26 (0, 0)) := by
    rw [Below.heap_alloc _ _ _ (by simp)]; exact heap_alloc_last w _
  have h2 : ((w.alloc (.cells #[.slice none 0 0] 26)).alloc (.cells #[.bool false] 4)).heap[w.heap.size + 1]? = some (.cells #[.bool false] 4 (0, 0)) := heap_alloc2_new _ _ _
  have H1 := Lib.hid h1
  have H2 := Lib.hid h2
  have B0 := Lib.hid hb0
  clear h1 h2 hb0 hw
  go_enter_defers Tryd.func40, Tryd.ntmps40
  go_wp2_with fail
  refine CW.out.mono ?_
  rintro e w1 ⟨ao, n, cap, rfl, hQ, hb⟩
  have r1 := (hb.block w.heap.size (by simp; omega)).trans H1.out
  have r2 := (hb.block (w.heap.size + 1) (by simp)).trans H2.out
  have c1 := cell_of_one r1
  have c2 := cell_of_one r2
  have f1 := free_of_one r1
  have f2 := free_of_one r2
  have HQ := Lib.hid hQ
  have HB := Lib.hid hb
  have R1 := Lib.hid r1
  have R2 := Lib.hid r2
  clear hQ hb r1 r2
  go_wp2_with fail
  have x1 : ((w1.setCell ⟨w.heap.size, 0, none⟩ (.slice ao n cap)).setCell ⟨w.heap.size + 1, 0, none⟩ (.bool true)).cell? ⟨w.heap.size, 0, none⟩ = some (.slice ao n cap) := by
    rw [World.cell?_setCell_other _ _ _ _ (by intro e; have := congrArg Addr.block e; simp at this)]
    exact cell_of_one (one_setCell R1.out)
  have r3 : (w1.setCell ⟨w.heap.size, 0, none⟩ (.slice ao n cap)).heap[w.heap.size + 1]? = some (.cells #[.bool false] 4 (0, 0)) := (Below.heap_setCell _ _ _ _ (by simp)).trans R2.out
  have x2 : ((w1.setCell ⟨w.heap.size, 0, none⟩ (.slice ao n cap)).setCell ⟨w.heap.size + 1, 0, none⟩ (.bool true)).cell? ⟨w.heap.size + 1, 0, none⟩ = some (.bool true) := cell_of_one (one_setCell r3)
  refine leaves_cons (f := 87) (args := #[.pointer (some ⟨w.heap.size, 0, none⟩), .pointer (some ⟨w.heap.size + 1, 0, none⟩)]) (by simp) (by simp [go_sem]) ?_
  refine (catchPi_idle ⟨w.heap.size, 0, none⟩ ⟨w.heap.size + 1, 0, none⟩ _).mono ?_
  rintro e u' w'' ⟨rfl, rfl, rfl⟩
  refine ⟨.tuple #[.agg #[.slice ao n cap], .bool true], by simp [results, Tryd.results40, go_sem, x1, x2], ao, n, cap, w1, rfl, HQ.out, B0.out.trans (HB.out.mono (by simp; omega)), rfl, R1.out, R2.out⟩

set_option maxHeartbeats 1000000 in
set_option maxRecDepth 100000 in
/-- the work is given up -/
theorem attemptPi_no (K : Nat) (caps : Array Value) (w : World) (hcf : ∀ args (W : World), (callFunc K args).run Tryd.prog W = .ok (.enter K args) W) (hw : ∀ W, Below w.heap.size w W → Calls Tryd.prog K caps W (fun e w' => (∃ T x, e = .panicked [{ v := .iface T x, recovered := false }]) ∧ Below W.heap.size W w')) :
    Calls Tryd.prog 40 #[.func (.func K) #[] caps] w fun e w' => e = .returned (.tuple #[.agg #[.slice none 0 0], .bool false]) ∧ Below w.heap.size w w' := by
  have hmf : ∀ (fn : Fn) (first cap : Array Value) (w : World), (Instr.makeFunc fn first cap).run Tryd.prog w = .ok (.func fn first cap) w := fun _ _ _ _ => rfl
  have hb0 := Joins.below_alloc2 w (.cells #[.slice none 0 0] 26) (.cells #[.bool false] 4)
  have CW := Lib.hid (hw _ hb0)
  have h1 : ((w.alloc (.cells #[.slice none 0 0] 26)).alloc (.cells #[.bool false] 4)).heap[w.heap.size]? = some (.cells #[.slice none 0 0] 26 (0, 0)) := by
    rw [Below.heap_alloc _ _ _ (by simp)]; exact heap_alloc_last w _
  have h2 : ((w.alloc (.cells #[.slice none 0 0] 26)).alloc (.cells #[.bool false] 4)).heap[w.heap.size + 1]? = some (.cells #[.bool false] 4 (0, 0)) := heap_alloc2_new _ _ _
  have H1 := Lib.hid h1
  have H2 := Lib.hid h2
  have B0 := Lib.hid hb0
  clear h1 h2 hb0 hw
  go_enter_defers Tryd.func40, Tryd.ntmps40
  go_wp2_with fail
  refine CW.out.mono ?_
  rintro e w1 ⟨⟨T, x, rfl⟩, hb⟩
  have r1 := (hb.block w.heap.size (by simp; omega)).trans H1.out
  have r2 := (hb.block (w.heap.size + 1) (by simp)).trans H2.out
  have HB := Lib.hid (B0.out.trans (hb.mono (by simp; omega)))
  clear hb
  go_wp2_with fail
  have a1 : (w1.alloc (.cells #[.slice none 0 0] 26)).heap[w.heap.size]? = some (.cells #[.slice none 0 0] 26 (0, 0)) := (Below.heap_alloc _ _ _ (Array.getElem?_eq_some_iff.1 r1).1).trans r1
  have a2 : (w1.alloc (.cells #[.slice none 0 0] 26)).heap[w.heap.size + 1]? = some (.cells #[.bool false] 4 (0, 0)) := (Below.heap_alloc _ _ _ (Array.getElem?_eq_some_iff.1 r2).1).trans r2
  have r3 : ((w1.alloc (.cells #[.slice none 0 0] 26)).setCell ⟨w.heap.size, 0, none⟩ (.slice none 0 0)).heap[w.heap.size + 1]? = some (.cells #[.bool false] 4 (0, 0)) := (Below.heap_setCell _ _ _ _ (by simp)).trans a2
  have x1 : (((w1.alloc (.cells #[.slice none 0 0] 26)).setCell ⟨w.heap.size, 0, none⟩ (.slice none 0 0)).setCell ⟨w.heap.size + 1, 0, none⟩ (.bool false)).cell? ⟨w.heap.size, 0, none⟩ = some (.slice none 0 0) := by
    rw [World.cell?_setCell_other _ _ _ _ (by intro e; have := congrArg Addr.block e; simp at this)]
    exact cell_of_one (one_setCell a1)
  have x2 : (((w1.alloc (.cells #[.slice none 0 0] 26)).setCell ⟨w.heap.size, 0, none⟩ (.slice none 0 0)).setCell ⟨w.heap.size + 1, 0, none⟩ (.bool false)).cell? ⟨w.heap.size + 1, 0, none⟩ = some (.bool false) := cell_of_one (one_setCell r3)
  have hs := HB.out.size
  refine leaves_cons (f := 87) (args := #[.pointer (some ⟨w.heap.size, 0, none⟩), .pointer (some ⟨w.heap.size + 1, 0, none⟩)]) (by simp) (by simp [go_sem]) ?_
  refine (catchPi_panicking w.heap.size (w.heap.size + 1) (.slice none 0 0) (.bool false) _ _ T x [] _ r1 r2 (by simp)).mono ?_
  rintro e u' w'' ⟨rfl, rfl, rfl⟩
  refine ⟨.tuple #[.agg #[.slice none 0 0], .bool false], by simp [results, Tryd.results40, go_sem, x1, x2], rfl, ((HB.out.alloc hs _).setCell (p := ⟨w.heap.size, 0, none⟩) (Nat.le_refl _) _).setCell (p := ⟨w.heap.size + 1, 0, none⟩) (by simp) _⟩

end Go.Proofs.YtnmnlbgialolhaaDoor

/- Contracts of single functions, and plain lemmas, on which the exact laws of this seat rest; each holds under the conditions that it states. -/
namespace Go.Proofs.YtnmnlbgialolhaaDoor
set_option linter.unusedVariables false
set_option linter.unusedSimpArgs false
open Go.RowKit
attribute [local go_sem] Oper.semAt_some

theorem rs_pic {ss : List ByteArray} (V : VP ss) (w : World) :
    Calls Tryd.prog 44 #[.agg (mat (row0 ss).size ss.length (dnH (rsFun (row0 ss).size ss.length (wordsOf ss)) ((gGrid (row0 ss).size ss.length V.w1 V.n1).list (ss.length * (row0 ss).size))))] w (TookPic w (mkPic (row0 ss).size ss.length (rsF ss))) := by
  have e : rsFun (row0 ss).size ss.length (wordsOf ss) = fun _ => rsF ss := by
    funext h y x
    unfold rsFun oddB rsF rsI
    have hpe : blackB (row0 ss).size ss.length (wordsOf ss) = pixI ss := funext fun x => funext fun y => words_bit V x y
    rw [hpe]
    cases pixI ss (x : Int) (y : Int) <;> cases pixI ss ((x : Int) - 1) (y : Int) <;> cases pixI ss (x : Int) ((y : Int) - 1) <;> cases pixI ss ((x : Int) - 1) ((y : Int) - 1) <;> rfl
  rw [e]
  exact dn_pic (row0 ss).size ss.length V.w1 V.n1 V.w16 V.n16 (rsF ss) w

theorem call_ResidueOf1 (args : Array Value) (W : World) : (callFunc 41 args).run Tryd.prog W = .ok (.enter 41 args) W := by simp [go_sem]

set_option maxHeartbeats 2000000 in
set_option maxRecDepth 100000 in
theorem workResidueOf_yes (pb : Nat) (v : Value) (ss : List ByteArray) (w : World) (hN : ss.length ≤ maxLen) (hz : ∀ s ∈ ss, s.size ≤ maxLen) (hv : Sl w v ss) (he : ErrLen w) (hc : w.cell? ⟨pb, 0, none⟩ = some v) (hok : validB ss = true) :
    Calls Tryd.prog 41 #[.pointer (some ⟨pb, 0, none⟩)] w (TookPic w (mkPic (row0 ss).size ss.length (rsF ss))) := by
  have V := vp_of hok
  have hb0 := Joins.below_alloc1 w (.cells #[.slice none 0 0] 26)
  have hr0 := heap_alloc_last w (.cells #[.slice none 0 0] 26)
  obtain ⟨W0, hW0⟩ : ∃ W0, w.alloc (.cells #[.slice none 0 0] 26) = W0 := ⟨_, rfl⟩
  rw [hW0] at hb0 hr0
  have HW0 := Lib.hid hW0
  have HB0 := Lib.hid hb0
  have hs0 : W0.heap.size = w.heap.size + 1 := by rw [← hW0]; simp
  have c1 := cell_kept hb0 hc
  have KR : Hid (∀ W, Below W0.heap.size W0 W → W.heap[w.heap.size]? = some (.cells #[.slice none 0 0] 26 (0, 0))) := fun W hb => (hb.block _ (Array.getElem?_eq_some_iff.1 hr0).1).trans hr0
  have CM := Lib.hid (reqMat_yes v ss W0 hN hz (hv.below hb0) (he.below hb0) hok)
  have hMM := matC_yes hok
  have CR : Hid (∀ W, Calls Tryd.prog 43 #[.agg (matC ss)] W (fun e w' => e = .returned (.agg (mat (row0 ss).size ss.length (dnH (rsFun (row0 ss).size ss.length (wordsOf ss)) ((gGrid (row0 ss).size ss.length V.w1 V.n1).list (ss.length * (row0 ss).size))))) ∧ Below W.heap.size W w')) := fun W => residue_any _ _ _ _ W hMM V.w1 V.w16 V.n1 V.n16 (words_lt V)
  have CP : Hid (∀ W, Calls Tryd.prog 44 #[.agg (mat (row0 ss).size ss.length (dnH (rsFun (row0 ss).size ss.length (wordsOf ss)) ((gGrid (row0 ss).size ss.length V.w1 V.n1).list (ss.length * (row0 ss).size))))] W (TookPic W (mkPic (row0 ss).size ss.length (rsF ss)))) := fun W => rs_pic V W
  obtain ⟨C, hC⟩ : ∃ C, matC ss = C := ⟨_, rfl⟩
  rw [hC] at CM CR
  obtain ⟨R, hR⟩ : ∃ R, mat (row0 ss).size ss.length (dnH (rsFun (row0 ss).size ss.length (wordsOf ss)) ((gGrid (row0 ss).size ss.length V.w1 V.n1).list (ss.length * (row0 ss).size))) = R := ⟨_, rfl⟩
  rw [hR] at CR CP
  obtain ⟨pic, hpic⟩ : ∃ p, mkPic (row0 ss).size ss.length (rsF ss) = p := ⟨_, rfl⟩
  rw [hpic] at CP ⊢
  unfold TookPic at CP
  have HS0 := Lib.hid hs0
  clear hb0 hr0 hW0 hv he hN hz hc hok hMM hC hR hpic V hs0
  go_enter Tryd.func41, Tryd.ntmps41
  go_upto_region 1 with fail
  rw [HW0.out]
  go_wp2_with fail
  refine CM.out.mono ?_
  rintro e w1 ⟨rfl, hb1⟩
  have B1 := Lib.hid hb1
  clear hb1 c1
  go_wp2_with fail
  refine (CR.out _).mono ?_
  rintro e w2 ⟨rfl, hb2⟩
  have B2 := Lib.hid (B1.out.trans (hb2.mono B1.out.size))
  clear hb2
  go_wp2_with fail
  refine (CP.out _).mono ?_
  rintro e w7 ⟨g7, cap7, rfl, hown7, hb7⟩
  have B3 := B2.out.trans (hb7.mono B2.out.size)
  have hp7 := KR.out _ B3
  have hfr : w7.frozen? ⟨w.heap.size, 0, none⟩ = false := free_of_one hp7
  have hc2 : w7.cell? ⟨w.heap.size, 0, none⟩ = some (.slice none 0 0) := cell_of_one hp7
  have hle : w.heap.size ≤ w2.heap.size := by have := HS0.out; have := B2.out.size; omega
  have O7 := Lib.hid (Joins.ownsRow_le (own_set (u := .slice (some ⟨g7, 0, none⟩) pic.length cap7) hown7 hp7 (by decide)) hle)
  have P7 := Lib.hid (one_setCell (u := .slice (some ⟨g7, 0, none⟩) pic.length cap7) hp7)
  have B7 := Lib.hid (HB0.out.trans (B3.mono HB0.out.size))
  clear hown7 hb7 hp7 B3
  go_wp2_with fail
  exact bodyPost_ret (results_cell1 (p := 1) (ty := 26) Tryd.results41 _ _ w.heap.size 26 #[.slice (some ⟨g7, 0, none⟩) pic.length cap7] (0, 0) _ rfl P7.out Tryd.underlying26 rfl (by kernel_rfl)) rfl ⟨g7, cap7, rfl, O7.out, B7.out.setCell (p := ⟨w.heap.size, 0, none⟩) (Nat.le_refl _) _⟩

set_option maxHeartbeats 2000000 in
set_option maxRecDepth 100000 in
theorem workResidueOf_no (pb : Nat) (v : Value) (ss : List ByteArray) (w : World) (hN : ss.length ≤ maxLen) (hz : ∀ s ∈ ss, s.size ≤ maxLen) (hv : Sl w v ss) (he : ErrLen w) (hn : NoRes w) (hc : w.cell? ⟨pb, 0, none⟩ = some v) (hok : validB ss = false) :
    Calls Tryd.prog 41 #[.pointer (some ⟨pb, 0, none⟩)] w (fun e w' => (∃ T x, e = .panicked [{ v := .iface T x, recovered := false }]) ∧ Below w.heap.size w w') := by
  have hb0 := Joins.below_alloc1 w (.cells #[.slice none 0 0] 26)
  obtain ⟨W0, hW0⟩ : ∃ W0, w.alloc (.cells #[.slice none 0 0] 26) = W0 := ⟨_, rfl⟩
  rw [hW0] at hb0
  have HW0 := Lib.hid hW0
  have HB0 := Lib.hid hb0
  have c1 := cell_kept hb0 hc
  have CM := Lib.hid (reqMat_no v ss W0 hN hz (hv.below hb0) (he.below hb0) (hn.below hb0) hok)
  clear hb0 hW0 hv he hN hz hc hok hn
  go_enter Tryd.func41, Tryd.ntmps41
  go_upto_region 1 with fail
  rw [HW0.out]
  go_wp2_with fail
  refine CM.out.mono ?_
  rintro e w1 ⟨⟨T, x, rfl⟩, hb1⟩
  have B1 := Lib.hid (HB0.out.trans (hb1.mono HB0.out.size))
  clear hb1 c1
  go_wp2_with fail
  exact ⟨rfl, ⟨T, x, rfl⟩, B1.out⟩

set_option maxHeartbeats 2000000 in
set_option maxRecDepth 100000 in
theorem impl_ResidueOf (v : Value) (ss : List ByteArray) (w : World) (hN : ss.length ≤ maxLen) (hz : ∀ s ∈ ss, s.size ≤ maxLen) (hv : Sl w v ss) (he : ErrLen w) (hr : NoRes w) :
    Calls Tryd.prog 13 #[.agg #[v]] w (SaysPic (rsP ss) (validB ss) w) := by
  have hmf : ∀ (fn : Fn) (first cap : Array Value) (w : World), (Instr.makeFunc fn first cap).run Tryd.prog w = .ok (.func fn first cap) w := fun _ _ _ _ => rfl
  obtain ⟨W0, hW0⟩ : ∃ W0, (w.alloc (.cells #[v] 26)).alloc (.cells #[.slice none 0 0] 26) = W0 := ⟨_, rfl⟩
  have hs0 : W0.heap.size = w.heap.size + 1 + 1 := by rw [← hW0]; simp
  have hb0 : Below w.heap.size w W0 := by rw [← hW0]; exact Joins.below_alloc2 _ _ _
  have p0 : W0.heap[w.heap.size]? = some (.cells #[v] 26 (0, 0)) := by
    rw [← hW0, Below.heap_alloc _ _ _ (by first | (simp; done) | (simp; omega))]; exact heap_alloc_last w _
  have p2 : W0.heap[w.heap.size + 1]? = some (.cells #[.slice none 0 0] 26 (0, 0)) := by
    rw [← hW0]
    exact heap_alloc2_new _ _ _
  have HW := Lib.hid hW0
  have HB0 := Lib.hid hb0
  have KR : Hid (∀ W, Below W0.heap.size W0 W → W.heap[w.heap.size + 1]? = some (.cells #[.slice none 0 0] 26 (0, 0))) := fun W hb => (hb.block _ (by omega)).trans p2
  cases hok : validB ss with
  | false =>
    have e1 : Hid (rsP ss = []) := rsP_no hok
    have C := Lib.hid (attemptPi_no 41 #[.pointer (some ⟨w.heap.size, 0, none⟩)] W0 call_ResidueOf1 (fun W hb => workResidueOf_no w.heap.size v ss W hN hz ((hv.below hb0).below hb) ((he.below hb0).below hb) ((hr.below hb0).below hb) (cell_kept hb (cell_of_one p0)) hok))
    rw [e1.out]
    clear hv hr he hok e1 p0 p2 hb0 hW0 hs0 hN hz
    go_enter Tryd.func13, Tryd.ntmps13
    go_upto_region 1 with fail
    rw [HW.out]
    go_wp2_with fail
    refine C.out.mono ?_
    rintro e w1 ⟨rfl, hb1⟩
    have hp1 := KR.out _ hb1
    have hfr : w1.frozen? ⟨w.heap.size + 1, 0, none⟩ = false := free_of_one hp1
    have hc2 : w1.cell? ⟨w.heap.size + 1, 0, none⟩ = some (.slice none 0 0) := cell_of_one hp1
    have B1 : Hid (Below w.heap.size w w1) := HB0.out.trans (hb1.mono HB0.out.size)
    have P1 := Lib.hid hp1
    clear hb1 hp1
    go_wp2_with fail
    refine bodyPost_ret (v := .tuple #[.agg #[.slice none 0 0], .bool false]) (by simp [results, Tryd.results13, go_sem, cell_of_one (one_setCell P1.out)]) rfl ⟨_, _, _, rfl, World.ownsRow_nil _ _ _ _, B1.out.setCell (by show w.heap.size ≤ w.heap.size + 1; omega) _⟩
  | true =>
    have e1 : Hid (rsP ss = mkPic (row0 ss).size ss.length (rsF ss)) := rsP_yes hok
    have C := Lib.hid (attemptPi_yes 41 #[.pointer (some ⟨w.heap.size, 0, none⟩)] W0 (fun u W w' => Below W0.heap.size W0 W → ∃ g c, u = .agg #[.slice (some ⟨g, 0, none⟩) (mkPic (row0 ss).size ss.length (rsF ss)).length c] ∧ OwnP w' W.heap.size (.slice (some ⟨g, 0, none⟩) (mkPic (row0 ss).size ss.length (rsF ss)).length c) (mkPic (row0 ss).size ss.length (rsF ss))) call_ResidueOf1 (fun W hb => (workResidueOf_yes w.heap.size v ss W hN hz ((hv.below hb0).below hb) ((he.below hb0).below hb) (cell_kept hb (cell_of_one p0)) hok).mono fun e w' ⟨g, c, h1, h2, h3⟩ => ⟨_, _, _, h1, fun _ => ⟨g, c, rfl, h2⟩, h3⟩))
    rw [e1.out]
    obtain ⟨pic, hpic⟩ : ∃ p, mkPic (row0 ss).size ss.length (rsF ss) = p := ⟨_, rfl⟩
    rw [hpic] at C ⊢
    clear hv hr he hok e1 p0 p2 hb0 hW0 hpic hN hz
    go_enter Tryd.func13, Tryd.ntmps13
    go_upto_region 1 with fail
    rw [HW.out]
    go_wp2_with fail
    refine C.out.mono ?_
    rintro e w9 ⟨a5, n5, c5, w1, rfl, hQ, hb1, rfl, hr1, hr2⟩
    obtain ⟨g, c, hu, hown⟩ := hQ (Joins.below_alloc2 _ _ _)
    injection hu with hu
    have hu2 : Value.slice a5 n5 c5 = .slice (some ⟨g, 0, none⟩) pic.length c := by
      have := congrArg (fun a : Array Value => a[0]?) hu
      simpa using this
    injection hu2 with h1 h2 h3
    subst h1 h2 h3
    have hr3 : (w1.setCell ⟨W0.heap.size, 0, none⟩ (.slice (some ⟨g, 0, none⟩) pic.length c5)).heap[W0.heap.size + 1]? = some (.cells #[.bool false] 4 (0, 0)) := (Below.heap_setCell _ _ _ _ (by simp)).trans hr2
    have o1 := own_set (u := .slice (some ⟨g, 0, none⟩) pic.length c5) hown hr1 (by decide)
    have o2 := own_set (u := .bool true) o1 hr3 (by decide)
    have hbe : Below W0.heap.size W0 ((w1.setCell ⟨W0.heap.size, 0, none⟩ (.slice (some ⟨g, 0, none⟩) pic.length c5)).setCell ⟨W0.heap.size + 1, 0, none⟩ (.bool true)) := (hb1.setCell (by simp) _).setCell (by simp) _
    have o3 : OwnP _ _ _ _ := OwnP.mono o2 (show w.heap.size ≤ _ by simp; omega)
    obtain ⟨W9, hW9⟩ : ∃ W9, ((w1.setCell ⟨W0.heap.size, 0, none⟩ (.slice (some ⟨g, 0, none⟩) pic.length c5)).setCell ⟨W0.heap.size + 1, 0, none⟩ (.bool true)) = W9 := ⟨_, rfl⟩
    rw [hW9] at hbe o3 ⊢
    have hp1 := KR.out _ hbe
    have hfr : W9.frozen? ⟨w.heap.size + 1, 0, none⟩ = false := free_of_one hp1
    have hc2 : W9.cell? ⟨w.heap.size + 1, 0, none⟩ = some (.slice none 0 0) := cell_of_one hp1
    have O2 := Lib.hid (own_set (u := .slice (some ⟨g, 0, none⟩) pic.length c5) o3 hp1 (by decide))
    have P5 := Lib.hid hp1
    have B5 := Lib.hid (HB0.out.trans (hbe.mono HB0.out.size))
    clear hQ hb1 hr1 hr2 hown hu hr3 o1 o2 hbe o3 hW9 hp1
    go_wp2_with fail
    refine bodyPost_ret (v := .tuple #[.agg #[.slice (some ⟨g, 0, none⟩) pic.length c5], .bool true]) (by simp [results, Tryd.results13, go_sem, cell_of_one (one_setCell P5.out)]) rfl ⟨_, _, _, rfl, O2.out, B5.out.setCell (by show w.heap.size ≤ w.heap.size + 1; omega) _⟩
end Go.Proofs.YtnmnlbgialolhaaDoor
