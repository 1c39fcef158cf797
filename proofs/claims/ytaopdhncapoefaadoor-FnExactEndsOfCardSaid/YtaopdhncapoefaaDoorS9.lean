/- Contracts of single functions, and plain lemmas, on which the exact laws of this seat rest; each holds under the conditions that it states. -/
import Derived.Test.YtaopdhncapoefaaDoorR1
import Derived.Test.YtaopdhncapoefaaDoorS5
import Derived.Test.YtaopdhncapoefaaDoorS8
namespace Go.Proofs.YtaopdhncapoefaaDoor
set_option linter.unusedVariables false
set_option linter.unusedSimpArgs false
open Go.RowKit

theorem catchS_panicking (p q : Addr) (u0 b0 : Value) (u : TypeId) (pv : Value) (older : List PanicEntry) (w : World) (hc : w.cell? p = some u0) (hz : w.frozen? p = false) (hc2 : w.cell? q = some b0) (hz2 : w.frozen? q = false) (hne : p.block ≠ q.block) :
    CallsD Tryd.prog 66 #[.pointer (some p), .pointer (some q)] (.panicking ({ v := .iface u pv, recovered := false } :: older)) w fun e u' w' =>
      e = .returned (.tuple #[]) ∧ u' = .panicking ({ v := .iface u pv, recovered := true } :: older) ∧ w' = (w.setCell p (.slice none 0 0)).setCell q (.bool false) := by
  have hd2 : (w.setCell p (.slice none 0 0)).cell? q = some b0 := by rw [World.cell?_setCell_other _ _ _ _ (fun e => hne (by rw [e]))]; exact hc2
  have hf2 : (w.setCell p (.slice none 0 0)).frozen? q = false := by rw [World.frozen?_setCell]; exact hz2
  refine callsD_of_wpS Tryd.func66 rfl fun c₀ cs hu => ?_
  apply wpS_seq
  apply wpS_region
  simp [wpOpsS, go_sem, recoverD, hu, Tryd.ntmps66, Exit.thenS]
  refine wpS_cond (t := true) (by simp [Act.eval, Array.replicate]) ?_
  simp only [if_true]
  apply wpS_seq
  apply wpS_region
  simp [wpOpsS, go_sem, Exit.thenS]
  apply wpS_region
  simp [wpOpsS, go_sem, hc, hz, hd2, hf2, bodyPostS, results, Tryd.results66]

theorem catchS_idle (p q : Addr) (w : World) :
    CallsD Tryd.prog 66 #[.pointer (some p), .pointer (some q)] .returning w fun e u' w' => e = .returned (.tuple #[]) ∧ u' = .returning ∧ w' = w := by
  refine callsD_of_wpS Tryd.func66 rfl fun c₀ cs hu => ?_
  apply wpS_seq
  apply wpS_region
  simp [wpOpsS, go_sem, recoverD, hu, Tryd.ntmps66, Exit.thenS]
  refine wpS_cond (t := false) (by simp [Act.eval, Array.replicate]) ?_
  simp only [Bool.false_eq_true, if_false]
  refine wpS_of_wp (wp_skip ?_)
  cases c₀
  simp_all [bodyPostS, results, Tryd.results66]

/-- the work yields -/
theorem attemptS_yes (K cb : Nat) (w : World) (Q : Value → World → World → Prop) (hcf : ∀ args (W : World), (callFunc K args).run Tryd.prog W = .ok (.enter K args) W) (hw : ∀ W, Below w.heap.size w W → Calls Tryd.prog K #[.pointer (some ⟨cb, 0, none⟩)] W (fun e w' => ∃ ao n cap, e = .returned (.slice ao n cap) ∧ Q (.slice ao n cap) W w' ∧ Below W.heap.size W w')) :
    Calls Tryd.prog 47 #[.func (.func K) #[] #[.pointer (some ⟨cb, 0, none⟩)]] w fun e w' => ∃ ao n cap w1, e = .returned (.tuple #[.slice ao n cap, .bool true]) ∧ Q (.slice ao n cap) ((w.alloc (.cells #[.slice none 0 0] 38)).alloc (.cells #[.bool false] 4)) w1 ∧ Below w.heap.size w w1 ∧ w' = (w1.setCell ⟨w.heap.size, 0, none⟩ (.slice ao n cap)).setCell ⟨w.heap.size + 1, 0, none⟩ (.bool true) ∧ w1.heap[w.heap.size]? = some (.cells #[.slice none 0 0] 38 (0, 0)) ∧ w1.heap[w.heap.size + 1]? = some (.cells #[.bool false] 4 (0, 0)) := by
  have hmf : ∀ (fn : Fn) (first cap : Array Value) (w : World), (Instr.makeFunc fn first cap).run Tryd.prog w = .ok (.func fn first cap) w := fun _ _ _ _ => rfl
  have hb0 := Joins.below_alloc2 w (.cells #[.slice none 0 0] 38) (.cells #[.bool false] 4)
  have CW := Lib.hid (hw _ hb0)
  have h1 : ((w.alloc (.cells #[.slice none 0 0] 38)).alloc (.cells #[.bool false] 4)).heap[w.heap.size]? = some (.cells #[.slice none 0 0] 38 (0, 0)) := by
    rw [Below.heap_alloc _ _ _ (by simp)]; exact heap_alloc_last w _
  have h2 : ((w.alloc (.cells #[.slice none 0 0] 38)).alloc (.cells #[.bool false] 4)).heap[w.heap.size + 1]? = some (.cells #[.bool false] 4 (0, 0)) := heap_alloc2_new _ _ _
  have H1 := Lib.hid h1
  have H2 := Lib.hid h2
  have B0 := Lib.hid hb0
  clear h1 h2 hb0 hw
  go_enter_defers Tryd.func47, Tryd.ntmps47
  go_wp2_with fail
  refine CW.out.mono ?_
  rintro e w1 ⟨ao, n, cap, rfl, hQ, hb⟩
  have r1 := (hb.block w.heap.size (by simp; omega)).trans H1.out
  have r2 := (hb.block (w.heap.size + 1) (by simp)).trans H2.out
  have c1 := cell_of_one r1
  have c2 := cell_of_one r2
  have f1 := free_of_one r1
  have f2 := free_of_one r2
  have HQ := Lib.hid hQ
  have HB := Lib.hid hb
  have R1 := Lib.hid r1
  have R2 := Lib.hid r2
  clear hQ hb r1 r2
  go_wp2_with fail
  have x1 : ((w1.setCell ⟨w.heap.size, 0, none⟩ (.slice ao n cap)).setCell ⟨w.heap.size + 1, 0, none⟩ (.bool true)).cell? ⟨w.heap.size, 0, none⟩ = some (.slice ao n cap) := by
    rw [World.cell?_setCell_other _ _ _ _ (by intro e; have := congrArg Addr.block e; simp at this)]
    exact cell_of_one (one_setCell R1.out)
  have r3 : (w1.setCell ⟨w.heap.size, 0, none⟩ (.slice ao n cap)).heap[w.heap.size + 1]? = some (.cells #[.bool false] 4 (0, 0)) := (Below.heap_setCell _ _ _ _ (by simp)).trans R2.out
  have x2 : ((w1.setCell ⟨w.heap.size, 0, none⟩ (.slice ao n cap)).setCell ⟨w.heap.size + 1, 0, none⟩ (.bool true)).cell? ⟨w.heap.size + 1, 0, none⟩ = some (.bool true) := cell_of_one (one_setCell r3)
  refine leaves_cons (f := 66) (args := #[.pointer (some ⟨w.heap.size, 0, none⟩), .pointer (some ⟨w.heap.size + 1, 0, none⟩)]) (by simp) (by simp [go_sem]) ?_
  refine (catchS_idle ⟨w.heap.size, 0, none⟩ ⟨w.heap.size + 1, 0, none⟩ _).mono ?_
  rintro e u' w'' ⟨rfl, rfl, rfl⟩
  refine ⟨.tuple #[.slice ao n cap, .bool true], by simp [results, Tryd.results47, go_sem, x1, x2], ao, n, cap, w1, rfl, HQ.out, B0.out.trans (HB.out.mono (by simp; omega)), rfl, R1.out, R2.out⟩

set_option maxHeartbeats 1000000 in
set_option maxRecDepth 100000 in
/-- the work is given up -/
theorem attemptS_no (K cb : Nat) (w : World) (hcf : ∀ args (W : World), (callFunc K args).run Tryd.prog W = .ok (.enter K args) W) (hw : ∀ W, Below w.heap.size w W → Calls Tryd.prog K #[.pointer (some ⟨cb, 0, none⟩)] W (fun e w' => (∃ T x, e = .panicked [{ v := .iface T x, recovered := false }]) ∧ Below W.heap.size W w')) :
    Calls Tryd.prog 47 #[.func (.func K) #[] #[.pointer (some ⟨cb, 0, none⟩)]] w fun e w' => e = .returned (.tuple #[.slice none 0 0, .bool false]) ∧ Below w.heap.size w w' := by
  have hmf : ∀ (fn : Fn) (first cap : Array Value) (w : World), (Instr.makeFunc fn first cap).run Tryd.prog w = .ok (.func fn first cap) w := fun _ _ _ _ => rfl
  have hb0 := Joins.below_alloc2 w (.cells #[.slice none 0 0] 38) (.cells #[.bool false] 4)
  have CW := Lib.hid (hw _ hb0)
  have h1 : ((w.alloc (.cells #[.slice none 0 0] 38)).alloc (.cells #[.bool false] 4)).heap[w.heap.size]? = some (.cells #[.slice none 0 0] 38 (0, 0)) := by
    rw [Below.heap_alloc _ _ _ (by simp)]; exact heap_alloc_last w _
  have h2 : ((w.alloc (.cells #[.slice none 0 0] 38)).alloc (.cells #[.bool false] 4)).heap[w.heap.size + 1]? = some (.cells #[.bool false] 4 (0, 0)) := heap_alloc2_new _ _ _
  have H1 := Lib.hid h1
  have H2 := Lib.hid h2
  have B0 := Lib.hid hb0
  clear h1 h2 hb0 hw
  go_enter_defers Tryd.func47, Tryd.ntmps47
  go_wp2_with fail
  refine CW.out.mono ?_
  rintro e w1 ⟨⟨T, x, rfl⟩, hb⟩
  have r1 := (hb.block w.heap.size (by simp; omega)).trans H1.out
  have r2 := (hb.block (w.heap.size + 1) (by simp)).trans H2.out
  have HB := Lib.hid (B0.out.trans (hb.mono (by simp; omega)))
  clear hb
  go_wp2_with fail
  have r3 : (w1.setCell ⟨w.heap.size, 0, none⟩ (.slice none 0 0)).heap[w.heap.size + 1]? = some (.cells #[.bool false] 4 (0, 0)) := (Below.heap_setCell _ _ _ _ (by simp)).trans r2
  have x1 : ((w1.setCell ⟨w.heap.size, 0, none⟩ (.slice none 0 0)).setCell ⟨w.heap.size + 1, 0, none⟩ (.bool false)).cell? ⟨w.heap.size, 0, none⟩ = some (.slice none 0 0) := by
    rw [World.cell?_setCell_other _ _ _ _ (by intro e; have := congrArg Addr.block e; simp at this)]
    exact cell_of_one (one_setCell r1)
  have x2 : ((w1.setCell ⟨w.heap.size, 0, none⟩ (.slice none 0 0)).setCell ⟨w.heap.size + 1, 0, none⟩ (.bool false)).cell? ⟨w.heap.size + 1, 0, none⟩ = some (.bool false) := cell_of_one (one_setCell r3)
  have hs := HB.out.size
  refine leaves_cons (f := 66) (args := #[.pointer (some ⟨w.heap.size, 0, none⟩), .pointer (some ⟨w.heap.size + 1, 0, none⟩)]) (by simp) (by simp [go_sem]) ?_
  refine (catchS_panicking ⟨w.heap.size, 0, none⟩ ⟨w.heap.size + 1, 0, none⟩ (.slice none 0 0) (.bool false) T x [] _ (cell_of_one r1) (free_of_one r1) (cell_of_one r2) (free_of_one r2) (by simp)).mono ?_
  rintro e u' w'' ⟨rfl, rfl, rfl⟩
  refine ⟨.tuple #[.slice none 0 0, .bool false], by simp [results, Tryd.results47, go_sem, x1, x2], rfl, (HB.out.setCell (p := ⟨w.heap.size, 0, none⟩) (Nat.le_refl _) _).setCell (p := ⟨w.heap.size + 1, 0, none⟩) (by simp) _⟩

end Go.Proofs.YtaopdhncapoefaaDoor

/- Contracts of single functions, and plain lemmas, on which the exact laws of this seat rest; each holds under the conditions that it states. -/
namespace Go.Proofs.YtaopdhncapoefaaDoor
set_option linter.unusedVariables false
set_option linter.unusedSimpArgs false
open Go.RowKit

theorem pixI_pixF {ss : List ByteArray} (x y : Nat) (hx : x < (row0 ss).size) (hy : y < ss.length) : pixI ss (x : Int) (y : Int) = pixF ss y x := by
  unfold pixI pixF insB inB
  rw [decide_eq_true (show (0 : Int) ≤ (x : Int) by omega), decide_eq_true (show (x : Int) ≤ ((row0 ss).size : Int) - 1 by omega), decide_eq_true (show (0 : Int) ≤ (y : Int) by omega), decide_eq_true (show (y : Int) ≤ (ss.length : Int) - 1 by omega)]
  simp

theorem call_EndsWork : ∀ args (W : World), (callFunc 48 args).run Tryd.prog W = .ok (.enter 48 args) W := by
  intro args W
  first | (go_simp; done) | (simp [callFunc, go_sem]; done) | kernel_rfl

theorem endsWork_yes (pb : Nat) (v : Value) (ss : List ByteArray) (w : World) (hc : w.cell? ⟨pb, 0, none⟩ = some v) (hN : ss.length ≤ maxLen) (hz : ∀ s ∈ ss, s.size ≤ maxLen) (hv : Sl w v ss) (he : ErrLen w) (hR : RingP w) (hok : validB ss = true) :
    Calls Tryd.prog 48 #[.pointer (some ⟨pb, 0, none⟩)] w (fun e w' => ∃ ao n cap, e = .returned (.slice ao n cap) ∧ OwnS w' w.heap.size (.slice ao n cap) (edV ss) ∧ Below w.heap.size w w') := by
  have V := vp_of hok
  have hpe : blackB (row0 ss).size ss.length (wordsOf ss) = pixI ss := funext fun x => funext fun y => black_pix V x y
  have h := endsWork_mid pb v (matC ss) (row0 ss).size ss.length (pixI ss) w ⟨V.w1, V.w16⟩ ⟨V.n1, V.n16⟩ hc (matC_size ss) (matC_one ss)
    (fun W g hg => by
      rw [matC_yes hok] at hg
      exact ⟨by rw [Joins.cell_of_block hg 0]; rfl, by rw [Joins.cell_of_block hg 1]; rfl⟩)
    (reqMat_yes v ss w hN hz hv he hok)
    (fun x y W => by
      have := black_any (matC ss) (row0 ss).size ss.length (wordsOf ss) x y W (matC_yes hok) V.w16 V.n16 (fun j => words_lt V j)
      rwa [hpe] at this)
    (fun x y W hb h1 h2 => by
      have := ringAt_any (matC ss) (row0 ss).size ss.length (wordsOf ss) x y W (matC_yes hok) V.w16 V.n16 (fun j => words_lt V j) h1 h2 (hR.below hb)
      rwa [hpe] at this)
  have e : selE (pixI ss) ((picGrid (row0 ss).size ss.length ⟨V.w1, V.w16⟩ ⟨V.n1, V.n16⟩).list (ss.length * (row0 ss).size)) = edV ss := by
    rw [selE_range (pixI ss) (row0 ss).size ss.length ⟨V.w1, V.w16⟩ ⟨V.n1, V.n16⟩ (pixF ss) (fun x y hx hy => pixI_pixF x y hx hy) _ (by rw [Nat.mul_comm]; exact Nat.le_refl _), Nat.mul_comm]
    unfold edV edL spL
    rw [if_pos hok]
  rwa [e] at h

set_option maxHeartbeats 1000000 in
set_option maxRecDepth 100000 in
theorem endsWork_no (pb : Nat) (v : Value) (ss : List ByteArray) (w : World) (hc : w.cell? ⟨pb, 0, none⟩ = some v) (hN : ss.length ≤ maxLen) (hz : ∀ s ∈ ss, s.size ≤ maxLen) (hv : Sl w v ss) (he : ErrLen w) (hn : NoRes w) (hok : validB ss = false) :
    Calls Tryd.prog 48 #[.pointer (some ⟨pb, 0, none⟩)] w (fun e w' => (∃ T x, e = .panicked [{ v := .iface T x, recovered := false }]) ∧ Below w.heap.size w w') := by
  have C := Lib.hid (reqMat_no v ss w hN hz hv he hn hok)
  clear hv he hn hok
  go_enter Tryd.func48, Tryd.ntmps48
  go_wp2_with fail
  refine C.out.mono ?_
  rintro e w1 ⟨⟨T, x, rfl⟩, hb1⟩
  have HB := Lib.hid hb1
  clear hb1
  go_wp2_with fail
  exact ⟨rfl, ⟨T, x, rfl⟩, HB.out⟩

set_option maxHeartbeats 4000000 in
set_option maxRecDepth 100000 in
theorem impl_Ends (v : Value) (ss : List ByteArray) (w : World) (hN : ss.length ≤ maxLen) (hz : ∀ s ∈ ss, s.size ≤ maxLen) (hv : Sl w v ss) (he : ErrLen w) (hn : NoRes w) (hR : RingP w) :
    Calls Tryd.prog 19 #[.agg #[v]] w (SaysSp (edV ss) (validB ss) w) := by
  have hb0 := Joins.below_alloc1 w (.cells #[v] 28)
  have hc0 : (w.alloc (.cells #[v] 28)).cell? ⟨w.heap.size, 0, none⟩ = some v := cell_of_one (heap_alloc_last w _)
  cases hok : validB ss with
  | true =>
    have C := Lib.hid (attemptS_yes 48 w.heap.size (w.alloc (.cells #[v] 28)) (fun v W w' => OwnS w' W.heap.size v (edV ss)) call_EndsWork (fun W hb => endsWork_yes w.heap.size v ss W (cell_kept hb hc0) hN hz ((hv.below hb0).below hb) ((he.below hb0).below hb) ((hR.below hb0).below hb) hok))
    have HB0 := Lib.hid hb0
    obtain ⟨ns, hns⟩ : ∃ ns, edV ss = ns := ⟨_, rfl⟩
    rw [hns] at C ⊢
    have hmf : ∀ (fn : Fn) (first cap : Array Value) (w : World), (Instr.makeFunc fn first cap).run Tryd.prog w = .ok (.func fn first cap) w := fun _ _ _ _ => rfl
    clear hv he hn hR hns hc0 hb0 hok
    go_enter Tryd.func19, Tryd.ntmps19
    go_wp2_with fail
    refine C.out.mono ?_
    rintro e w1 ⟨ao, n, cap, w2, rfl, hQ, hb, rfl, r1, r2⟩
    have hs0 := hb.size
    have hsw : (w.alloc (.cells #[v] 28)).heap.size = w.heap.size + 1 := by simp
    rw [hsw] at r1 r2 hs0
    have hQ' : OwnS w2 w.heap.size (.slice ao n cap) ns := Joins.ownsRow_le hQ (by simp; omega)
    have hO1 := own_set (u := .slice ao n cap) hQ' r1 (by decide)
    have r3 : (w2.setCell ⟨w.heap.size + 1, 0, none⟩ (.slice ao n cap)).heap[w.heap.size + 1 + 1]? = some (.cells #[.bool false] 4 (0, 0)) := (Below.heap_setCell _ _ _ _ (by simp)).trans r2
    have HO := Lib.hid (own_set (u := .bool true) hO1 r3 (by decide))
    have HB := Lib.hid (((HB0.out.trans (hb.mono (by simp))).setCell (p := ⟨w.heap.size + 1, 0, none⟩) (by simp) (.slice ao n cap)).setCell (p := ⟨w.heap.size + 1 + 1, 0, none⟩) (by simp; omega) (.bool true))
    rw [hsw]
    clear hQ hb r1 r2 r3 hQ' hO1 hsw hs0
    go_wp2_with fail
    go_ret2
    exact ⟨_, _, _, rfl, HO.out, HB.out⟩
  | false =>
    have C := Lib.hid (attemptS_no 48 w.heap.size (w.alloc (.cells #[v] 28)) call_EndsWork (fun W hb => endsWork_no w.heap.size v ss W (cell_kept hb hc0) hN hz ((hv.below hb0).below hb) ((he.below hb0).below hb) ((hn.below hb0).below hb) hok))
    have HB0 := Lib.hid hb0
    have hns : edV ss = [] := by unfold edV; rw [hok]; rfl
    rw [hns]
    have hmf : ∀ (fn : Fn) (first cap : Array Value) (w : World), (Instr.makeFunc fn first cap).run Tryd.prog w = .ok (.func fn first cap) w := fun _ _ _ _ => rfl
    clear hv he hn hR hns hc0 hb0 hok
    go_enter Tryd.func19, Tryd.ntmps19
    go_wp2_with fail
    refine C.out.mono ?_
    rintro e w1 ⟨rfl, hb⟩
    have HB := Lib.hid (HB0.out.trans (hb.mono (by simp)))
    clear hb
    go_wp2_with fail
    go_ret2
    exact ⟨_, _, _, rfl, World.ownsRow_nil _ _ _ _, HB.out⟩
theorem edV_len (ss : List ByteArray) : (edV ss).length ≤ 256 := by
  unfold edV
  split
  · rename_i hp
    have V := vp_of hp
    exact Nat.le_trans (edL_len _ _) (Nat.le_trans (spL_len _ _ _) (Nat.mul_le_mul V.w16 V.n16))
  · simp
end Go.Proofs.YtaopdhncapoefaaDoor
