/- Contracts of single functions, and plain lemmas, on which the exact laws of this seat rest; each holds under the conditions that it states. -/
import Derived.Test.YtdeagfmldpociaaDoorDD
import Derived.Test.YtdeagfmldpociaaDoorR1
import Derived.Test.YtdeagfmldpociaaDoorCVC
namespace Go.Proofs.YtdeagfmldpociaaDoor
set_option linter.unusedVariables false
set_option linter.unusedSimpArgs false
open Go.RowKit

/-- what the deferred closure leaves -/
def caughtQ (w : World) (p q : Nat) : World := (((w.alloc (.cells #[.int .i64 0, .int .i64 0] 26)).setCell ⟨p, 0, none⟩ (.int .i64 0)).setCell ⟨p, 1, none⟩ (.int .i64 0)).setCell ⟨q, 0, none⟩ (.bool false)

set_option maxHeartbeats 1000000 in
set_option maxRecDepth 100000 in
theorem catchQ_panicking (p q : Nat) (s : Int × Int) (b0 : Value) (u : TypeId) (pv : Value) (older : List PanicEntry) (w : World) (hp : Var2 w p s) (hq : w.heap[q]? = some (.cells #[b0] 4 (0, 0))) (hne : p ≠ q) :
    CallsD Tryd.prog 112 #[.pointer (some ⟨p, 0, none⟩), .pointer (some ⟨q, 0, none⟩)] (.panicking ({ v := .iface u pv, recovered := false } :: older)) w fun e u' w' =>
      e = .returned (.tuple #[]) ∧ u' = .panicking ({ v := .iface u pv, recovered := true } :: older) ∧ w' = caughtQ w p q := by
  have hlp := hp.lt
  have hlq := (Array.getElem?_eq_some_iff.1 hq).1
  have hn : Var2 (w.alloc (.cells #[.int .i64 0, .int .i64 0] 26)) w.heap.size (0, 0) := heap_alloc_last w _
  have hpa : Var2 (w.alloc (.cells #[.int .i64 0, .int .i64 0] 26)) p s := (Below.heap_alloc _ _ _ hlp).trans hp
  have hqa : (w.alloc (.cells #[.int .i64 0, .int .i64 0] 26)).heap[q]? = some (.cells #[b0] 4 (0, 0)) := (Below.heap_alloc _ _ _ hlq).trans hq
  obtain ⟨W, hW⟩ : ∃ W, w.alloc (.cells #[.int .i64 0, .int .i64 0] 26) = W := ⟨_, rfl⟩
  have hcq : caughtQ w p q = ((W.setCell ⟨p, 0, none⟩ (.int .i64 0)).setCell ⟨p, 1, none⟩ (.int .i64 0)).setCell ⟨q, 0, none⟩ (.bool false) := by rw [← hW]; rfl
  rw [hcq]
  have hp1 : (W.setCell ⟨p, 0, none⟩ (.int .i64 0)).heap[p]? = some (.cells #[.int .i64 0, .int .i64 s.2] 26 (0, 0)) := by
    rw [hW] at hpa
    exact Joins.block_setCell hpa (.int .i64 0)
  have hq1 : (W.setCell ⟨p, 0, none⟩ (.int .i64 0)).heap[q]? = some (.cells #[b0] 4 (0, 0)) := by
    rw [hW] at hqa
    exact (Below.heap_setCell _ _ _ _ (Ne.symm hne)).trans hqa
  have hq2 : ((W.setCell ⟨p, 0, none⟩ (.int .i64 0)).setCell ⟨p, 1, none⟩ (.int .i64 0)).heap[q]? = some (.cells #[b0] 4 (0, 0)) := (Below.heap_setCell _ _ _ _ (Ne.symm hne)).trans hq1
  rw [hW] at hn hpa
  have n0 := hn.c0
  have n1 := hn.c1
  have p0 := hpa.c0
  have pf0 := two_free hpa 0
  have p1 : (W.setCell ⟨p, 0, none⟩ (.int .i64 0)).cell? ⟨p, 1, none⟩ = some (.int .i64 s.2) := by rw [Joins.cell_of_block hp1 1]; rfl
  have pf1 : (W.setCell ⟨p, 0, none⟩ (.int .i64 0)).frozen? ⟨p, 1, none⟩ = false := Joins.unfrozen_of_block hp1 1
  have q2 := cell_of_one hq2
  have qf2 := free_of_one hq2
  have HW := Lib.hid hW
  clear hW hp hq hqa hq1 hq2 hp1 hn hpa hcq
  refine callsD_of_wpS Tryd.func112 rfl fun c₀ cs hu => ?_
  apply wpS_seq
  apply wpS_region
  simp [wpOpsS, go_sem, recoverD, hu, Tryd.ntmps112, Exit.thenS]
  refine wpS_cond (t := true) (by simp [Act.eval, Array.replicate]) ?_
  simp only [if_true]
  apply wpS_seq
  apply wpS_region
  simp [wpOpsS, go_sem, Exit.thenS]
  rw [HW.out]
  apply wpS_region
  simp [wpOpsS, go_sem, n0, n1, p0, pf0, p1, pf1, q2, qf2, bodyPostS, results, Tryd.results112]

theorem catchQ_idle (p q : Addr) (w : World) :
    CallsD Tryd.prog 112 #[.pointer (some p), .pointer (some q)] .returning w fun e u' w' => e = .returned (.tuple #[]) ∧ u' = .returning ∧ w' = w := by
  refine callsD_of_wpS Tryd.func112 rfl fun c₀ cs hu => ?_
  apply wpS_seq
  apply wpS_region
  simp [wpOpsS, go_sem, recoverD, hu, Tryd.ntmps112, Exit.thenS]
  refine wpS_cond (t := false) (by simp [Act.eval, Array.replicate]) ?_
  simp only [Bool.false_eq_true, if_false]
  refine wpS_of_wp (wp_skip ?_)
  cases c₀
  simp_all [bodyPostS, results, Tryd.results112]
end Go.Proofs.YtdeagfmldpociaaDoor

/- Contracts of single functions, and plain lemmas, on which the exact laws of this seat rest; each holds under the conditions that it states. -/
namespace Go.Proofs.YtdeagfmldpociaaDoor
set_option linter.unusedVariables false
set_option linter.unusedSimpArgs false
open Go.RowKit
attribute [local go_sem] Oper.semAt_some

set_option maxHeartbeats 1000000 in
set_option maxRecDepth 100000 in
theorem attemptQ_yes (K : Nat) (caps : Array Value) (r1 r2 : Int) (w : World) (hcf : ∀ args (W : World), (callFunc K args).run Tryd.prog W = .ok (.enter K args) W) (hw : ∀ W, Below w.heap.size w W → Calls Tryd.prog K caps W (fun e w' => e = .returned (.agg #[.int .i64 r1, .int .i64 r2]) ∧ Below W.heap.size W w')) :
    Calls Tryd.prog 59 #[.func (.func K) #[] caps] w (SaysSOk (r1, r2) true w) := by
  have hmf : ∀ (fn : Fn) (first cap : Array Value) (w : World), (Instr.makeFunc fn first cap).run Tryd.prog w = .ok (.func fn first cap) w := fun _ _ _ _ => rfl
  have hb0 := Joins.below_alloc2 w (.cells #[.int .i64 0, .int .i64 0] 26) (.cells #[.bool false] 4)
  have CW := Lib.hid (hw _ hb0)
  have h1 : Var2 ((w.alloc (.cells #[.int .i64 0, .int .i64 0] 26)).alloc (.cells #[.bool false] 4)) w.heap.size (0, 0) := by
    show _ = _
    rw [Below.heap_alloc _ _ _ (by simp)]; exact heap_alloc_last w _
  have h2 : ((w.alloc (.cells #[.int .i64 0, .int .i64 0] 26)).alloc (.cells #[.bool false] 4)).heap[w.heap.size + 1]? = some (.cells #[.bool false] 4 (0, 0)) := heap_alloc2_new _ _ _
  have H1 := Lib.hid h1
  have H2 := Lib.hid h2
  have B0 := Lib.hid hb0
  clear h1 h2 hb0 hw
  go_enter_defers Tryd.func59, Tryd.ntmps59
  go_wp2_with fail
  refine CW.out.mono ?_
  rintro e w1 ⟨rfl, hb⟩
  have R1 : Hid (Var2 w1 w.heap.size (0, 0)) := H1.out.below hb
  have r2' := (hb.block (w.heap.size + 1) (by simp)).trans H2.out
  have R1a : Hid (Var2 w1 w.heap.size (0, 0)) := R1
  have hp1 : (w1.setCell ⟨w.heap.size, 0, none⟩ (.int .i64 r1)).heap[w.heap.size]? = some (.cells #[.int .i64 r1, .int .i64 0] 26 (0, 0)) := Joins.block_setCell R1.out (.int .i64 r1)
  have p0 := R1.out.c0
  have p1' := R1.out.c1
  have pf0 := two_free R1.out 0
  have p1 : (w1.setCell ⟨w.heap.size, 0, none⟩ (.int .i64 r1)).cell? ⟨w.heap.size, 1, none⟩ = some (.int .i64 0) := by rw [Joins.cell_of_block hp1 1]; rfl
  have pf1 : (w1.setCell ⟨w.heap.size, 0, none⟩ (.int .i64 r1)).frozen? ⟨w.heap.size, 1, none⟩ = false := Joins.unfrozen_of_block hp1 1
  have pf1' := two_free R1.out 1
  have c2 := cell_of_one r2'
  have f2 := free_of_one r2'
  have HB := Lib.hid hb
  have R2 := Lib.hid r2'
  have HV : Hid (Var2 ((w1.setCell ⟨w.heap.size, 0, none⟩ (.int .i64 r1)).setCell ⟨w.heap.size, 1, none⟩ (.int .i64 r2)) w.heap.size (r1, r2)) := R1.out.upd r1 r2
  have HB2 : Hid (((w1.setCell ⟨w.heap.size, 0, none⟩ (.int .i64 r1)).setCell ⟨w.heap.size, 1, none⟩ (.int .i64 r2)).heap[w.heap.size + 1]? = some (.cells #[.bool false] 4 (0, 0))) := (Below.heap_setCell _ _ _ _ (by simp)).trans ((Below.heap_setCell _ _ _ _ (by simp)).trans R2.out)
  clear hb hp1 r2'
  go_wp2_with fail
  obtain ⟨W3, hW3⟩ : ∃ W3, ((w1.setCell ⟨w.heap.size, 0, none⟩ (.int .i64 r1)).setCell ⟨w.heap.size, 1, none⟩ (.int .i64 r2)) = W3 := ⟨_, rfl⟩
  rw [hW3] at HV HB2 ⊢
  have hB3 : Below w.heap.size w W3 := by
    rw [← hW3]
    exact ((B0.out.trans (HB.out.mono (by simp; omega))).setCell (p := ⟨w.heap.size, 0, none⟩) (by simp) _).setCell (p := ⟨w.heap.size, 1, none⟩) (by simp) _
  have V4 := HV.out.far (C := w.heap.size + 1) (i := 0) (by omega) (.bool true)
  have x0 := V4.c0
  have x1 := V4.c1
  have x2 : (W3.setCell ⟨w.heap.size + 1, 0, none⟩ (.bool true)).cell? ⟨w.heap.size + 1, 0, none⟩ = some (.bool true) := cell_of_one (one_setCell HB2.out)
  refine leaves_cons (f := 112) (args := #[.pointer (some ⟨w.heap.size, 0, none⟩), .pointer (some ⟨w.heap.size + 1, 0, none⟩)]) (by simp) (by simp [go_sem]) ?_
  refine (catchQ_idle ⟨w.heap.size, 0, none⟩ ⟨w.heap.size + 1, 0, none⟩ _).mono ?_
  rintro e u' w'' ⟨rfl, rfl, rfl⟩
  refine ⟨.tuple #[.agg #[.int .i64 r1, .int .i64 r2], .bool true], by simp [results, Tryd.results59, go_sem, x0, x1, x2], rfl, hB3.setCell (p := ⟨w.heap.size + 1, 0, none⟩) (by simp) _⟩

set_option maxHeartbeats 1000000 in
set_option maxRecDepth 100000 in
theorem attemptQ_no (K : Nat) (caps : Array Value) (w : World) (hcf : ∀ args (W : World), (callFunc K args).run Tryd.prog W = .ok (.enter K args) W) (hw : ∀ W, Below w.heap.size w W → Calls Tryd.prog K caps W (fun e w' => (∃ T x, e = .panicked [{ v := .iface T x, recovered := false }]) ∧ Below W.heap.size W w')) :
    Calls Tryd.prog 59 #[.func (.func K) #[] caps] w (SaysSOk (0, 0) false w) := by
  have hmf : ∀ (fn : Fn) (first cap : Array Value) (w : World), (Instr.makeFunc fn first cap).run Tryd.prog w = .ok (.func fn first cap) w := fun _ _ _ _ => rfl
  have hb0 := Joins.below_alloc2 w (.cells #[.int .i64 0, .int .i64 0] 26) (.cells #[.bool false] 4)
  have CW := Lib.hid (hw _ hb0)
  have h1 : Var2 ((w.alloc (.cells #[.int .i64 0, .int .i64 0] 26)).alloc (.cells #[.bool false] 4)) w.heap.size (0, 0) := by
    show _ = _
    rw [Below.heap_alloc _ _ _ (by simp)]; exact heap_alloc_last w _
  have h2 : ((w.alloc (.cells #[.int .i64 0, .int .i64 0] 26)).alloc (.cells #[.bool false] 4)).heap[w.heap.size + 1]? = some (.cells #[.bool false] 4 (0, 0)) := heap_alloc2_new _ _ _
  have H1 := Lib.hid h1
  have H2 := Lib.hid h2
  have B0 := Lib.hid hb0
  clear h1 h2 hb0 hw
  go_enter_defers Tryd.func59, Tryd.ntmps59
  go_wp2_with fail
  refine CW.out.mono ?_
  rintro e w1 ⟨⟨T, x, rfl⟩, hb⟩
  have R1 : Hid (Var2 w1 w.heap.size (0, 0)) := H1.out.below hb
  have R2 := Lib.hid ((hb.block (w.heap.size + 1) (by simp)).trans H2.out)
  have HB := Lib.hid (B0.out.trans (hb.mono (by simp; omega)))
  clear hb
  go_wp2_with fail
  have hs := HB.out.size
  have hb1 := Joins.below_alloc1 w1 (.cells #[.int .i64 0, .int .i64 0] 26)
  have V2 : Var2 (((w1.alloc (.cells #[.int .i64 0, .int .i64 0] 26)).setCell ⟨w.heap.size, 0, none⟩ (.int .i64 0)).setCell ⟨w.heap.size, 1, none⟩ (.int .i64 0)) w.heap.size (0, 0) := (R1.out.below hb1).upd 0 0
  have V3 := V2.far (C := w.heap.size + 1) (i := 0) (by omega) (.bool false)
  have r3 : (((w1.alloc (.cells #[.int .i64 0, .int .i64 0] 26)).setCell ⟨w.heap.size, 0, none⟩ (.int .i64 0)).setCell ⟨w.heap.size, 1, none⟩ (.int .i64 0)).heap[w.heap.size + 1]? = some (.cells #[.bool false] 4 (0, 0)) := (Below.heap_setCell _ _ _ _ (by simp)).trans ((Below.heap_setCell _ _ _ _ (by simp)).trans ((hb1.block _ (Array.getElem?_eq_some_iff.1 R2.out).1).trans R2.out))
  have x2 : (caughtQ w1 w.heap.size (w.heap.size + 1)).cell? ⟨w.heap.size + 1, 0, none⟩ = some (.bool false) := cell_of_one (one_setCell r3)
  have V3' : Var2 (caughtQ w1 w.heap.size (w.heap.size + 1)) w.heap.size (0, 0) := V3
  have x0 := V3'.c0
  have x1 := V3'.c1
  refine leaves_cons (f := 112) (args := #[.pointer (some ⟨w.heap.size, 0, none⟩), .pointer (some ⟨w.heap.size + 1, 0, none⟩)]) (by simp) (by simp [go_sem]) ?_
  refine (catchQ_panicking w.heap.size (w.heap.size + 1) (0, 0) (.bool false) T x [] _ R1.out R2.out (by omega)).mono ?_
  rintro e u' w'' ⟨rfl, rfl, rfl⟩
  have hBc : Below w.heap.size w (caughtQ w1 w.heap.size (w.heap.size + 1)) := (((HB.out.alloc hs _).setCell (p := ⟨w.heap.size, 0, none⟩) (by simp) _).setCell (p := ⟨w.heap.size, 1, none⟩) (by simp) _).setCell (p := ⟨w.heap.size + 1, 0, none⟩) (by simp) _
  exact ⟨.tuple #[.agg #[.int .i64 0, .int .i64 0], .bool false], by simp [results, Tryd.results59, go_sem, x0, x1, x2], rfl, hBc⟩

end Go.Proofs.YtdeagfmldpociaaDoor

/- Contracts of single functions, and plain lemmas, on which the exact laws of this seat rest; each holds under the conditions that it states. -/
namespace Go.Proofs.YtdeagfmldpociaaDoor
set_option linter.unusedVariables false
set_option linter.unusedSimpArgs false
open Go.RowKit
attribute [local go_sem] Oper.semAt_some

def saOk (c n i : Int) : Bool := (inB c 0 3 && inB n 0 4) && inB i 0 (sd n * sd n - 1)
def saV (c n i : Int) : Int × Int := if saOk c n i = true then (cvF c.toNat n.toNat).getD i.toNat (0, 0) else (0, 0)
/-- what is known of a curve and an order -/
theorem tour_nat {c n : Int} (h : (inB c 0 3 && inB n 0 4) = true) : ∃ c' n' : Nat, c = c' ∧ n = n' ∧ c' < 4 ∧ n' ≤ 4 := by
  simp only [Bool.and_eq_true] at h
  have h1 := inB_le h.1
  have h2 := inB_le h.2
  exact ⟨c.toNat, n.toNat, by omega, by omega, by omega, by omega⟩
theorem sd_mul {n : Int} (h0 : 0 ≤ n) (h4 : n ≤ 4) : IntKind.i64.wrap (sd n * sd n) = sd n * sd n ∧ 1 ≤ sd n * sd n ∧ sd n * sd n ≤ 256 := by
  have : n = 0 ∨ n = 1 ∨ n = 2 ∨ n = 3 ∨ n = 4 := by omega
  rcases this with rfl | rfl | rfl | rfl | rfl <;> decide +kernel
theorem sd_sq (n : Nat) : sd (n : Int) * sd (n : Int) = ((2 ^ n * 2 ^ n : Nat) : Int) := by
  rw [sd_nat]; push_cast; rfl

set_option maxHeartbeats 2000000 in
set_option maxRecDepth 100000 in
theorem spec_SpotAt (c n i : Int) (w : World) : Calls Tryd.prog 15 #[.int .i64 c, .int .i64 n, .int .i64 i] w (SaysSOk (saV c n i) (saOk c n i) w) := by
  have CA := Lib.hid (fun W => l08Ask_any c n W)
  have HO : Hid (saOk c n i = ((inB c 0 3 && inB n 0 4) && inB i 0 (sd n * sd n - 1))) := rfl
  have HV : Hid (saV c n i = if saOk c n i = true then (cvF c.toNat n.toNat).getD i.toNat (0, 0) else (0, 0)) := rfl
  have B0 := Lib.hid (Joins.below_alloc1 w (.cells #[.int .i64 0, .int .i64 0] 26))
  have HR0 : Hid (Var2 (w.alloc (.cells #[.int .i64 0, .int .i64 0] 26)) w.heap.size (0, 0)) := heap_alloc_last w _
  have lt0 : w.heap.size < (w.alloc (.cells #[.int .i64 0, .int .i64 0] 26)).heap.size := HR0.out.lt
  obtain ⟨W0, hW0⟩ : ∃ W0, w.alloc (.cells #[.int .i64 0, .int .i64 0] 26) = W0 := ⟨_, rfl⟩
  rw [hW0] at B0 HR0 lt0
  have HW := Lib.hid hW0
  have z0 := HR0.out.c0
  have z1 := HR0.out.c1
  have g0 := two_free HR0.out 0
  have g1 := two_free HR0.out 1
  clear hW0
  cases ha : (inB c 0 3 && inB n 0 4) with
  | false =>
    rw [ha] at HO CA
    have HR : Hid (saOk c n i = false) := HO.out
    have HR2 : Hid (saV c n i = (0, 0)) := by show _ = _; rw [HV.out, HR.out]; rfl
    rw [HR.out, HR2.out]
    clear HO HV ha HR HR2
    go_enter Tryd.func15, Tryd.ntmps15
    go_upto_region 1 with fail
    rw [HW.out]
    go_wp2_with fail
    refine (CA.out _).mono ?_
    rintro e w' ⟨rfl, rfl⟩
    go_wp2_with fail
    exact bodyPost_ret (results_cell_tmp Tryd.results15 _ _ w.heap.size 26 _ (0, 0) _ rfl (HR0.out.upd _ _) Tryd.underlying26 rfl infoSp1) rfl ⟨rfl, (B0.out.setCell (p := ⟨w.heap.size, 0, none⟩) (Nat.le_refl _) _).setCell (p := ⟨w.heap.size, 1, none⟩) (Nat.le_refl _) _⟩
  | true =>
    have hn : inB n 0 4 = true := by
      simp only [Bool.and_eq_true] at ha
      exact ha.2
    have hn2 := inB_le hn
    have CS := Lib.hid (fun W => l08Side_any n W hn2.1 hn2.2)
    obtain ⟨dw, d1, d256⟩ := sd_mul hn2.1 hn2.2
    have CX : Hid (∀ W, Calls Tryd.prog 58 #[.int .i64 c, .int .i64 n] W (TookSpots W (cvF c.toNat n.toNat))) := fun W => by
      obtain ⟨c', n', rfl, rfl, h1, h2⟩ := tour_nat ha
      simp only [Int.toNat_natCast]
      exact l08Spots_any c' n' W h1 h2
    have hlen : ((cvF c.toNat n.toNat).length : Int) = sd n * sd n := by
      obtain ⟨c', n', rfl, rfl, h1, h2⟩ := tour_nat ha
      simp only [Int.toNat_natCast]
      rw [cvF_len, sd_sq]
    rw [ha, Bool.true_and] at HO
    rw [ha] at CA
    obtain ⟨F, hF⟩ : ∃ F, cvF c.toNat n.toNat = F := ⟨_, rfl⟩
    rw [hF] at CX hlen HV
    obtain ⟨e2, he2⟩ : ∃ e, sd n * sd n = e := ⟨_, rfl⟩
    rw [he2] at d1 d256 hlen HO
    replace dw := dw.trans he2
    obtain ⟨d, hdd⟩ : ∃ d, sd n = d := ⟨_, rfl⟩
    rw [hdd] at CS he2 dw
    have ew : IntKind.i64.wrap (e2 - 1) = e2 - 1 := IntWalk.i64_in _ (by omega)
    have C1 := Lib.hid (fun W => l00In_any i 0 (e2 - 1) W)
    unfold TookSpots at CX
    clear ha hn hn2 hdd hF he2
    cases hb1 : inB i 0 (e2 - 1) with
    | false =>
      rw [hb1] at C1 HO
      have HR : Hid (saOk c n i = false) := HO.out
      have HR2 : Hid (saV c n i = (0, 0)) := by show _ = _; rw [HV.out, HR.out]; rfl
      rw [HR.out, HR2.out]
      clear HO HV HR HR2 hb1 CX
      go_enter Tryd.func15, Tryd.ntmps15
      go_upto_region 1 with fail
      rw [HW.out]
      go_wp2_with fail
      refine (CA.out _).mono ?_
      rintro e w' ⟨rfl, rfl⟩
      go_wp2_with fail
      refine (CS.out _).mono ?_
      rintro e w' ⟨rfl, rfl⟩
      go_wp2_with fail
      refine (CS.out _).mono ?_
      rintro e w' ⟨rfl, rfl⟩
      go_wp2_with fail
      refine (C1.out _).mono ?_
      rintro e w' ⟨rfl, rfl⟩
      go_wp2_with fail
      exact bodyPost_ret (results_cell_tmp Tryd.results15 _ _ w.heap.size 26 _ (0, 0) _ rfl (HR0.out.upd _ _) Tryd.underlying26 rfl infoSp1) rfl ⟨rfl, (B0.out.setCell (p := ⟨w.heap.size, 0, none⟩) (Nat.le_refl _) _).setCell (p := ⟨w.heap.size, 1, none⟩) (Nat.le_refl _) _⟩
    | true =>
      rw [hb1] at C1 HO
      have hi := inB_le hb1
      obtain ⟨k, rfl⟩ : ∃ k : Nat, i = k := ⟨i.toNat, by omega⟩
      have HR : Hid (saOk c n (k : Int) = true) := HO.out
      have HR2 : Hid (saV c n (k : Int) = ((F.getD k (0, 0)).1, (F.getD k (0, 0)).2)) := by show _ = _; rw [HV.out, HR.out, if_pos rfl, Int.toNat_natCast]
      rw [HR.out, HR2.out]
      have kF : k < F.length := by omega
      have HCl : Hid (∀ (W : World) (g cap : Nat), OwnS W w.heap.size (.slice (some ⟨g, 0, none⟩) F.length cap) F → True) := fun _ _ _ _ => trivial
      clear HO HV HR HR2 hb1 HCl
      go_enter Tryd.func15, Tryd.ntmps15
      go_upto_region 1 with fail
      rw [HW.out]
      go_wp2_with fail
      refine (CA.out _).mono ?_
      rintro e w' ⟨rfl, rfl⟩
      go_wp2_with fail
      refine (CS.out _).mono ?_
      rintro e w' ⟨rfl, rfl⟩
      go_wp2_with fail
      refine (CS.out _).mono ?_
      rintro e w' ⟨rfl, rfl⟩
      go_wp2_with fail
      refine (C1.out _).mono ?_
      rintro e w' ⟨rfl, rfl⟩
      go_wp2_with fail
      refine (CX.out _).mono ?_
      rintro e w1 ⟨g, cap, rfl, hown, hb⟩
      have HRa := Lib.hid (HR0.out.below hb)
      have B1 := Lib.hid (B0.out.trans (hb.mono B0.out.size))
      have y0 := HRa.out.c0
      have y1 := HRa.out.c1
      have f0 := two_free HRa.out 0
      have f1 := two_free HRa.out 1
      have sp := OwnS.spots hown
      have gl := sp.1
      have p0 := (sp.2 k kF).1
      have p1 := (sp.2 k kF).2
      have kk : (k : Int) < (F.length : Int) := by omega
      have kk0 : (0 : Int) ≤ (k : Int) := by omega
      clear hown sp hb z0 z1 g0 g1
      obtain ⟨r1, hr1⟩ : ∃ r, (F.getD k (0, 0)).1 = r := ⟨_, rfl⟩
      obtain ⟨r2, hr2⟩ : ∃ r, (F.getD k (0, 0)).2 = r := ⟨_, rfl⟩
      have HR1 := Lib.hid hr1
      have HR2 := Lib.hid hr2
      rw [hr1] at p0
      rw [hr2] at p1
      clear hr1 hr2
      go_wp2_with fail
      rw [HR1.out, HR2.out]
      exact bodyPost_ret (results_cell_tmp Tryd.results15 _ _ w.heap.size 26 _ (0, 0) _ rfl (HRa.out.upd _ _) Tryd.underlying26 rfl infoSp1) rfl ⟨rfl, (B1.out.setCell (p := ⟨w.heap.size, 0, none⟩) (Nat.le_refl _) _).setCell (p := ⟨w.heap.size, 1, none⟩) (Nat.le_refl _) _⟩
end Go.Proofs.YtdeagfmldpociaaDoor
