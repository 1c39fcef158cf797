/- Contracts of single functions, and plain lemmas, on which the exact laws of this seat rest; each holds under the conditions that it states. -/
import Derived.Test.YtdeagfmldpociaaDoorCVU
namespace Go.Proofs.YtdeagfmldpociaaDoor
set_option linter.unusedVariables false
set_option linter.unusedSimpArgs false
open Go.RowKit
attribute [local go_sem] Oper.semAt_some

theorem szOk_split {c n a b : Int} (ht : (inB c 0 3 && inB n 0 4) = true) (h : szOk c n a b = false) : ¬ (1 ≤ a ∧ 1 ≤ b) ∨ ((1 ≤ a ∧ 1 ≤ b) ∧ ¬ (a ≤ sd n ∧ b ≤ sd n)) := by
  unfold szOk at h
  rw [ht, Bool.true_and] at h
  by_cases h1 : 1 ≤ a ∧ 1 ≤ b
  · refine Or.inr ⟨h1, fun h2 => ?_⟩
    have : (inB a 1 (sd n) && inB b 1 (sd n)) = true := by
      unfold inB
      rw [decide_eq_true h1.1, decide_eq_true h1.2, decide_eq_true h2.1, decide_eq_true h2.2]
      rfl
    rw [this] at h
    cases h
  · exact Or.inl h1

set_option maxHeartbeats 4000000 in
set_option maxRecDepth 100000 in
theorem szWork_no (pc pn pa pb : Nat) (c n a b : Int) (w : World) (hp1 : w.cell? ⟨pc, 0, none⟩ = some (.int .i64 c)) (hp2 : w.cell? ⟨pn, 0, none⟩ = some (.int .i64 n)) (hp3 : w.cell? ⟨pa, 0, none⟩ = some (.int .i64 a)) (hp4 : w.cell? ⟨pb, 0, none⟩ = some (.int .i64 b)) (hr : NoRes w) (hok : szOk c n a b = false) :
    Calls Tryd.prog 74 #[.pointer (some ⟨pc, 0, none⟩), .pointer (some ⟨pn, 0, none⟩), .pointer (some ⟨pa, 0, none⟩), .pointer (some ⟨pb, 0, none⟩)] w (fun e w' => (∃ T x, e = .panicked [{ v := .iface T x, recovered := false }]) ∧ Below w.heap.size w w') := by
  cases ht : (inB c 0 3 && inB n 0 4) with
  | false =>
    have CT := Lib.hid (requiredTour_no c n w ht hr)
    clear hr hok ht hp3 hp4
    go_enter Tryd.func74, Tryd.ntmps74
    go_upto_region 1 with fail
    go_wp2_with fail
    refine CT.out.mono ?_
    rintro e w1 ⟨⟨T, x, rfl⟩, hb⟩
    have B1 := Lib.hid hb
    clear hb
    go_wp2
    exact ⟨rfl, ⟨T, x, rfl⟩, B1.out⟩
  | true =>
    have ht2 : inB c 0 3 = true ∧ inB n 0 4 = true := by simpa using ht
    have hn2 := inB_le ht2.2
    have CT : Hid (∀ W, Calls Tryd.prog 56 #[.int .i64 c, .int .i64 n] W (fun e w' => e = .returned (.agg #[.int .i64 c, .int .i64 n]) ∧ Below W.heap.size W w')) := fun W => requiredTour_yes c n W ht2.1 ht2.2
    have CQ := Lib.hid (fun W => square_any c n W hn2.1 hn2.2)
    have hsp := szOk_split ht hok
    obtain ⟨d, hd⟩ : ∃ d, sd n = d := ⟨_, rfl⟩
    rw [hd] at CQ hsp
    obtain ⟨M0, hM0⟩ : ∃ M, mcells d d (fun _ => 0) = M := ⟨_, rfl⟩
    have hf0 : ∀ (W : World), Sem.run Tryd.prog (Instr.field 94 (.agg M0) 0) W = .ok (.int .i64 d) W := fun W => by
      rw [← hM0]
      rfl
    rw [hM0] at CQ
    have HCN : Hid (∀ W, Below w.heap.size w W → Calls Tryd.prog 61 #[.bool false] W fun e w' => (∃ T x, e = .panicked [{ v := .iface T x, recovered := false }]) ∧ w' = W) := fun W hb => (require_no W (hr.below hb)).mono fun e w' ⟨T, x, h1, h2⟩ => ⟨⟨T, x, h1⟩, h2⟩
    have HP : Hid (∀ W, Below w.heap.size w W → W.cell? ⟨pa, 0, none⟩ = some (.int .i64 a) ∧ W.cell? ⟨pb, 0, none⟩ = some (.int .i64 b)) := fun W hb => ⟨cell_kept hb hp3, cell_kept hb hp4⟩
    have HSp := Lib.hid hsp
    clear hr hok ht ht2 hn2 hd hM0 hsp hp3 hp4
    go_enter Tryd.func74, Tryd.ntmps74
    go_upto_region 1 with fail
    go_wp2_with fail
    refine (CT.out _).mono ?_
    rintro e w1 ⟨rfl, hb1⟩
    have hbA := hb1.alloc hb1.size (.cells #[.int .i64 c, .int .i64 n] 73)
    have hpA := heap_alloc_last w1 (.cells #[.int .i64 c, .int .i64 n] 73)
    have hA0 : (w1.alloc (.cells #[.int .i64 c, .int .i64 n] 73)).cell? ⟨w1.heap.size, 0, none⟩ = some (.int .i64 c) := by rw [Joins.cell_of_block hpA 0]; rfl
    have hA1 : (w1.alloc (.cells #[.int .i64 c, .int .i64 n] 73)).cell? ⟨w1.heap.size, 1, none⟩ = some (.int .i64 n) := by rw [Joins.cell_of_block hpA 1]; rfl
    have HBA := Lib.hid hbA
    clear hp1 hp2 hb1 hbA hpA
    go_wp2_with fail
    refine (CQ.out _).mono ?_
    rintro e w2 ⟨rfl, hb2⟩
    have V2 := Lib.hid (HBA.out.trans (hb2.mono HBA.out.size))
    obtain ⟨p3, p4⟩ := HP.out _ V2.out
    clear hA0 hA1 hb2
    rcases HSp.out with h1 | ⟨h1, h2⟩
    · have kmin : ¬ (1 : Int) ≤ min a b := by omega
      have kmin2 : decide ((1 : Int) ≤ min a b) = false := decide_eq_false kmin
      have CN := Lib.hid (HCN.out _ V2.out)
      go_wp2_with fail
      refine CN.out.mono ?_
      rintro e w' ⟨⟨T, x, rfl⟩, rfl⟩
      go_wp2
      exact ⟨rfl, ⟨T, x, rfl⟩, V2.out⟩
    · have kmin : (1 : Int) ≤ min a b := by omega
      have kmax : ¬ max a b ≤ d := by omega
      have CN := Lib.hid (HCN.out _ V2.out)
      go_wp2_with fail
      rw [decide_eq_false (show ¬ max a b ≤ d by omega)]
      refine CN.out.mono ?_
      rintro e w' ⟨⟨T, x, rfl⟩, rfl⟩
      go_wp2
      exact ⟨rfl, ⟨T, x, rfl⟩, V2.out⟩

theorem call_Sz1 : ∀ args (W : World), (callFunc 74 args).run Tryd.prog W = .ok (.enter 74 args) W := by
  intro args W
  first | (go_simp; done) | (simp [callFunc, go_sem]; done) | kernel_rfl

theorem szWork_int (pc pn pa pb : Nat) (c n a b : Int) (w : World) (hp1 : w.cell? ⟨pc, 0, none⟩ = some (.int .i64 c)) (hp2 : w.cell? ⟨pn, 0, none⟩ = some (.int .i64 n)) (hp3 : w.cell? ⟨pa, 0, none⟩ = some (.int .i64 a)) (hp4 : w.cell? ⟨pb, 0, none⟩ = some (.int .i64 b)) (hQ : QvP w) (hok : szOk c n a b = true) :
    Calls Tryd.prog 74 #[.pointer (some ⟨pc, 0, none⟩), .pointer (some ⟨pn, 0, none⟩), .pointer (some ⟨pa, 0, none⟩), .pointer (some ⟨pb, 0, none⟩)] w (fun e w' => e = .returned (.int .i64 (szV c n a b)) ∧ Below w.heap.size w w') := by
  have hV : szV c n a b = (szT c.toNat n.toNat a b : Int) := by unfold szV; rw [if_pos hok]
  rw [hV]
  unfold szOk at hok
  obtain ⟨ht, hab⟩ := Bool.and_eq_true_iff.1 hok
  obtain ⟨ha, hb⟩ := Bool.and_eq_true_iff.1 hab
  have ha2 := inB_le ha
  have hb2 := inB_le hb
  obtain ⟨c', n', rfl, rfl, hc, hn⟩ := tour_nat ht
  rw [sd_pow hn] at ha2 hb2
  simp only [Int.toNat_natCast]
  obtain ⟨a', rfl⟩ : ∃ k : Nat, a = (k : Int) + 1 := ⟨(a - 1).toNat, by omega⟩
  obtain ⟨b', rfl⟩ : ∃ k : Nat, b = (k : Int) + 1 := ⟨(b - 1).toNat, by omega⟩
  exact szWork pc pn pa pb c' n' a' b' w hp1 hp2 hp3 hp4 hQ hc hn (by omega) (by omega)

set_option maxHeartbeats 4000000 in
set_option maxRecDepth 100000 in
theorem impl_IntervalsOfSize (c n a b : Int) (w : World) (hn : NoRes w) (hQ : QvP w) :
    Calls Tryd.prog 24 #[.int .i64 c, .int .i64 n, .int .i64 a, .int .i64 b] w (SaysIOk (szV c n a b) (szOk c n a b) w) := by
  obtain ⟨W0, hW0⟩ : ∃ W0, ((((w.alloc (.cells #[.int .i64 c] 2)).alloc (.cells #[.int .i64 n] 2)).alloc (.cells #[.int .i64 a] 2)).alloc (.cells #[.int .i64 b] 2)) = W0 := ⟨_, rfl⟩
  have b0 : Below w.heap.size w W0 := by rw [← hW0]; exact ((Joins.below_alloc3 w _ _ _).alloc (by first | (simp; done) | (simp; omega)) _)
  have h0 : W0.heap[w.heap.size]? = some (.cells #[.int .i64 c] 2 (0, 0)) := by
    rw [← hW0]
    rw [Below.heap_alloc _ _ _ (by first | (simp; done) | (simp; omega)), Below.heap_alloc _ _ _ (by first | (simp; done) | (simp; omega)), Below.heap_alloc _ _ _ (by simp)]; exact heap_alloc_last w _
  have h1 : W0.heap[w.heap.size + 1]? = some (.cells #[.int .i64 n] 2 (0, 0)) := by
    rw [← hW0, Below.heap_alloc _ _ _ (by first | (simp; done) | (simp; omega)), Below.heap_alloc _ _ _ (by simp)]
    exact heap_alloc2_new _ _ _
  have h2 : W0.heap[w.heap.size + 1 + 1]? = some (.cells #[.int .i64 a] 2 (0, 0)) := by
    rw [← hW0, Below.heap_alloc _ _ _ (by simp)]
    have := heap_alloc_last ((w.alloc (.cells #[.int .i64 c] 2)).alloc (.cells #[.int .i64 n] 2)) (.cells #[.int .i64 a] 2)
    simpa only [World.size_alloc] using this
  have h3 : W0.heap[w.heap.size + 1 + 1 + 1]? = some (.cells #[.int .i64 b] 2 (0, 0)) := by
    rw [← hW0]
    have := heap_alloc_last (((w.alloc (.cells #[.int .i64 c] 2)).alloc (.cells #[.int .i64 n] 2)).alloc (.cells #[.int .i64 a] 2)) (.cells #[.int .i64 b] 2)
    simpa only [World.size_alloc] using this
  have hmf : ∀ (fn : Fn) (first cap : Array Value) (w : World), (Instr.makeFunc fn first cap).run Tryd.prog w = .ok (.func fn first cap) w := fun _ _ _ _ => rfl
  have B0 := Lib.hid b0
  have HW := Lib.hid hW0
  cases hok : szOk c n a b with
  | true =>
    have C := Lib.hid (attemptI_yes 74 #[.pointer (some ⟨w.heap.size, 0, none⟩), .pointer (some ⟨w.heap.size + 1, 0, none⟩), .pointer (some ⟨w.heap.size + 1 + 1, 0, none⟩), .pointer (some ⟨w.heap.size + 1 + 1 + 1, 0, none⟩)] W0 (fun u W w' => u = .int .i64 (szV c n a b)) call_Sz1 (fun W hb => (szWork_int w.heap.size (w.heap.size + 1) (w.heap.size + 1 + 1) (w.heap.size + 1 + 1 + 1) c n a b W (cell_kept hb (cell_of_one h0)) (cell_kept hb (cell_of_one h1)) (cell_kept hb (cell_of_one h2)) (cell_kept hb (cell_of_one h3)) ((hQ.below b0).below hb) hok).mono (fun e w' ⟨he, hb⟩ => ⟨_, he, rfl, hb⟩)))
    obtain ⟨m, hm⟩ : ∃ m, szV c n a b = m := ⟨_, rfl⟩
    rw [hm] at C ⊢
    clear hn hQ hok b0 h0 h1 h2 h3 hW0 hm
    go_enter Tryd.func24, Tryd.ntmps24
    go_upto_region 1 with fail
    rw [HW.out]
    go_wp2_with fail
    refine C.out.mono ?_
    rintro e w1 ⟨r, w2, rfl, hQ, hb, rfl, r1, r2⟩
    obtain rfl : r = m := by injection hQ
    have hs := B0.out.size
    have HB := Lib.hid (((B0.out.trans (hb.mono hs)).setCell (p := ⟨W0.heap.size, 0, none⟩) hs (.int .i64 r)).setCell (p := ⟨W0.heap.size + 1, 0, none⟩) (by show w.heap.size ≤ W0.heap.size + 1; omega) (.bool true))
    clear hQ hb r1 r2
    go_wp2_with fail
    go_ret2
    exact ⟨rfl, HB.out⟩
  | false =>
    have hV : szV c n a b = 0 := by unfold szV; rw [if_neg (by rw [hok]; decide)]
    rw [hV]
    have C := Lib.hid (attemptI_no 74 #[.pointer (some ⟨w.heap.size, 0, none⟩), .pointer (some ⟨w.heap.size + 1, 0, none⟩), .pointer (some ⟨w.heap.size + 1 + 1, 0, none⟩), .pointer (some ⟨w.heap.size + 1 + 1 + 1, 0, none⟩)] W0 call_Sz1 (fun W hb => szWork_no w.heap.size (w.heap.size + 1) (w.heap.size + 1 + 1) (w.heap.size + 1 + 1 + 1) c n a b W (cell_kept hb (cell_of_one h0)) (cell_kept hb (cell_of_one h1)) (cell_kept hb (cell_of_one h2)) (cell_kept hb (cell_of_one h3)) ((hn.below b0).below hb) hok))
    clear hn hQ hok b0 h0 h1 h2 h3 hW0 hV
    go_enter Tryd.func24, Tryd.ntmps24
    go_upto_region 1 with fail
    rw [HW.out]
    go_wp2_with fail
    refine C.out.mono ?_
    rintro e w1 ⟨rfl, hb⟩
    have HB := Lib.hid (B0.out.trans (hb.mono B0.out.size))
    clear hb
    go_wp2_with fail
    go_ret2
    exact ⟨rfl, HB.out⟩

set_option maxHeartbeats 4000000 in
set_option maxRecDepth 100000 in
theorem law_IntervalsOfSize (c n a b : Int) (w : World) (hn : NoRes w) (hQ : QvP w) :
    Calls Tryd.prog 7 #[.int .i64 c, .int .i64 n, .int .i64 a, .int .i64 b] w fun e w' => e = .returned (.bool true) ∧ Below w.heap.size w w' := by
  have CS := Lib.hid (fun W => spec_IntervalsOfSize c n a b W)
  have CI : Hid (∀ W, Below w.heap.size w W → Calls Tryd.prog 24 #[.int .i64 c, .int .i64 n, .int .i64 a, .int .i64 b] W (SaysIOk (szV c n a b) (szOk c n a b) W)) := fun W hb => impl_IntervalsOfSize c n a b W (hn.below hb) (hQ.below hb)
  obtain ⟨v, hv⟩ : ∃ v, szV c n a b = v := ⟨_, rfl⟩
  obtain ⟨ok, hok⟩ : ∃ v, szOk c n a b = v := ⟨_, rfl⟩
  rw [hv, hok] at CS CI
  unfold SaysIOk at CS CI
  clear hn hQ hv hok
  go_enter Tryd.func7, Tryd.ntmps7
  go_wp2_with fail
  refine (CS.out _).mono ?_
  rintro e w1 ⟨rfl, hb1⟩
  have B1 := Lib.hid hb1
  clear hb1
  go_wp2_with fail
  refine (CI.out _ B1.out).mono ?_
  rintro e w2 ⟨rfl, hb2⟩
  have B2 := Lib.hid (B1.out.trans (hb2.mono B1.out.size))
  clear hb2 CI CS
  cases ok
  all_goals go_wp2
  all_goals go_ret
  all_goals exact ⟨rfl, B2.out⟩
end Go.Proofs.YtdeagfmldpociaaDoor
