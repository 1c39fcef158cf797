/- Contracts of single functions, and plain lemmas, on which the exact laws of this seat rest; each holds under the conditions that it states. -/
import Derived.Test.YtabkkpifkkgpeaaDoorCVU
import Derived.Test.YtabkkpifkkgpeaaDoorSM
import Derived.Test.YtabkkpifkkgpeaaDoorCX2
import Derived.Test.YtabkkpifkkgpeaaDoorCVT
import Derived.Test.YtabkkpifkkgpeaaDoorCVN
import Derived.Test.YtabkkpifkkgpeaaDoorCV2
import Derived.Deep.RegionHeld3
import Derived.Deep.CutBlock
import Derived.Deep.DeepCutAuto
namespace Go.Proofs.YtabkkpifkkgpeaaDoor
set_option linter.unusedVariables false
set_option linter.unusedSimpArgs false
open Go.RowKit
attribute [local go_sem] Oper.semAt_some

theorem szOk_split {c n a b : Int} (ht : (inB c 0 3 && inB n 0 4) = true) (h : szOk c n a b = false) : ¬ (1 ≤ a ∧ 1 ≤ b) ∨ ((1 ≤ a ∧ 1 ≤ b) ∧ ¬ (a ≤ sd n ∧ b ≤ sd n)) := by
  unfold szOk at h
  rw [ht, Bool.true_and] at h
  by_cases h1 : 1 ≤ a ∧ 1 ≤ b
  · refine Or.inr ⟨h1, fun h2 => ?_⟩
    have : (inB a 1 (sd n) && inB b 1 (sd n)) = true := by
      unfold inB
      rw [decide_eq_true h1.1, decide_eq_true h1.2, decide_eq_true h2.1, decide_eq_true h2.2]
      rfl
    rw [this] at h
    cases h
  · exact Or.inl h1

set_option maxHeartbeats 4000000 in
set_option maxRecDepth 100000 in
theorem szWork_no (pc pn pa pb : Nat) (c n a b : Int) (w : World) (hp1 : w.cell? ⟨pc, 0, none⟩ = some (.int .i64 c)) (hp2 : w.cell? ⟨pn, 0, none⟩ = some (.int .i64 n)) (hp3 : w.cell? ⟨pa, 0, none⟩ = some (.int .i64 a)) (hp4 : w.cell? ⟨pb, 0, none⟩ = some (.int .i64 b)) (hr : NoRes w) (hok : szOk c n a b = false) :
    Calls Tryd.prog 70 #[.pointer (some ⟨pc, 0, none⟩), .pointer (some ⟨pn, 0, none⟩), .pointer (some ⟨pa, 0, none⟩), .pointer (some ⟨pb, 0, none⟩)] w (fun e w' => (∃ T x, e = .panicked [{ v := .iface T x, recovered := false }]) ∧ Below w.heap.size w w') := by
  cases ht : (inB c 0 3 && inB n 0 4) with
  | false =>
    have CT := Lib.hid (requiredTour_no c n w ht hr)
    clear hr hok ht hp3 hp4
    go_enter Tryd.func70, Tryd.ntmps70
    go_upto_region 1 with fail
    go_wp2_with fail
    refine CT.out.mono ?_
    rintro e w1 ⟨⟨T, x, rfl⟩, hb⟩
    have B1 := Lib.hid hb
    clear hb
    go_wp2
    exact ⟨rfl, ⟨T, x, rfl⟩, B1.out⟩
  | true =>
    have ht2 : inB c 0 3 = true ∧ inB n 0 4 = true := by simpa using ht
    have hn2 := inB_le ht2.2
    have CT : Hid (∀ W, Calls Tryd.prog 49 #[.int .i64 c, .int .i64 n] W (fun e w' => e = .returned (.agg #[.int .i64 c, .int .i64 n]) ∧ Below W.heap.size W w')) := fun W => requiredTour_yes c n W ht2.1 ht2.2
    have CQ := Lib.hid (fun W => square_any c n W hn2.1 hn2.2)
    have hsp := szOk_split ht hok
    obtain ⟨d, hd⟩ : ∃ d, sd n = d := ⟨_, rfl⟩
    rw [hd] at CQ hsp
    obtain ⟨M0, hM0⟩ : ∃ M, mcells d d (fun _ => 0) = M := ⟨_, rfl⟩
    have hf0 : ∀ (W : World), Sem.run Tryd.prog (Instr.field 96 (.agg M0) 0) W = .ok (.int .i64 d) W := fun W => by
      rw [← hM0]
      rfl
    rw [hM0] at CQ
    have HCN : Hid (∀ W, Below w.heap.size w W → Calls Tryd.prog 53 #[.bool false] W fun e w' => (∃ T x, e = .panicked [{ v := .iface T x, recovered := false }]) ∧ w' = W) := fun W hb => (require_no W (hr.below hb)).mono fun e w' ⟨T, x, h1, h2⟩ => ⟨⟨T, x, h1⟩, h2⟩
    have HP : Hid (∀ W, Below w.heap.size w W → W.cell? ⟨pa, 0, none⟩ = some (.int .i64 a) ∧ W.cell? ⟨pb, 0, none⟩ = some (.int .i64 b)) := fun W hb => ⟨cell_kept hb hp3, cell_kept hb hp4⟩
    have HSp := Lib.hid hsp
    clear hr hok ht ht2 hn2 hd hM0 hsp hp3 hp4
    go_enter Tryd.func70, Tryd.ntmps70
    go_upto_region 1 with fail
    go_wp2_with fail
    refine (CT.out _).mono ?_
    rintro e w1 ⟨rfl, hb1⟩
    have hbA := hb1.alloc hb1.size (.cells #[.int .i64 c, .int .i64 n] 71)
    have hpA := heap_alloc_last w1 (.cells #[.int .i64 c, .int .i64 n] 71)
    have hA0 : (w1.alloc (.cells #[.int .i64 c, .int .i64 n] 71)).cell? ⟨w1.heap.size, 0, none⟩ = some (.int .i64 c) := by rw [Joins.cell_of_block hpA 0]; rfl
    have hA1 : (w1.alloc (.cells #[.int .i64 c, .int .i64 n] 71)).cell? ⟨w1.heap.size, 1, none⟩ = some (.int .i64 n) := by rw [Joins.cell_of_block hpA 1]; rfl
    have HBA := Lib.hid hbA
    clear hp1 hp2 hb1 hbA hpA
    go_wp2_with fail
    refine (CQ.out _).mono ?_
    rintro e w2 ⟨rfl, hb2⟩
    have V2 := Lib.hid (HBA.out.trans (hb2.mono HBA.out.size))
    obtain ⟨p3, p4⟩ := HP.out _ V2.out
    clear hA0 hA1 hb2
    rcases HSp.out with h1 | ⟨h1, h2⟩
    · have kmin : ¬ (1 : Int) ≤ min a b := by omega
      have kmin2 : decide ((1 : Int) ≤ min a b) = false := decide_eq_false kmin
      have CN := Lib.hid (HCN.out _ V2.out)
      go_wp2_with fail
      refine CN.out.mono ?_
      rintro e w' ⟨⟨T, x, rfl⟩, rfl⟩
      go_wp2
      exact ⟨rfl, ⟨T, x, rfl⟩, V2.out⟩
    · have kmin : (1 : Int) ≤ min a b := by omega
      have kmax : ¬ max a b ≤ d := by omega
      have CN := Lib.hid (HCN.out _ V2.out)
      go_wp2_with fail
      rw [decide_eq_false (show ¬ max a b ≤ d by omega)]
      refine CN.out.mono ?_
      rintro e w' ⟨⟨T, x, rfl⟩, rfl⟩
      go_wp2
      exact ⟨rfl, ⟨T, x, rfl⟩, V2.out⟩

theorem call_Sz1 : ∀ args (W : World), (callFunc 70 args).run Tryd.prog W = .ok (.enter 70 args) W := by
  intro args W
  first | (go_simp; done) | (simp [callFunc, go_sem]; done) | kernel_rfl

theorem szWork_int (pc pn pa pb : Nat) (c n a b : Int) (w : World) (hp1 : w.cell? ⟨pc, 0, none⟩ = some (.int .i64 c)) (hp2 : w.cell? ⟨pn, 0, none⟩ = some (.int .i64 n)) (hp3 : w.cell? ⟨pa, 0, none⟩ = some (.int .i64 a)) (hp4 : w.cell? ⟨pb, 0, none⟩ = some (.int .i64 b)) (hQ : QvP w) (hok : szOk c n a b = true) :
    Calls Tryd.prog 70 #[.pointer (some ⟨pc, 0, none⟩), .pointer (some ⟨pn, 0, none⟩), .pointer (some ⟨pa, 0, none⟩), .pointer (some ⟨pb, 0, none⟩)] w (fun e w' => e = .returned (.int .i64 (szV c n a b)) ∧ Below w.heap.size w w') := by
  have hV : szV c n a b = (szT c.toNat n.toNat a b : Int) := by unfold szV; rw [if_pos hok]
  rw [hV]
  unfold szOk at hok
  obtain ⟨ht, hab⟩ := Bool.and_eq_true_iff.1 hok
  obtain ⟨ha, hb⟩ := Bool.and_eq_true_iff.1 hab
  have ha2 := inB_le ha
  have hb2 := inB_le hb
  obtain ⟨c', n', rfl, rfl, hc, hn⟩ := tour_nat ht
  rw [sd_pow hn] at ha2 hb2
  simp only [Int.toNat_natCast]
  obtain ⟨a', rfl⟩ : ∃ k : Nat, a = (k : Int) + 1 := ⟨(a - 1).toNat, by omega⟩
  obtain ⟨b', rfl⟩ : ∃ k : Nat, b = (k : Int) + 1 := ⟨(b - 1).toNat, by omega⟩
  exact szWork pc pn pa pb c' n' a' b' w hp1 hp2 hp3 hp4 hQ hc hn (by omega) (by omega)

set_option maxHeartbeats 4000000 in
set_option maxRecDepth 100000 in
theorem impl_IntervalsOfSize (c n a b : Int) (w : World) (hn : NoRes w) (hQ : QvP w) :
    Calls Tryd.prog 18 #[.int .i64 c, .int .i64 n, .int .i64 a, .int .i64 b] w (SaysIOk (szV c n a b) (szOk c n a b) w) := by
  obtain ⟨W0, hW0⟩ : ∃ W0, ((((w.alloc (.cells #[.int .i64 c] 2)).alloc (.cells #[.int .i64 n] 2)).alloc (.cells #[.int .i64 a] 2)).alloc (.cells #[.int .i64 b] 2)) = W0 := ⟨_, rfl⟩
  have b0 : Below w.heap.size w W0 := by rw [← hW0]; exact ((Joins.below_alloc3 w _ _ _).alloc (by first | (simp; done) | (simp; omega)) _)
  have h0 : W0.heap[w.heap.size]? = some (.cells #[.int .i64 c] 2 (0, 0)) := by
    rw [← hW0]
    rw [Below.heap_alloc _ _ _ (by first | (simp; done) | (simp; omega)), Below.heap_alloc _ _ _ (by first | (simp; done) | (simp; omega)), Below.heap_alloc _ _ _ (by simp)]; exact heap_alloc_last w _
  have h1 : W0.heap[w.heap.size + 1]? = some (.cells #[.int .i64 n] 2 (0, 0)) := by
    rw [← hW0, Below.heap_alloc _ _ _ (by first | (simp; done) | (simp; omega)), Below.heap_alloc _ _ _ (by simp)]
    exact heap_alloc2_new _ _ _
  have h2 : W0.heap[w.heap.size + 1 + 1]? = some (.cells #[.int .i64 a] 2 (0, 0)) := by
    rw [← hW0, Below.heap_alloc _ _ _ (by simp)]
    have := heap_alloc_last ((w.alloc (.cells #[.int .i64 c] 2)).alloc (.cells #[.int .i64 n] 2)) (.cells #[.int .i64 a] 2)
    simpa only [World.size_alloc] using this
  have h3 : W0.heap[w.heap.size + 1 + 1 + 1]? = some (.cells #[.int .i64 b] 2 (0, 0)) := by
    rw [← hW0]
    have := heap_alloc_last (((w.alloc (.cells #[.int .i64 c] 2)).alloc (.cells #[.int .i64 n] 2)).alloc (.cells #[.int .i64 a] 2)) (.cells #[.int .i64 b] 2)
    simpa only [World.size_alloc] using this
  have hmf : ∀ (fn : Fn) (first cap : Array Value) (w : World), (Instr.makeFunc fn first cap).run Tryd.prog w = .ok (.func fn first cap) w := fun _ _ _ _ => rfl
  have B0 := Lib.hid b0
  have HW := Lib.hid hW0
  cases hok : szOk c n a b with
  | true =>
    have C := Lib.hid (attemptI_yes 70 #[.pointer (some ⟨w.heap.size, 0, none⟩), .pointer (some ⟨w.heap.size + 1, 0, none⟩), .pointer (some ⟨w.heap.size + 1 + 1, 0, none⟩), .pointer (some ⟨w.heap.size + 1 + 1 + 1, 0, none⟩)] W0 (fun u W w' => u = .int .i64 (szV c n a b)) call_Sz1 (fun W hb => (szWork_int w.heap.size (w.heap.size + 1) (w.heap.size + 1 + 1) (w.heap.size + 1 + 1 + 1) c n a b W (cell_kept hb (cell_of_one h0)) (cell_kept hb (cell_of_one h1)) (cell_kept hb (cell_of_one h2)) (cell_kept hb (cell_of_one h3)) ((hQ.below b0).below hb) hok).mono (fun e w' ⟨he, hb⟩ => ⟨_, he, rfl, hb⟩)))
    obtain ⟨m, hm⟩ : ∃ m, szV c n a b = m := ⟨_, rfl⟩
    rw [hm] at C ⊢
    clear hn hQ hok b0 h0 h1 h2 h3 hW0 hm
    go_enter Tryd.func18, Tryd.ntmps18
    go_upto_region 1 with fail
    rw [HW.out]
    go_wp2_with fail
    refine C.out.mono ?_
    rintro e w1 ⟨r, w2, rfl, hQ, hb, rfl, r1, r2⟩
    obtain rfl : r = m := by injection hQ
    have hs := B0.out.size
    have HB := Lib.hid (((B0.out.trans (hb.mono hs)).setCell (p := ⟨W0.heap.size, 0, none⟩) hs (.int .i64 r)).setCell (p := ⟨W0.heap.size + 1, 0, none⟩) (by show w.heap.size ≤ W0.heap.size + 1; omega) (.bool true))
    clear hQ hb r1 r2
    go_wp2_with fail
    go_ret2
    exact ⟨rfl, HB.out⟩
  | false =>
    have hV : szV c n a b = 0 := by unfold szV; rw [if_neg (by rw [hok]; decide)]
    rw [hV]
    have C := Lib.hid (attemptI_no 70 #[.pointer (some ⟨w.heap.size, 0, none⟩), .pointer (some ⟨w.heap.size + 1, 0, none⟩), .pointer (some ⟨w.heap.size + 1 + 1, 0, none⟩), .pointer (some ⟨w.heap.size + 1 + 1 + 1, 0, none⟩)] W0 call_Sz1 (fun W hb => szWork_no w.heap.size (w.heap.size + 1) (w.heap.size + 1 + 1) (w.heap.size + 1 + 1 + 1) c n a b W (cell_kept hb (cell_of_one h0)) (cell_kept hb (cell_of_one h1)) (cell_kept hb (cell_of_one h2)) (cell_kept hb (cell_of_one h3)) ((hn.below b0).below hb) hok))
    clear hn hQ hok b0 h0 h1 h2 h3 hW0 hV
    go_enter Tryd.func18, Tryd.ntmps18
    go_upto_region 1 with fail
    rw [HW.out]
    go_wp2_with fail
    refine C.out.mono ?_
    rintro e w1 ⟨rfl, hb⟩
    have HB := Lib.hid (B0.out.trans (hb.mono B0.out.size))
    clear hb
    go_wp2_with fail
    go_ret2
    exact ⟨rfl, HB.out⟩

end Go.Proofs.YtabkkpifkkgpeaaDoor

/- Contracts of single functions, and plain lemmas, on which the exact laws of this seat rest; each holds under the conditions that it states. -/
namespace Go.Proofs.YtabkkpifkkgpeaaDoor
set_option linter.unusedVariables false
set_option linter.unusedSimpArgs false
open Go.RowKit
attribute [local go_sem] Oper.semAt_some

/-- what NextInBox tells -/
theorem nxO_at {f : Nat → Bool} {N s i : Nat} (h : nxO f N s = some i) : s ≤ i ∧ i < N ∧ f i = true := by
  unfold nxO at h
  rw [List.find?_range_eq_some] at h
  obtain ⟨h1, h2, _⟩ := h
  simp only [Bool.and_eq_true, decide_eq_true_eq] at h1
  exact ⟨h1.2, List.mem_range.1 h2, h1.1⟩
theorem nxO_le {f : Nat → Bool} {N s n : Nat} (hn : n < N) (hs : s ≤ n) (hf : f n = true) : ∃ i, nxO f N s = some i ∧ i ≤ n := by
  cases h : nxO f N s with
  | none =>
    unfold nxO at h
    rw [List.find?_range_eq_none] at h
    have := h n hn
    simp [hf, hs] at this
  | some i =>
    refine ⟨i, rfl, ?_⟩
    unfold nxO at h
    rw [List.find?_range_eq_some] at h
    rcases Nat.lt_or_ge n i with e | e
    · have := h.2.2 n e
      simp [hf, hs] at this
    · exact e
theorem szS_const (A K : Nat) (g : Nat → Nat → Nat) (hg : ∀ k, k < K → g (k % A) (k / A) = 1) : ∀ k, k ≤ K → szS A g k = k
  | 0, _ => rfl
  | k + 1, hk => by
    show szS A g k + g (k % A) (k / A) = k + 1
    rw [szS_const A K g hg k (by omega), hg k (by omega)]

set_option maxHeartbeats 8000000 in
set_option maxRecDepth 100000 in
theorem law_FnIntervals (v0 v1 : Value) (ns ms : List Nat) (w : World) (hv0 : SlY w v0 ns) (hv1 : SlY w v1 ms) (hby : ∀ i, ns.getD i 0 < 256) (hby1 : ∀ i, ms.getD i 0 < 256) (hN : NoRes w) (hQ : QvP w) :
    Calls Tryd.prog 4 #[v0, v1] w fun e w' => e = .returned (.bool true) ∧ Below w.heap.size w w' := by
  have CL := Lib.hid (r8Long_any v0 v1 ns ms w hv0 hv1)
  cases hl : (decide (48 < ns.length) || decide (48 < ms.length)) with
  | true =>
    rw [hl] at CL
    obtain ⟨ao, cap, rfl⟩ := hv0.form
    obtain ⟨ao1, cap1, rfl⟩ := hv1.form
    clear hv0 hv1 hN hQ hl
    go_enter Tryd.func4, Tryd.ntmps4
    go_wp2_with fail
    refine CL.out.mono ?_
    rintro e w' ⟨rfl, rfl⟩
    go_wp2_with fail
    go_ret
    exact ⟨rfl, Below.refl _ _⟩
  | false =>
    rw [hl] at CL
    have hl2 : ns.length ≤ 48 ∧ ms.length ≤ 48 := by simp at hl; omega
    have CA0 := Lib.hid (r8At_any v0 ns 0 4 w hv0 hby (by unfold maxLen; omega) (by omega) (by omega))
    have CA1 := Lib.hid (r8At_any v0 ns 1 5 w hv0 hby (by unfold maxLen; omega) (by omega) (by omega))
    have CM := Lib.hid (fun (k : Nat) (m : Int) W (hb : Below w.heap.size w W) (hm : 0 ≤ m ∧ m ≤ 1000) (hk : k ≤ 1000) => r8At_any v1 ms k m W (hv1.below hb) hby1 (by unfold maxLen; omega) hm hk)
    have hc := r8F_lt ns 0 4 (by omega)
    have ho := r8F_lt ns 1 5 (by omega)
    obtain ⟨c, hcc⟩ : ∃ c, r8F ns 0 4 = c := ⟨_, rfl⟩
    obtain ⟨o, hoo⟩ : ∃ c, r8F ns 1 5 = c := ⟨_, rfl⟩
    rw [hcc] at hc
    rw [hoo] at ho
    have CA0' : Hid (Calls Tryd.prog 10 #[v0, .int .i64 0, .int .i64 4] w (fun e w' => e = .returned (.int .i64 c) ∧ w = w')) := by rw [← hcc]; exact CA0
    have CA1' : Hid (Calls Tryd.prog 10 #[v0, .int .i64 1, .int .i64 5] w (fun e w' => e = .returned (.int .i64 o) ∧ w = w')) := by rw [← hoo]; exact CA1
    obtain ⟨ao, cap, rfl⟩ := hv0.form
    obtain ⟨ao1, cap1, rfl⟩ := hv1.form
    clear CA0 CA1 hcc hoo hl hl2 hv0 hv1 hby hby1
    have ht : (inB c 0 3 && inB o 0 4) = true := by unfold inB; rw [decide_eq_true (by omega), decide_eq_true (by omega), decide_eq_true (by omega), decide_eq_true (by omega)]; rfl
    have ks1 := sd_wrap (n := o) (by omega) (by omega)
    have ks2 := sd_wrap2 (n := o) (by omega) (by omega)
    have hsp : sd o = ((2 ^ o.toNat : Nat) : Int) := by unfold sd; exact (Int.natCast_pow 2 _).symm
    have h16 := pow_le16 (n := o.toNat) (by omega)
    have h1p : 1 ≤ 2 ^ o.toNat := Nat.one_le_two_pow
    have hlen := cvF_len c.toNat o.toNat
    have hspot := fun i hi => cv_spot c.toNat o.toNat (by omega) (by omega) i hi
    have hsz : ∀ (x y : Nat) (A B : Int), szB c.toNat o.toNat A B x y = ivL (bxF c.toNat o.toNat (x : Int) (y : Int) ((x : Int) + A - 1) ((y : Int) + B - 1)) (cvF c.toNat o.toNat).length := fun x y A B => rfl
    obtain ⟨p, hp⟩ : ∃ p, 2 ^ o.toNat = p := ⟨_, rfl⟩
    have hpI : (2 : Int) ^ o.toNat = (p : Int) := by rw [← hp]; exact (Int.natCast_pow 2 _).symm
    rw [hp] at hsp h16 h1p hlen hspot
    rw [hpI] at hspot
    obtain ⟨N, hNN⟩ : ∃ N, p * p = N := ⟨_, rfl⟩
    rw [hNN] at hlen hspot
    have hN1 : 1 ≤ N := by rw [← hNN]; exact Nat.mul_le_mul h1p h1p
    have hN256 : N ≤ 256 := by rw [← hNN]; exact Nat.mul_le_mul h16 h16
    have hNI : (p : Int) * (p : Int) = (N : Int) := by rw [← hNN]; exact (Int.natCast_mul p p).symm
    have km : IntKind.i64.wrap ((p : Int) * (p : Int)) = (N : Int) := by rw [hNI]; exact IntWalk.i64_in _ (by omega)
    rw [hsp] at ks1 ks2
    -- the box
    have f0 := r8F_lt ms 0 p (by omega)
    obtain ⟨fx, hfx⟩ : ∃ z, r8F ms 0 p = z := ⟨_, rfl⟩
    have f1 := r8F_lt ms 1 p (by omega)
    obtain ⟨fy, hfy⟩ : ∃ z, r8F ms 1 p = z := ⟨_, rfl⟩
    rw [hfx] at f0
    rw [hfy] at f1
    have f2 := r8F_lt ms 2 ((p : Int) - fx) (by omega)
    obtain ⟨dx, hdx⟩ : ∃ z, r8F ms 2 ((p : Int) - fx) = z := ⟨_, rfl⟩
    have f3 := r8F_lt ms 3 ((p : Int) - fy) (by omega)
    obtain ⟨dy, hdy⟩ : ∃ z, r8F ms 3 ((p : Int) - fy) = z := ⟨_, rfl⟩
    have f4 := r8F_lt ms 4 N (by omega)
    obtain ⟨at_, hat⟩ : ∃ z, r8F ms 4 N = z := ⟨_, rfl⟩
    rw [hdx] at f2
    rw [hdy] at f3
    rw [hat] at f4
    have M0 : Hid (∀ W, Below w.heap.size w W → Calls Tryd.prog 10 #[.slice ao1 ms.length cap1, .int .i64 0, .int .i64 (p : Int)] W (fun e w' => e = .returned (.int .i64 fx) ∧ W = w')) := fun W hb => by rw [← hfx]; exact CM.out 0 p W hb (by omega) (by omega)
    have M1 : Hid (∀ W, Below w.heap.size w W → Calls Tryd.prog 10 #[.slice ao1 ms.length cap1, .int .i64 1, .int .i64 (p : Int)] W (fun e w' => e = .returned (.int .i64 fy) ∧ W = w')) := fun W hb => by rw [← hfy]; exact CM.out 1 p W hb (by omega) (by omega)
    have M2 : Hid (∀ W, Below w.heap.size w W → Calls Tryd.prog 10 #[.slice ao1 ms.length cap1, .int .i64 2, .int .i64 ((p : Int) - fx)] W (fun e w' => e = .returned (.int .i64 dx) ∧ W = w')) := fun W hb => by rw [← hdx]; exact CM.out 2 _ W hb (by omega) (by omega)
    have M3 : Hid (∀ W, Below w.heap.size w W → Calls Tryd.prog 10 #[.slice ao1 ms.length cap1, .int .i64 3, .int .i64 ((p : Int) - fy)] W (fun e w' => e = .returned (.int .i64 dy) ∧ W = w')) := fun W hb => by rw [← hdy]; exact CM.out 3 _ W hb (by omega) (by omega)
    have M4 : Hid (∀ W, Below w.heap.size w W → Calls Tryd.prog 10 #[.slice ao1 ms.length cap1, .int .i64 4, .int .i64 (N : Int)] W (fun e w' => e = .returned (.int .i64 at_) ∧ W = w')) := fun W hb => by rw [← hat]; exact CM.out 4 _ W hb (by omega) (by omega)
    clear CM hfx hfy hdx hdy hat
    obtain ⟨tx, htx⟩ : ∃ z, fx + dx = z := ⟨_, rfl⟩
    obtain ⟨ty, hty⟩ : ∃ z, fy + dy = z := ⟨_, rfl⟩
    have kx : IntKind.i64.wrap (fx + dx) = tx := by rw [htx]; exact IntWalk.i64_in _ (by omega)
    have ky : IntKind.i64.wrap (fy + dy) = ty := by rw [hty]; exact IntWalk.i64_in _ (by omega)
    have tx1 : fx ≤ tx ∧ tx < p := by omega
    have ty1 : fy ≤ ty ∧ ty < p := by omega
    have HTx := Lib.hid htx
    have HTy := Lib.hid hty
    clear htx hty
    -- what the functions tell
    have hbo : boxOk o fx fy tx ty = true := by
      unfold boxOk boxB inB
      rw [hsp]
      simp only [Bool.and_eq_true, decide_eq_true_eq]
      omega
    have hiv : ivOk c o fx fy tx ty = true := by unfold ivOk; rw [ht, hbo]; rfl
    obtain ⟨F, hF⟩ : ∃ F, bxF c.toNat o.toNat fx fy tx ty = F := ⟨_, rfl⟩
    have HF : Hid (∀ i, F i = inBx fx fy tx ty ((cvF c.toNat o.toNat).getD i (0, 0))) := fun i => by rw [← hF]; rfl
    have HIV : Hid (∀ W, Below w.heap.size w W → Calls Tryd.prog 15 #[.int .i64 c, .int .i64 o, .agg #[.int .i64 fx, .int .i64 fy], .agg #[.int .i64 tx, .int .i64 ty]] W (SaysRR (ivL F N) true W)) := fun W hb => by
      have := impl_IntervalsOf c o fx fy tx ty W (hN.below hb) (hQ.below hb)
      unfold ivV at this
      rw [if_pos hiv, hiv, hlen, hF] at this
      exact this
    have HNx : Hid (∀ W, Below w.heap.size w W → Calls Tryd.prog 16 #[.int .i64 c, .int .i64 o, .agg #[.int .i64 fx, .int .i64 fy], .agg #[.int .i64 tx, .int .i64 ty], .int .i64 at_] W (SaysIOk (((nxO F N at_.toNat).getD 0 : Nat) : Int) (nxO F N at_.toNat).isSome W)) := fun W hb => by
      have := impl_NextInBox c o fx fy tx ty at_ W (hN.below hb) (hQ.below hb)
      have hnb : nbP c o fx fy tx ty at_ = true := by
        unfold nbP
        rw [ht, hbo, hsp, hNI]
        unfold inB
        rw [decide_eq_true (by omega), decide_eq_true (by omega)]
        rfl
      unfold nbO at this
      rw [if_pos hnb, hlen, hF] at this
      exact this
    have HBx : Hid (∀ W, Calls Tryd.prog 17 #[.int .i64 o, .agg #[.int .i64 fx, .int .i64 fy], .agg #[.int .i64 tx, .int .i64 ty]] W (SaysB true W)) := fun W => by
      have := impl_CurveBox o fx fy tx ty W
      rwa [hbo] at this
    have HSA : Hid (∀ (i : Nat) W, i < N → Below w.heap.size w W → Calls Tryd.prog 12 #[.int .i64 c, .int .i64 o, .int .i64 (i : Int)] W (SaysSOk ((cvF c.toNat o.toNat).getD i (0, 0)) true W)) := fun i W hi hb => by
      have := impl_SpotAt c o (i : Int) W (hN.below hb) (hQ.below hb)
      have hk : saOk c o (i : Int) = true := by unfold saOk; rw [ht, hsp, hNI]; unfold inB; rw [decide_eq_true (by omega), decide_eq_true (by omega)]; rfl
      unfold saV at this
      rw [if_pos hk, hk, Int.toNat_natCast] at this
      exact this
    have hsz1 : szV c o 1 1 = (N : Int) ∧ szOk c o 1 1 = true := by
      have hok : szOk c o 1 1 = true := by unfold szOk; rw [ht, hsp]; unfold inB; rw [decide_eq_true (by omega), decide_eq_true (by omega)]; rfl
      refine ⟨?_, hok⟩
      unfold szV
      rw [if_pos hok]
      unfold szT
      rw [hp, show ((1 : Int) - 1).toNat = 0 from rfl, Nat.sub_zero, hNN]
      refine congrArg (fun k : Nat => (k : Int)) (szS_const p N _ (fun k hk => ?_) N (Nat.le_refl _))
      have hx : k % p < p := Nat.mod_lt _ h1p
      have hy : k / p < p := Nat.div_lt_of_lt_mul (by rw [hNN]; exact hk)
      obtain ⟨i, hi, hj⟩ := cv_surj c.toNat o.toNat (by omega) (by omega) (k % p) (k / p) (by rw [hp]; exact hx) (by rw [hp]; exact hy)
      rw [hp, hNN] at hi hj
      show (szB c.toNat o.toNat 1 1 (k % p) (k / p)).length = 1
      rw [hsz, hlen, iv_single (i0 := i) (K := N) (fun j hjN => ?_) N (Nat.le_refl _), if_pos hi]
      · rfl
      · rw [Bool.eq_iff_iff, decide_eq_true_eq, ← hj j hjN]
        unfold bxF inBx inB
        simp only [Bool.and_eq_true, decide_eq_true_eq]
        rw [Prod.ext_iff]
        show _ ↔ ((cvF c.toNat o.toNat).getD j (0, 0)).1 = ((k % p : Nat) : Int) ∧ ((cvF c.toNat o.toNat).getD j (0, 0)).2 = ((k / p : Nat) : Int)
        omega
    have hszp : szV c o (p : Int) (p : Int) = 1 ∧ szOk c o (p : Int) (p : Int) = true := by
      have hok : szOk c o (p : Int) (p : Int) = true := by unfold szOk; rw [ht, hsp]; unfold inB; rw [decide_eq_true (by omega), decide_eq_true (by omega)]; rfl
      refine ⟨?_, hok⟩
      unfold szV
      rw [if_pos hok]
      unfold szT
      rw [hp, show (((p : Int) - 1).toNat) = p - 1 from by omega, show p - (p - 1) = 1 from by omega]
      show ((0 + (szB c.toNat o.toNat (p : Int) (p : Int) 0 0).length : Nat) : Int) = 1
      rw [hsz, hlen, iv_whole N (fun j hj => ?_), if_pos (by omega)]
      · rfl
      · obtain ⟨q1, q2, q3, q4, q5⟩ := hspot j hj
        unfold bxF inBx inB
        simp only [Bool.and_eq_true, decide_eq_true_eq]
        omega
    have HS1 : Hid (∀ W, Below w.heap.size w W → Calls Tryd.prog 18 #[.int .i64 c, .int .i64 o, .int .i64 1, .int .i64 1] W (SaysIOk (N : Int) true W)) := fun W hb => by
      have := impl_IntervalsOfSize c o 1 1 W (hN.below hb) (hQ.below hb)
      rwa [hsz1.1, hsz1.2] at this
    have HSp : Hid (∀ W, Below w.heap.size w W → Calls Tryd.prog 18 #[.int .i64 c, .int .i64 o, .int .i64 (p : Int), .int .i64 (p : Int)] W (SaysIOk 1 true W)) := fun W hb => by
      have := impl_IntervalsOfSize c o p p W (hN.below hb) (hQ.below hb)
      rwa [hszp.1, hszp.2] at this
    have HI := Lib.hid (iv_inv F N)
    have hpos : 0 < (ivL F N).length := by
      obtain ⟨i, hi, hj⟩ := cv_surj c.toNat o.toNat (by omega) (by omega) fx.toNat fy.toNat (by rw [hp]; omega) (by rw [hp]; omega)
      rw [hp, hNN] at hi hj
      have hx := (hj i hi).2 rfl
      have hFi : F i = true := by
        rw [HF.out, hx]
        unfold inBx inB
        simp only [Bool.and_eq_true, decide_eq_true_eq]
        omega
      obtain ⟨k, hk, _⟩ := (HI.out.iff i hi).1 hFi
      omega
    have hlen2 := Lib.hid (ivL_two F N)
    have HSq := Lib.hid hspot
    unfold SaysSOk at HSA
    unfold SaysIOk at HNx HS1 HSp
    unfold SaysB at HBx
    obtain ⟨L, hL⟩ : ∃ L, cvF c.toNat o.toNat = L := ⟨_, rfl⟩
    rw [hL] at HSA HF HSq
    have kdx : IntKind.i64.wrap ((p : Int) - fx) = (p : Int) - fx := IntWalk.i64_in _ (by omega)
    have kdy : IntKind.i64.wrap ((p : Int) - fy) = (p : Int) - fy := IntWalk.i64_in _ (by omega)
    obtain ⟨PL, hPL⟩ : ∃ P, ivL F N = P := ⟨_, rfl⟩
    rw [hPL] at HI hpos hlen2 HIV
    have hPL0 := Lib.hid hPL
    clear hbo hiv hsz1 hszp hsz hF hlen hspot hL hPL hNI hNN hp hpI hsp h16 ht HTx HTy hN hQ
    go_enter Tryd.func4, Tryd.ntmps4
    go_wp2_with fail
    refine CL.out.mono ?_
    rintro e w' ⟨rfl, rfl⟩
    go_wp2_with fail
    refine CA0'.out.mono ?_
    rintro e w' ⟨rfl, rfl⟩
    go_wp2_with fail
    refine CA1'.out.mono ?_
    rintro e w' ⟨rfl, rfl⟩
    go_wp2_with fail
    refine (M0.out _ (Below.refl _ _)).mono ?_
    rintro e w' ⟨rfl, rfl⟩
    go_wp2_with fail
    refine (M1.out _ (Below.refl _ _)).mono ?_
    rintro e w' ⟨rfl, rfl⟩
    have HB1 := Lib.hid (Joins.below_alloc1 w (.cells #[.int .i64 fx, .int .i64 fy] 29))
    have HV1 : Hid (Var2 (w.alloc (.cells #[.int .i64 fx, .int .i64 fy] 29)) w.heap.size (fx, fy)) := heap_alloc_last w _
    obtain ⟨W1, hW1⟩ : ∃ W, w.alloc (.cells #[.int .i64 fx, .int .i64 fy] 29) = W := ⟨_, rfl⟩
    rw [hW1] at HB1 HV1
    have HW1 := Lib.hid hW1
    clear hW1 CL CA0' CA1' M0 M1
    go_upto_region 7 with fail
    rw [HW1.out]
    obtain ⟨b8, hb8⟩ : ∃ b, w.heap.size = b := ⟨_, rfl⟩
    rw [hb8] at HV1 ⊢
    have HB8 := Lib.hid hb8
    clear hb8
    go_cut [9] (fun s9 wx => ∃ b9, s9 = .pointer (some ⟨b9, 0, none⟩) ∧ Var2 wx b9 (tx, ty) ∧ Below W1.heap.size W1 wx)
    case first =>
      have HK : Hid (∀ W, Below W1.heap.size W1 W → W.cell? ⟨b8, 0, none⟩ = some (.int .i64 fx) ∧ W.cell? ⟨b8, 1, none⟩ = some (.int .i64 fy)) := fun W hb => ⟨(HV1.out.below hb).c0, (HV1.out.below hb).c1⟩
      have HB1' := Lib.hid (fun W (hb : Below W1.heap.size W1 W) => HB1.out.trans (hb.mono HB1.out.size))
      go_region_held3 (fun w' => w'.cell? ⟨b8, 0, none⟩ = some (.int .i64 fx) ∧ w'.cell? ⟨b8, 1, none⟩ = some (.int .i64 fy))
        (first | exact HK.out _ (Below.refl W1.heap.size W1) | exact HK.out _ (Below.refl W1.heap.size W1).drew | exact HK.out _ ((Below.refl W1.heap.size W1).drew.alloc (Nat.le_refl _) _) | exact HK.out _ ((Below.refl W1.heap.size W1).alloc (Nat.le_refl _) _).drew)
        (first | (go_at_call 10; with_reducible refine (M2.out _ (by first | exact HB1'.out _ (Below.refl W1.heap.size W1).drew | exact HB1'.out _ ((Below.refl W1.heap.size W1).drew.alloc (Nat.le_refl _) _) | exact HB1'.out _ ((Below.refl W1.heap.size W1).alloc (Nat.le_refl _) _).drew)).mono ?_; rintro e w9 ⟨rfl, rfl⟩) | (go_at_call 10; with_reducible refine (M3.out _ (by first | exact HB1'.out _ (Below.refl W1.heap.size W1).drew | exact HB1'.out _ ((Below.refl W1.heap.size W1).drew.alloc (Nat.le_refl _) _) | exact HB1'.out _ ((Below.refl W1.heap.size W1).alloc (Nat.le_refl _) _).drew)).mono ?_; rintro e w9 ⟨rfl, rfl⟩))
      all_goals (go_wp2_with fail; go_meet)
      all_goals first
        | exact ⟨_, rfl, heap_alloc_last _ _, (Below.refl W1.heap.size W1).drew.alloc (Nat.le_refl _) _⟩
        | exact ⟨_, rfl, Var2.upd (q := (0, 0)) (heap_alloc_last W1 _) tx ty, ((((Below.refl W1.heap.size W1).alloc (Nat.le_refl _) _).drew).setCell (p := ⟨_, 0, none⟩) (Nat.le_refl _) _).setCell (p := ⟨_, 1, none⟩) (Nat.le_refl _) _⟩
        | exact ⟨_, rfl, Var2.upd (q := (0, 0)) (heap_alloc_last W1.drew _) tx ty, ((((Below.refl W1.heap.size W1).drew.alloc (Nat.le_refl _) _)).setCell (p := ⟨_, 0, none⟩) (Nat.le_refl _) _).setCell (p := ⟨_, 1, none⟩) (Nat.le_refl _) _⟩
        | trace_state
    case rest =>
      obtain ⟨b9, rfl, hv9, hb9⟩ := hcut
      have HB9 := Lib.hid (HB1.out.trans (hb9.mono HB1.out.size))
      have HV9 := Lib.hid hv9
      have HV8 := Lib.hid (HV1.out.below hb9)
      clear hv9 hb9 HV1 HB1 HW1 HB8 M2 M3
      have a0 := HV8.out.c0
      have a1 := HV8.out.c1
      have b0 := HV9.out.c0
      have b1 := HV9.out.c1
      go_wp2_with fail
      refine (HIV.out _ HB9.out).mono ?_
      rintro e wa ⟨vl, us, rfl, hown, hb⟩
      have HBa := Lib.hid (HB9.out.trans (hb.mono HB9.out.size))
      have HVa := Lib.hid (HV9.out.below hb)
      have HUa := Lib.hid (HV8.out.below hb)
      have hsl : SlR wa vl PL.length (fun i => PL.getD i []) := OwnR.sl hown
      rcases hsl with ⟨_, _, _, h0⟩ | ⟨lb, lo, lc, vs, rfl, _, _, hrows⟩
      · exact absurd h0 (by omega)
      have HL : Hid (∀ W i, Below wa.heap.size wa W → i < PL.length → W.cell? ⟨lb, lo + i, none⟩ = some (vs i)) := fun W i hbl hi => cell_kept hbl (hrows i hi).1
      have HRo : Hid (∀ i, i < PL.length → ∃ rb ro rc, vs i = .slice (some ⟨rb, ro, none⟩) 2 rc ∧ ∀ W, Below wa.heap.size wa W → W.cell? ⟨rb, ro, none⟩ = some (.int .i64 (ivLo PL i)) ∧ W.cell? ⟨rb, ro + 1, none⟩ = some (.int .i64 (ivHi PL i))) := fun i hi => by
        have h2 : (PL.getD i []).length = 2 := hlen2.out i hi
        have hr : SlN wa (vs i) (PL.getD i []) := (hrows i hi).2
        rcases hr with ⟨_, _, _, h0⟩ | ⟨rb, ro, rc, h1, _, h3⟩
        · rw [h0] at h2; cases h2
        · rw [h2] at h1
          exact ⟨rb, ro, rc, h1, fun W hbl => ⟨by have := cell_kept hbl (h3.2 0 (by omega)); rwa [Nat.add_zero] at this, cell_kept hbl (h3.2 1 (by omega))⟩⟩
      clear hown hb hrows a0 a1 b0 b1 HV9 HV8 HB9 hlen2 HIV
      go_wp2_with fail
      refine (M4.out _ HBa.out).mono ?_
      rintro e w' ⟨rfl, rfl⟩
      have a0 := HUa.out.c0
      have a1 := HUa.out.c1
      have b0 := HVa.out.c0
      have b1 := HVa.out.c1
      obtain ⟨T, hT⟩ : ∃ T, (nxO F N at_.toNat).isSome = T := ⟨_, rfl⟩
      obtain ⟨X, hX⟩ : ∃ X, (nxO F N at_.toNat).getD 0 = X := ⟨_, rfl⟩
      have HT1 : Hid (∀ n, n < N → at_ ≤ (n : Int) → F n = true → T = true ∧ X ≤ n) := fun n hn hs hf => by
        obtain ⟨i, h1, h2⟩ := nxO_le hn (show at_.toNat ≤ n by omega) hf
        rw [h1] at hT hX
        rw [← hT, ← hX]
        exact ⟨rfl, h2⟩
      have HT2 : Hid (T = true → F X = true ∧ at_ ≤ (X : Int)) := fun h => by
        rw [← hT] at h
        obtain ⟨i, hi⟩ := Option.isSome_iff_exists.1 h
        have := nxO_at hi
        rw [hi] at hX
        have hXi : i = X := hX
        subst hXi
        exact ⟨this.2.2, by omega⟩
      rw [hT, hX] at HNx
      clear hT hX M4
      go_wp2_with fail
      refine (HNx.out _ HBa.out).mono ?_
      rintro e wb ⟨rfl, hb⟩
      have HBb := Lib.hid (HBa.out.trans (hb.mono HBa.out.size))
      have HBab := Lib.hid hb
      have HUb := Lib.hid (HUa.out.below hb)
      have HVb := Lib.hid (HVa.out.below hb)
      clear hb HUa HVa a0 a1 b0 b1 HNx
      have a0 := HUb.out.c0
      have a1 := HUb.out.c1
      have b0 := HVb.out.c0
      have b1 := HVb.out.c1
      go_wp2_with fail
      refine (HBx.out _).mono ?_
      rintro e wz ⟨rfl, hb⟩
      have HBc := Lib.hid (HBb.out.trans (hb.mono HBb.out.size))
      have HBac := Lib.hid (HBab.out.trans (hb.mono HBab.out.size))
      have HUc := Lib.hid (HUb.out.below hb)
      have HVc := Lib.hid (HVb.out.below hb)
      clear hb HUb HVb HBb HBab a0 a1 b0 b1 HBx
      have HAW : Hid (∀ W, Below wz.heap.size wz W → Below wa.heap.size wa W) := fun W hbl => HBac.out.trans (hbl.mono HBac.out.size)
      have HWW : Hid (∀ W, Below wz.heap.size wz W → Below w.heap.size w W) := fun W hbl => HBc.out.trans (hbl.mono HBc.out.size)
      have HCs : Hid (∀ W, Below wz.heap.size wz W → (W.cell? ⟨b8, 0, none⟩ = some (.int .i64 fx) ∧ W.cell? ⟨b8, 1, none⟩ = some (.int .i64 fy)) ∧ (W.cell? ⟨b9, 0, none⟩ = some (.int .i64 tx) ∧ W.cell? ⟨b9, 1, none⟩ = some (.int .i64 ty))) := fun W hbl => ⟨⟨(HUc.out.below hbl).c0, (HUc.out.below hbl).c1⟩, (HVc.out.below hbl).c0, (HVc.out.below hbl).c1⟩
      obtain ⟨LN, hLN⟩ : ∃ n, PL.length = n := ⟨_, rfl⟩
      rw [hLN] at hpos HL HRo ⊢
      have HLN := Lib.hid hLN
      have hLN256 : LN ≤ 256 := by
        have := ivL_len F N
        rw [hPL0.out] at this
        omega
      clear hLN HBac HBa HBc HUc HVc
      go_wp2_with fail
      go_loopw [15, 16] (fun kv nv wr => ∃ κ n : Nat, κ ≤ LN ∧ n ≤ N ∧ kv = .int .i64 (κ : Int) ∧ nv = .int .i64 (n : Int) ∧ Hid (∀ i, i < κ → ivHi PL i < (n : Int)) ∧ Hid (Below wz.heap.size wz wr)) (fun _ nv _ => N - (intOf nv).toNat)
      case atStart => exact ⟨0, 0, Nat.zero_le _, Nat.zero_le _, rfl, rfl, Lib.hid (fun i hi => absurd hi (Nat.not_lt_zero i)), Lib.hid (Below.refl _ _)⟩
      case round =>
        obtain ⟨κ, n, hκ, hn, rfl, rfl, HK0, HW⟩ := hrel
        by_cases hlt : n < N
        · have kn : (n : Int) < (N : Int) := by omega
          go_upto_block 2 with fail
          go_cut [15] (fun s15 wx => ∃ κ : Nat, κ ≤ LN ∧ s15 = .int .i64 (κ : Int) ∧ Hid (∀ i, i < κ → ivHi PL i < (n : Int)) ∧ Hid (κ < PL.length → (n : Int) ≤ ivHi PL κ) ∧ Hid (Below wz.heap.size wz wx))
          case first =>
            as_aux_lemma =>
              go_wp2_with fail
              go_loopw [15] (fun kv wr => ∃ κ : Nat, κ ≤ LN ∧ kv = .int .i64 (κ : Int) ∧ Hid (∀ i, i < κ → ivHi PL i < (n : Int)) ∧ Hid (Below wz.heap.size wz wr)) (fun kv _ => LN - (intOf kv).toNat)
              case atStart => exact ⟨κ, hκ, rfl, HK0, HW⟩
              case round =>
                clear HK0 HW hκ
                obtain ⟨κ, hκ, rfl, HK0, HW⟩ := hrel
                by_cases h1 : κ < LN
                · obtain ⟨rb, ro, rc, hv, hcw⟩ := HRo.out κ h1
                  have l0 := HL.out _ κ (HAW.out _ HW.out) h1
                  rw [hv] at l0
                  obtain ⟨d0, d1⟩ := hcw _ (HAW.out _ HW.out)
                  have hkl : (κ : Int) < (LN : Int) := by omega
                  have hk0 : (0 : Int) ≤ (κ : Int) := by omega
                  by_cases h2 : ivHi PL κ < (n : Int)
                  · have HK1 : Hid (∀ i, i < κ + 1 → ivHi PL i < (n : Int)) := fun i hi => by
                      rcases Nat.lt_or_ge i κ with e | e
                      · exact HK0.out i e
                      · obtain rfl : i = κ := by omega
                        exact h2
                    obtain ⟨z, hz⟩ : ∃ z, ivHi PL κ = z := ⟨_, rfl⟩
                    rw [hz] at d1 h2
                    clear hz d0 HK0 hv hcw
                    go_wp2_with fail
                    go_roundw
                    case rel => exact ⟨κ + 1, by omega, by go_num, HK1, HW⟩
                    case measure => simp [intOf]; omega
                  · have HH : Hid (κ < PL.length → (n : Int) ≤ ivHi PL κ) := fun _ => by omega
                    obtain ⟨z, hz⟩ : ∃ z, ivHi PL κ = z := ⟨_, rfl⟩
                    rw [hz] at d1 h2
                    clear hz d0 hv hcw
                    go_wp2_with fail
                    go_meet
                    exact ⟨κ, hκ, rfl, HK0, HH, HW⟩
                · have HH : Hid (κ < PL.length → (n : Int) ≤ ivHi PL κ) := fun h => absurd (by rw [HLN.out] at h; exact h) h1
                  have hkl : ¬ (κ : Int) < (LN : Int) := by omega
                  go_wp2_with fail
                  go_meet
                  exact ⟨κ, hκ, rfl, HK0, HH, HW⟩
          case rest =>
            clear HK0 HW hκ
            obtain ⟨κ, hκ, rfl, HK0, HH, HW⟩ := hcut
            have HKn : Hid (∀ i, i < κ → ivHi PL i < ((n + 1 : Nat) : Int)) := fun i hi => by have := HK0.out i hi; omega
            have HFv : Hid (F n = (decide (κ < LN) && decide (ivLo PL κ ≤ (n : Int)))) := by
              show _ = _
              have := iv_at HI.out hlt HK0.out HH.out
              rwa [HLN.out] at this
            have HSn := Lib.hid (fun W hb => HSA.out n W hlt hb)
            have hFi := HF.out n
            obtain ⟨sx, hsx⟩ : ∃ z, (L.getD n (0, 0)).1 = z := ⟨_, rfl⟩
            obtain ⟨sy, hsy⟩ : ∃ z, (L.getD n (0, 0)).2 = z := ⟨_, rfl⟩
            rw [hsx, hsy] at HSn
            have hFi2 : F n = inBx fx fy tx ty (sx, sy) := by rw [hFi, ← hsx, ← hsy]
            have HFi := Lib.hid hFi2
            clear hFi hFi2 hsx hsy
            go_wp2_with fail
            refine (HSn.out _ (HWW.out _ HW.out)).mono ?_
            rintro e w2 ⟨rfl, hb⟩
            have HW3 := Lib.hid ((HW.out.trans (hb.mono HW.out.size)).alloc (HW.out.trans (hb.mono HW.out.size)).size (.cells #[.int .i64 sx, .int .i64 sy] 29))
            have HSv : Hid (Var2 (w2.alloc (.cells #[.int .i64 sx, .int .i64 sy] 29)) w2.heap.size (sx, sy)) := heap_alloc_last w2 _
            obtain ⟨W3, hW3⟩ : ∃ W, w2.alloc (.cells #[.int .i64 sx, .int .i64 sy] 29) = W := ⟨_, rfl⟩
            obtain ⟨b17, hb17⟩ : ∃ b, w2.heap.size = b := ⟨_, rfl⟩
            rw [hW3] at HW3 HSv
            rw [hb17] at HSv
            have EW3 := Lib.hid hW3
            have EB17 := Lib.hid hb17
            clear hb hW3 hb17 HSn HW
            go_upto_region 20 with fail
            rw [EW3.out, EB17.out]
            obtain ⟨⟨a0, a1⟩, b0, b1⟩ := HCs.out _ HW3.out
            have q0 : W3.cell? ⟨b17, 0, none⟩ = some (.int .i64 sx) := HSv.out.c0
            have q1 : W3.cell? ⟨b17, 1, none⟩ = some (.int .i64 sy) := HSv.out.c1
            obtain ⟨B, hB⟩ : ∃ B, F n = B := ⟨_, rfl⟩
            have HFn := Lib.hid hB
            go_cut [19] (fun s19 wx => s19 = .bool B ∧ wx = W3)
            case first =>
              as_aux_lemma =>
                have hBv : B = inBx fx fy tx ty (sx, sy) := by rw [← hB]; exact HFi.out
                clear hB
                by_cases p1 : fx ≤ sx
                · by_cases p2 : sx ≤ tx
                  · by_cases p3 : fy ≤ sy
                    · by_cases p4 : sy ≤ ty
                      · have hb1 : B = true := by rw [hBv]; unfold inBx inB; simp [p1, p2, p3, p4]
                        clear hBv
                        subst hb1
                        go_wp2_with fail
                        go_meet
                        exact ⟨rfl, rfl⟩
                      · have hb1 : B = false := by rw [hBv]; unfold inBx inB; simp [p1, p2, p3]; omega
                        clear hBv
                        subst hb1
                        go_wp2_with fail
                        go_meet
                        exact ⟨rfl, rfl⟩
                    · have hb1 : B = false := by rw [hBv]; unfold inBx inB; simp [p1, p2]; omega
                      clear hBv
                      subst hb1
                      go_wp2_with fail
                      go_meet
                      exact ⟨rfl, rfl⟩
                  · have hb1 : B = false := by rw [hBv]; unfold inBx inB; simp [p1]; omega
                    clear hBv
                    subst hb1
                    go_wp2_with fail
                    go_meet
                    exact ⟨rfl, rfl⟩
                · have hb1 : B = false := by rw [hBv]; unfold inBx inB; simp; omega
                  clear hBv
                  subst hb1
                  go_wp2_with fail
                  go_meet
                  exact ⟨rfl, rfl⟩
            case rest =>
              obtain ⟨rfl, rfl⟩ := hcut
              clear a0 a1 b0 b1 q0 q1 HFi EW3 EB17
              go_upto_region 21 with fail
              go_cut [196] (fun s196 wx => s196 = .bool false ∧ Hid (Below wz.heap.size wz wx))
              case first =>
                as_aux_lemma =>
                  by_cases h1 : κ < LN
                  · obtain ⟨rb, ro, rc, hv, hcw⟩ := HRo.out κ h1
                    have l0 := HL.out _ κ (HAW.out _ HW3.out) h1
                    rw [hv] at l0
                    obtain ⟨d0, d1⟩ := hcw _ (HAW.out _ HW3.out)
                    have hkl : (κ : Int) < (LN : Int) := by omega
                    have hk0 : (0 : Int) ≤ (κ : Int) := by omega
                    obtain ⟨zl, hzl⟩ : ∃ z, ivLo PL κ = z := ⟨_, rfl⟩
                    have hfv := HFv.out
                    rw [hzl] at d0 hfv
                    rw [hB, decide_eq_true h1, Bool.true_and] at hfv
                    clear hzl d1 hB HFv hv hcw
                    by_cases hzn : zl ≤ (n : Int)
                    · rw [decide_eq_true hzn] at hfv
                      subst hfv
                      by_cases hat : at_ ≤ (n : Int)
                      · obtain ⟨hTt, hXn⟩ := HT1.out n hlt hat HFn.out
                        subst hTt
                        have kx1 : ¬ (n : Int) < (X : Int) := by omega
                        by_cases hxe : X = n
                        · have kxn : ((X : Int) == (n : Int)) = true := by simp [hxe]
                          clear hxe
                          go_wp2_with fail
                          go_meet
                          exact ⟨by first | rfl | (simp [kxn]; done) | (simp; done), HW3⟩
                        · have kxn : ((X : Int) == (n : Int)) = false := by simp; omega
                          clear hxe
                          go_wp2_with fail
                          go_meet
                          exact ⟨by first | rfl | (simp [kxn]; done) | (simp; done), HW3⟩
                      · cases T with
                        | false =>
                          go_wp2_with fail
                          go_meet
                          exact ⟨by first | rfl | (simp [kxn]; done) | (simp; done), HW3⟩
                        | true =>
                          by_cases hxe : X = n
                          · have kxn : ((X : Int) == (n : Int)) = true := by simp [hxe]
                            clear hxe
                            go_wp2_with fail
                            go_meet
                            exact ⟨by first | rfl | (simp [kxn]; done) | (simp; done), HW3⟩
                          · have kxn : ((X : Int) == (n : Int)) = false := by simp; omega
                            clear hxe
                            go_wp2_with fail
                            go_meet
                            exact ⟨by first | rfl | (simp [kxn]; done) | (simp; done), HW3⟩
                    · rw [decide_eq_false hzn] at hfv
                      subst hfv
                      cases T with
                      | false =>
                        go_wp2_with fail
                        go_meet
                        exact ⟨by first | rfl | (simp [kxn]; done) | (simp; done), HW3⟩
                      | true =>
                        have kxn : ((X : Int) == (n : Int)) = false := by
                          have h := (HT2.out rfl).1
                          simp
                          intro he
                          have he : X = n := by omega
                          rw [he, HFn.out] at h
                          cases h
                        go_wp2_with fail
                        go_meet
                        exact ⟨by first | rfl | (simp [kxn]; done) | (simp; done), HW3⟩
                  · have hkl : ¬ (κ : Int) < (LN : Int) := by omega
                    have hfv := HFv.out
                    rw [hB, decide_eq_false h1, Bool.false_and] at hfv
                    subst hfv
                    clear hB HFv
                    cases T with
                    | false =>
                      go_wp2_with fail
                      go_meet
                      exact ⟨by first | rfl | (simp [kxn]; done) | (simp; done), HW3⟩
                    | true =>
                      have kxn : ((X : Int) == (n : Int)) = false := by
                        have h := (HT2.out rfl).1
                        simp
                        intro he
                        have he : X = n := by omega
                        rw [he, HFn.out] at h
                        cases h
                      go_wp2_with fail
                      go_meet
                      exact ⟨by first | rfl | (simp [kxn]; done) | (simp; done), HW3⟩
              case rest =>
                obtain ⟨rfl, HW4⟩ := hcut
                clear HW3
                go_wp2_with fail
                go_roundw
                case rel => exact ⟨κ, n + 1, hκ, by omega, rfl, by go_num, HKn, HW4⟩
                case measure => simp [intOf]; omega
        · obtain rfl : N = n := by omega
          clear HK0 HSA HF HT1 HCs hκ
          go_wp2_with fail
          go_loopw [20] (fun iv wr => ∃ i : Nat, 1 ≤ i ∧ (i ≤ LN ∨ i = 1) ∧ iv = .int .i64 (i : Int) ∧ Hid (Below wz.heap.size wz wr)) (fun iv _ => LN - (intOf iv).toNat)
          case atStart => exact ⟨1, by omega, Or.inr rfl, rfl, HW⟩
          case round =>
            clear HW
            obtain ⟨i, hi1, hi2, rfl, HW⟩ := hrel
            by_cases hil : i < LN
            · obtain ⟨j, hj⟩ : ∃ j, i - 1 = j := ⟨_, rfl⟩
              have hjl : j < LN := by omega
              obtain ⟨rb, ro, rc, hv, hcw⟩ := HRo.out i hil
              obtain ⟨rb2, ro2, rc2, hv2, hcw2⟩ := HRo.out j hjl
              have l0 := HL.out _ i (HAW.out _ HW.out) hil
              have l1 := HL.out _ j (HAW.out _ HW.out) hjl
              rw [hv] at l0
              rw [hv2] at l1
              have d0 := (hcw _ (HAW.out _ HW.out)).1
              have d1 := (hcw2 _ (HAW.out _ HW.out)).2
              have hg := HI.out.gap j i (by omega) (by rw [HLN.out]; exact hil)
              have hr := HI.out.in_ j (by rw [HLN.out]; exact hjl)
              have hkl : (i : Int) < (LN : Int) := by omega
              have hk0 : (0 : Int) ≤ (i : Int) := by omega
              have hjl2 : (j : Int) < (LN : Int) := by omega
              have hj0 : (0 : Int) ≤ (j : Int) := by omega
              have kw : IntKind.i64.wrap ((i : Int) - 1) = (j : Int) := by rw [show (i : Int) - 1 = (j : Int) from by omega]; exact IntWalk.i64_in _ (by omega)
              obtain ⟨zl, hzl⟩ : ∃ z, ivLo PL i = z := ⟨_, rfl⟩
              obtain ⟨zh, hzh⟩ : ∃ z, ivHi PL j = z := ⟨_, rfl⟩
              rw [hzl] at d0 hg
              rw [hzh] at d1 hg hr
              have hr2 : zh < (N : Int) := hr.2.2
              have hr3 : -1 ≤ zh := by omega
              have kz : IntKind.i64.wrap (zh + 1) = zh + 1 := IntWalk.i64_in _ (by omega)
              have kg : ¬ zl ≤ zh + 1 := by omega
              clear hzl hzh hj hg hr hv hv2 hcw hcw2
              go_wp2_with fail
              go_quiet (fail)
              go_wp2_with fail
              go_roundw
              case rel => exact ⟨i + 1, by omega, Or.inl (by omega), by go_num, Lib.hid (⟨HW.out.os, HW.out.tape, HW.out.output, HW.out.size, HW.out.block⟩)⟩
              case measure => simp [intOf]; omega
            · have hkl : ¬ (i : Int) < (LN : Int) := by omega
              clear HRo HL
              go_wp2_with fail
              refine (HS1.out _ (HWW.out _ HW.out)).mono ?_
              rintro e w5 ⟨rfl, hb⟩
              have H5 := Lib.hid ((HWW.out _ HW.out).trans (hb.mono (HWW.out _ HW.out).size))
              clear hb
              go_wp2_with fail
              refine (HSp.out _ H5.out).mono ?_
              rintro e w6 ⟨rfl, hb⟩
              have H6 := Lib.hid (H5.out.trans (hb.mono H5.out.size))
              clear hb
              have knn : ((N : Int) == (N : Int)) = true := by simp
              cases T with
              | false =>
                go_wp2
                go_ret
                exact ⟨rfl, H6.out⟩
              | true =>
                have hXa : at_ ≤ (X : Int) := (HT2.out rfl).2
                go_wp2
                go_ret
                exact ⟨rfl, H6.out⟩
end Go.Proofs.YtabkkpifkkgpeaaDoor
