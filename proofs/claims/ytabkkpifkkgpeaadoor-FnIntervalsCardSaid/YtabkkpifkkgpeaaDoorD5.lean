/- Contracts of single functions, and plain lemmas, on which the exact laws of this seat rest; each holds under the conditions that it states. -/
import Derived.Test.YtabkkpifkkgpeaaDoorD3
import Derived.RegionDies
namespace Go.Proofs.YtabkkpifkkgpeaaDoor
set_option linter.unusedVariables false
set_option linter.unusedSimpArgs false
open Go.RowKit
attribute [local go_sem] Oper.semAt_some

/-- two spots and a kind in variables -/
def FsAt (W : World) (pa pb pk : Nat) (k ax ay bx b_y : Int) : Prop :=
  (W.cell? ⟨pa, 0, none⟩ = some (.int .i64 ax) ∧ W.cell? ⟨pa, 1, none⟩ = some (.int .i64 ay)) ∧ (W.cell? ⟨pb, 0, none⟩ = some (.int .i64 bx) ∧ W.cell? ⟨pb, 1, none⟩ = some (.int .i64 b_y)) ∧ W.cell? ⟨pk, 0, none⟩ = some (.int .i64 k)
theorem FsAt.below {w W : World} {pa pb pk : Nat} {k ax ay bx b_y : Int} (h : FsAt w pa pb pk k ax ay bx b_y) (hb : Below w.heap.size w W) : FsAt W pa pb pk k ax ay bx b_y :=
  ⟨⟨cell_kept hb h.1.1, cell_kept hb h.1.2⟩, ⟨cell_kept hb h.2.1.1, cell_kept hb h.2.1.2⟩, cell_kept hb h.2.2⟩

set_option maxHeartbeats 4000000 in
set_option maxRecDepth 100000 in
theorem far1_yes (pa pb pk : Nat) (k ax ay bx b_y : Int) (w : World) (h : FsAt w pa pb pk k ax ay bx b_y) (hok : fsOk k ax ay bx b_y = true) :
    Calls Tryd.prog 57 #[.pointer (some ⟨pa, 0, none⟩), .pointer (some ⟨pb, 0, none⟩), .pointer (some ⟨pk, 0, none⟩)] w fun e w' => ∃ r : Int, e = .returned (.int .i64 r) ∧ r = farI k ax ay bx b_y ∧ Below w.heap.size w w' := by
  unfold fsOk at hok
  simp only [Bool.and_eq_true] at hok
  have CA := Lib.hid (fun W => isField_any ax ay W)
  have CB := Lib.hid (fun W => isField_any bx b_y W)
  have sA := nearB_small hok.2.1
  have sB := nearB_small hok.2.2
  rw [hok.2.1] at CA
  rw [hok.2.2] at CB
  have CR := Lib.hid (fun W => require_yes W)
  have CK := Lib.hid (fun W => reqKind_yes k W hok.1)
  have CD := Lib.hid (fun W => between_any k ax ay bx b_y W sA.1 sA.2 sB.1 sB.2)
  obtain ⟨d, hd⟩ : ∃ d, farI k ax ay bx b_y = d := ⟨_, rfl⟩
  rw [hd] at CD ⊢
  have HF : Hid (∀ W, Below w.heap.size w W → FsAt W pa pb pk k ax ay bx b_y) := fun W hb => h.below hb
  have a0 := h.1.1
  have a1 := h.1.2
  have lp : pa < w.heap.size ∧ pb < w.heap.size ∧ pk < w.heap.size := ⟨World.block_lt_of_cell? w _ h.1.1, World.block_lt_of_cell? w _ h.2.1.1, World.block_lt_of_cell? w _ h.2.2⟩
  clear hok sA sB hd h
  go_enter Tryd.func57, Tryd.ntmps57
  go_wp2_with fail
  refine (CA.out _).mono ?_
  rintro e w1 ⟨rfl, hb1⟩
  have c1 := (HF.out w1 hb1).2.1
  have b0 := c1.1
  have b1 := c1.2
  have B1 := Lib.hid hb1
  clear hb1 a0 a1 c1
  go_wp2_with fail
  refine (CB.out _).mono ?_
  rintro e w2 ⟨rfl, hb2⟩
  have B2 := Lib.hid (B1.out.trans (hb2.mono B1.out.size))
  clear hb2 b0 b1
  go_wp2_with fail
  refine (CR.out _).mono ?_
  rintro e w3 ⟨rfl, rfl⟩
  have HX : Hid (∀ W, Below w3.heap.size w3 W → W.cell? ⟨pa, 0, none⟩ = some (.int .i64 ax) ∧ W.cell? ⟨pa, 1, none⟩ = some (.int .i64 ay) ∧ W.cell? ⟨pb, 0, none⟩ = some (.int .i64 bx) ∧ W.cell? ⟨pb, 1, none⟩ = some (.int .i64 b_y) ∧ W.cell? ⟨pk, 0, none⟩ = some (.int .i64 k)) := fun W hb => by
    have c := HF.out W (B2.out.trans (hb.mono B2.out.size))
    exact ⟨c.1.1, c.1.2, c.2.1.1, c.2.1.2, c.2.2⟩
  go_wp2_with fail
  go_region_held3 (fun w' => w'.cell? ⟨pa, 0, none⟩ = some (.int .i64 ax) ∧ w'.cell? ⟨pa, 1, none⟩ = some (.int .i64 ay) ∧ w'.cell? ⟨pb, 0, none⟩ = some (.int .i64 bx) ∧ w'.cell? ⟨pb, 1, none⟩ = some (.int .i64 b_y) ∧ w'.cell? ⟨pk, 0, none⟩ = some (.int .i64 k))
    (first | exact HX.out _ (Below.refl _ _) | exact HX.out _ (Below.refl _ _).drew | exact HX.out _ ((Below.refl _ _).drew.trans hb5))
    (first | (go_at_call 59; refine (CK.out _).mono ?_; rintro e w4 ⟨rfl, rfl⟩) | (go_at_call 60; refine (CD.out _).mono ?_; rintro e w5 ⟨rfl, hb5⟩))
  have hb35 := (Below.refl w3.heap.size w3).drew.trans hb5
  have B5 := Lib.hid (B2.out.trans (hb35.mono B2.out.size))
  clear hb5 hb35
  go_wp2_with fail
  go_ret
  exact ⟨_, rfl, rfl, B5.out⟩

set_option maxHeartbeats 4000000 in
set_option maxRecDepth 100000 in
theorem far1_no (pa pb pk : Nat) (k ax ay bx b_y : Int) (w : World) (h : FsAt w pa pb pk k ax ay bx b_y) (hn : NoRes w) (hok : fsOk k ax ay bx b_y = false) :
    Calls Tryd.prog 57 #[.pointer (some ⟨pa, 0, none⟩), .pointer (some ⟨pb, 0, none⟩), .pointer (some ⟨pk, 0, none⟩)] w fun e w' => (∃ T x, e = .panicked [{ v := .iface T x, recovered := false }]) ∧ Below w.heap.size w w' := by
  have CA := Lib.hid (fun W => isField_any ax ay W)
  have CB := Lib.hid (fun W => isField_any bx b_y W)
  have CR := Lib.hid (fun W => require_yes W)
  have CN : Hid (∀ W, Below w.heap.size w W → Calls Tryd.prog 53 #[.bool false] W fun e w' => ∃ T x, e = .panicked [{ v := .iface T x, recovered := false }] ∧ w' = W) := fun W hb => require_no W (hn.below hb)
  have CK : Hid (inB k 0 2 = false → ∀ W, Below w.heap.size w W → Calls Tryd.prog 59 #[.int .i64 k] W fun e w' => (∃ T x, e = .panicked [{ v := .iface T x, recovered := false }]) ∧ w' = W) := fun hk W hb => reqKind_no k W hk (hn.below hb)
  have HF : Hid (∀ W, Below w.heap.size w W → FsAt W pa pb pk k ax ay bx b_y) := fun W hb => h.below hb
  have a0 := h.1.1
  have a1 := h.1.2
  have lp : pa < w.heap.size ∧ pb < w.heap.size ∧ pk < w.heap.size := ⟨World.block_lt_of_cell? w _ h.1.1, World.block_lt_of_cell? w _ h.2.1.1, World.block_lt_of_cell? w _ h.2.2⟩
  have HO : Hid ((inB k 0 2 && (nearB ax ay && nearB bx b_y)) = false) := hok
  obtain ⟨kb, hkb⟩ : ∃ b, inB k 0 2 = b := ⟨_, rfl⟩
  obtain ⟨na, hna⟩ : ∃ b, nearB ax ay = b := ⟨_, rfl⟩
  obtain ⟨nb, hnb⟩ : ∃ b, nearB bx b_y = b := ⟨_, rfl⟩
  rw [hkb] at CK HO
  rw [hna] at CA HO
  rw [hnb] at CB HO
  clear hok h hn hkb hna hnb
  go_enter Tryd.func57, Tryd.ntmps57
  go_wp2_with fail
  refine (CA.out _).mono ?_
  rintro e w1 ⟨rfl, hb1⟩
  have c1 := (HF.out w1 hb1).2.1
  have b0 := c1.1
  have b1 := c1.2
  have B1 := Lib.hid hb1
  clear hb1 a0 a1 c1
  cases na with
  | false =>
    have CN1 := Lib.hid (CN.out w1 B1.out)
    clear CB CK CN HO
    go_wp2_with fail
    refine CN1.out.mono ?_
    rintro e w3 ⟨T, x, rfl, rfl⟩
    go_wp2
    exact ⟨rfl, ⟨T, x, rfl⟩, B1.out⟩
  | true =>
    go_wp2_with fail
    refine (CB.out _).mono ?_
    rintro e w2 ⟨rfl, hb2⟩
    have B2 := Lib.hid (B1.out.trans (hb2.mono B1.out.size))
    clear hb2 b0 b1
    cases nb with
    | false =>
      have CN1 := Lib.hid (CN.out w2 B2.out)
      clear CK CN HO
      go_wp2_with fail
      refine CN1.out.mono ?_
      rintro e w3 ⟨T, x, rfl, rfl⟩
      go_wp2
      exact ⟨rfl, ⟨T, x, rfl⟩, B2.out⟩
    | true =>
      have hkf : kb = false := by have := HO.out; simpa using this
      have CK2 := Lib.hid (fun W (hb : Below w2.heap.size w2 W) => CK.out hkf W (B2.out.trans (hb.mono B2.out.size)))
      clear CK CN HO hkf
      go_wp2_with fail
      refine (CR.out _).mono ?_
      rintro e w3 ⟨rfl, rfl⟩
      have HX : Hid (∀ W, Below w3.heap.size w3 W → W.cell? ⟨pa, 0, none⟩ = some (.int .i64 ax) ∧ W.cell? ⟨pa, 1, none⟩ = some (.int .i64 ay) ∧ W.cell? ⟨pb, 0, none⟩ = some (.int .i64 bx) ∧ W.cell? ⟨pb, 1, none⟩ = some (.int .i64 b_y) ∧ W.cell? ⟨pk, 0, none⟩ = some (.int .i64 k)) := fun W hb => by
        have c := HF.out W (B2.out.trans (hb.mono B2.out.size))
        exact ⟨c.1.1, c.1.2, c.2.1.1, c.2.1.2, c.2.2⟩
      go_wp2_with fail
      have q0 := HX.out w3 (Below.refl _ _)
      obtain ⟨q1, q2, q3, q4, q5⟩ := q0
      go_region_dies
      all_goals (go_at_call 59; refine (CK2.out _ (Below.refl _ _).drew).mono ?_; rintro e w4 ⟨⟨T, x, rfl⟩, rfl⟩)
      all_goals go_wp2
      all_goals exact ⟨rfl, ⟨T, x, rfl⟩, B2.out.trans ((Below.refl w3.heap.size w3).drew.mono B2.out.size)⟩
end Go.Proofs.YtabkkpifkkgpeaaDoor

/- Contracts of single functions, and plain lemmas, on which the exact laws of this seat rest; each holds under the conditions that it states. -/
namespace Go.Proofs.YtabkkpifkkgpeaaDoor
set_option linter.unusedVariables false
set_option linter.unusedSimpArgs false
open Go.RowKit
attribute [local go_sem] Oper.semAt_some

theorem call_Far1 : ∀ args (W : World), (callFunc 57 args).run Tryd.prog W = .ok (.enter 57 args) W := by
  intro args W
  first | (go_simp; done) | (simp [callFunc, go_sem]; done) | kernel_rfl

set_option maxHeartbeats 4000000 in
set_option maxRecDepth 100000 in
theorem impl_FarSpots (k ax ay bx b_y : Int) (w : World) (hn : NoRes w) :
    Calls Tryd.prog 14 #[.int .i64 k, .agg #[.int .i64 ax, .int .i64 ay], .agg #[.int .i64 bx, .int .i64 b_y]] w (SaysIOk (fsV k ax ay bx b_y) (fsOk k ax ay bx b_y) w) := by
  obtain ⟨W0, hW0⟩ : ∃ W0, (((w.alloc (.cells #[.int .i64 k] 2)).alloc (.cells #[.int .i64 ax, .int .i64 ay] 29)).alloc (.cells #[.int .i64 bx, .int .i64 b_y] 29)) = W0 := ⟨_, rfl⟩
  have b0 : Below w.heap.size w W0 := by rw [← hW0]; exact Joins.below_alloc3 _ _ _ _
  have hs0 : W0.heap.size = w.heap.size + 1 + 1 + 1 := by rw [← hW0]; simp
  have hk0 : W0.heap[w.heap.size]? = some (.cells #[.int .i64 k] 2 (0, 0)) := by
    rw [← hW0, Below.heap_alloc _ _ _ (by simp; omega), Below.heap_alloc _ _ _ (by simp)]; exact heap_alloc_last w _
  have ha0 : W0.heap[w.heap.size + 1]? = some (.cells #[.int .i64 ax, .int .i64 ay] 29 (0, 0)) := by
    rw [← hW0, Below.heap_alloc _ _ _ (by simp)]
    exact heap_alloc2_new _ _ _
  have hr0 : W0.heap[w.heap.size + 1 + 1]? = some (.cells #[.int .i64 bx, .int .i64 b_y] 29 (0, 0)) := by
    rw [← hW0]
    have := heap_alloc_last ((w.alloc (.cells #[.int .i64 k] 2)).alloc (.cells #[.int .i64 ax, .int .i64 ay] 29)) (.cells #[.int .i64 bx, .int .i64 b_y] 29)
    simpa only [World.size_alloc] using this
  have HF : FsAt W0 (w.heap.size + 1) (w.heap.size + 1 + 1) w.heap.size k ax ay bx b_y :=
    ⟨⟨by rw [Joins.cell_of_block ha0 0]; rfl, by rw [Joins.cell_of_block ha0 1]; rfl⟩, ⟨by rw [Joins.cell_of_block hr0 0]; rfl, by rw [Joins.cell_of_block hr0 1]; rfl⟩, by rw [Joins.cell_of_block hk0 0]; rfl⟩
  have hmf : ∀ (fn : Fn) (first cap : Array Value) (w : World), (Instr.makeFunc fn first cap).run Tryd.prog w = .ok (.func fn first cap) w := fun _ _ _ _ => rfl
  have B0 := Lib.hid b0
  have HW := Lib.hid hW0
  cases hok : fsOk k ax ay bx b_y with
  | true =>
    have C := Lib.hid (attemptI_yes 57 #[.pointer (some ⟨w.heap.size + 1, 0, none⟩), .pointer (some ⟨w.heap.size + 1 + 1, 0, none⟩), .pointer (some ⟨w.heap.size, 0, none⟩)] W0 (fun v W w' => v = .int .i64 (farI k ax ay bx b_y)) call_Far1 (fun W hb => (far1_yes (w.heap.size + 1) (w.heap.size + 1 + 1) w.heap.size k ax ay bx b_y W (HF.below hb) hok).mono (fun e w' ⟨r, he, hr, hb⟩ => ⟨r, he, by rw [hr], hb⟩)))
    have HV : Hid (fsV k ax ay bx b_y = farI k ax ay bx b_y) := by show _ = _; unfold fsV; rw [if_pos hok]
    obtain ⟨d, hd⟩ : ∃ d, farI k ax ay bx b_y = d := ⟨_, rfl⟩
    rw [hd] at C HV
    clear hn hd hok HF b0 hs0 hk0 ha0 hr0 hW0
    go_enter Tryd.func14, Tryd.ntmps14
    go_wp2_with fail
    rw [HW.out]
    refine C.out.mono ?_
    rintro e w1 ⟨r, w2, rfl, hQ, hb, rfl, r1, r2⟩
    obtain rfl : r = d := by injection hQ
    have hs := B0.out.size
    have HB := Lib.hid (((B0.out.trans (hb.mono hs)).setCell (p := ⟨W0.heap.size, 0, none⟩) hs (.int .i64 r)).setCell (p := ⟨W0.heap.size + 1, 0, none⟩) (by show w.heap.size ≤ W0.heap.size + 1; omega) (.bool true))
    clear hQ hb r1 r2
    go_wp2_with fail
    go_ret2
    rw [HV.out]
    exact ⟨rfl, HB.out⟩
  | false =>
    have C := Lib.hid (attemptI_no 57 #[.pointer (some ⟨w.heap.size + 1, 0, none⟩), .pointer (some ⟨w.heap.size + 1 + 1, 0, none⟩), .pointer (some ⟨w.heap.size, 0, none⟩)] W0 call_Far1 (fun W hb => far1_no (w.heap.size + 1) (w.heap.size + 1 + 1) w.heap.size k ax ay bx b_y W (HF.below hb) ((hn.below b0).below hb) hok))
    have HV : Hid (fsV k ax ay bx b_y = 0) := by show _ = _; unfold fsV; rw [if_neg (by rw [hok]; decide)]
    clear hn hok HF b0 hs0 hk0 ha0 hr0 hW0
    go_enter Tryd.func14, Tryd.ntmps14
    go_wp2_with fail
    rw [HW.out]
    refine C.out.mono ?_
    rintro e w1 ⟨rfl, hb⟩
    have HB := Lib.hid (B0.out.trans (hb.mono B0.out.size))
    clear hb
    go_wp2_with fail
    go_ret2
    rw [HV.out]
    exact ⟨rfl, HB.out⟩

end Go.Proofs.YtabkkpifkkgpeaaDoor
