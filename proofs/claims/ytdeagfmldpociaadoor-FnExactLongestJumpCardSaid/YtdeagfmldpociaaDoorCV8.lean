/- Contracts of single functions, and plain lemmas, on which the exact laws of this seat rest; each holds under the conditions that it states. -/
import Derived.Test.YtdeagfmldpociaaDoorCV7
import Derived.Test.YtdeagfmldpociaaDoorD3
import Derived.BigRegion
namespace Go.Proofs.YtdeagfmldpociaaDoor
set_option linter.unusedVariables false
set_option linter.unusedSimpArgs false
open Go.RowKit
attribute [local go_sem] Oper.semAt_some

def ixOk (c n x y : Int) : Bool := (inB c 0 3 && inB n 0 4) && (inB x 0 (sd n - 1) && inB y 0 (sd n - 1))
def ixV (c n x y : Int) : Int := if ixOk c n x y = true then ixS c.toNat n.toNat x.toNat y.toNat else 0
/-- the four numbers in variables -/
def IxAt (W : World) (pc pn px py : Nat) (c n x y : Int) : Prop :=
  W.cell? ⟨pc, 0, none⟩ = some (.int .i64 c) ∧ W.cell? ⟨pn, 0, none⟩ = some (.int .i64 n) ∧ W.cell? ⟨px, 0, none⟩ = some (.int .i64 x) ∧ W.cell? ⟨py, 0, none⟩ = some (.int .i64 y)
theorem IxAt.kept {w W : World} {pc pn px py : Nat} {c n x y : Int} (h : IxAt w pc pn px py c n x y) (hb : Below w.heap.size w W) : IxAt W pc pn px py c n x y :=
  ⟨cell_kept hb h.1, cell_kept hb h.2.1, cell_kept hb h.2.2.1, cell_kept hb h.2.2.2⟩
theorem inB_le {x a b : Int} (h : inB x a b = true) : a ≤ x ∧ x ≤ b := by
  unfold inB at h
  simpa using h
/-- what is known of four numbers that have an index -/
theorem ix_nat {c n x y : Int} (h : ixOk c n x y = true) : ∃ c' n' x' y' : Nat, c = c' ∧ n = n' ∧ x = x' ∧ y = y' ∧ c' < 4 ∧ n' ≤ 4 ∧ x' < 2 ^ n' ∧ y' < 2 ^ n' := by
  unfold ixOk at h
  simp only [Bool.and_eq_true] at h
  obtain ⟨⟨h1, h2⟩, h3, h4⟩ := h
  have h1 := inB_le h1
  have h2 := inB_le h2
  have h3 := inB_le h3
  have h4 := inB_le h4
  obtain ⟨n', rfl⟩ : ∃ k : Nat, n = k := ⟨n.toNat, by omega⟩
  rw [sd_nat] at h3 h4
  exact ⟨c.toNat, n', x.toNat, y.toNat, by omega, rfl, by omega, by omega, by omega, by omega, by omega, by omega⟩

set_option maxHeartbeats 2000000 in
set_option maxRecDepth 100000 in
theorem index1_yes (pc pn px py : Nat) (c n x y : Int) (w : World) (h : IxAt w pc pn px py c n x y) (hQ : QvP w) (hok : ixOk c n x y = true) :
    Calls Tryd.prog 55 #[.pointer (some ⟨pc, 0, none⟩), .pointer (some ⟨pn, 0, none⟩), .pointer (some ⟨px, 0, none⟩), .pointer (some ⟨py, 0, none⟩)] w (fun e w' => e = .returned (.int .i64 (ixV c n x y)) ∧ Below w.heap.size w w') := by
  have HX : Hid (∀ W, Below w.heap.size w W → IxAt W pc pn px py c n x y) := fun W hb => h.kept hb
  have CI : Hid (∀ W, Below w.heap.size w W → Calls Tryd.prog 57 #[.agg #[.int .i64 c, .int .i64 n], .agg #[.int .i64 x, .int .i64 y]] W (fun e w' => e = .returned (.int .i64 (ixV c n x y)) ∧ Below W.heap.size W w')) := fun W hb => by
    have hv : ixV c n x y = ixS c.toNat n.toNat x.toNat y.toNat := by unfold ixV; rw [if_pos hok]
    rw [hv]
    obtain ⟨c', n', x', y', rfl, rfl, rfl, rfl, h1, h2, h3, h4⟩ := ix_nat hok
    simp only [Int.toNat_natCast]
    rw [← ixI_eq c' h1 n' (by omega) x' h3 y' h4]
    exact requiredIndex_yes c' n' x' y' W h1 h2 h3 h4 (hQ.below hb)
  have CT : Hid (∀ W, Calls Tryd.prog 56 #[.int .i64 c, .int .i64 n] W (fun e w' => e = .returned (.agg #[.int .i64 c, .int .i64 n]) ∧ Below W.heap.size W w')) := fun W => by
    unfold ixOk at hok
    simp only [Bool.and_eq_true] at hok
    exact requiredTour_yes c n W hok.1.1 hok.1.2
  obtain ⟨v, hv⟩ : ∃ v, ixV c n x y = v := ⟨_, rfl⟩
  rw [hv] at CI ⊢
  clear h hQ hok hv
  unfold IxAt at HX
  go_enter Tryd.func55, Tryd.ntmps55
  go_upto_region 1 with fail
  refine wp_region_inv_at (by kernel_rfl) (fun A0 L A W => ∃ (b0 b1 b2 b3 b4 b5 b6 b7 : Bool) (v5 v6 v7 v8 v9 v10 v11 v4 : Value), L = #[b0, b1, b2, b3, b4, b5, b6, b7] ∧ A = ((((((((A0.put (some 5) v5).put (some 6) v6).put (some 7) v7).put (some 8) v8).put (some 9) v9).put (some 10) v10).put (some 11) v11).put (some 4) v4) ∧ (Below w.heap.size w W) ∧ Hid (b0 = true → v5 = .int .i64 c) ∧ Hid (b1 = true → v6 = .int .i64 n) ∧ Hid (b2 = true → v7 = .agg #[.int .i64 c, .int .i64 n]) ∧ Hid (b3 = true → v8 = .int .i64 x) ∧ Hid (b4 = true → v9 = .int .i64 y) ∧ Hid (b5 = true → v10 = .agg #[.int .i64 x, .int .i64 y]) ∧ Hid (b6 = true → v11 = .int .i64 v) ∧ Hid (b7 = true → v4 = .int .i64 v)) ?_ ?_ ?_
  · intro A0
    refine ⟨false, false, false, false, false, false, false, false, A0.tmps.getD 5 undef, A0.tmps.getD 6 undef, A0.tmps.getD 7 undef, A0.tmps.getD 8 undef, A0.tmps.getD 9 undef, A0.tmps.getD 10 undef, A0.tmps.getD 11 undef, A0.tmps.getD 4 undef, rfl, (by simp only [put_self]), (Below.refl _ _).drew, Lib.hid (fun hf => by cases hf), Lib.hid (fun hf => by cases hf), Lib.hid (fun hf => by cases hf), Lib.hid (fun hf => by cases hf), Lib.hid (fun hf => by cases hf), Lib.hid (fun hf => by cases hf), Lib.hid (fun hf => by cases hf), Lib.hid (fun hf => by cases hf)⟩
  · intro L A W hI i hi o ho K' hK
    have hlt := (ready_left hi).1
    have hun := (ready_left hi).2
    have haf := ready_after hi ho
    clear hi
    obtain ⟨b0, b1, b2, b3, b4, b5, b6, b7, v5, v6, v7, v8, v9, v10, v11, v4, rfl, rfl, hB, h0, h1, h2, h3, h4, h5, h6, h7⟩ := hI
    have hc : i = 0 ∨ i = 1 ∨ i = 2 ∨ i = 3 ∨ i = 4 ∨ i = 5 ∨ i = 6 ∨ i = 7 := by
      simp at hlt
      omega
    have qq := HX.out W hB
    obtain ⟨q0, q1, q2, q3⟩ := qq
    rcases hc with rfl | rfl | rfl | rfl | rfl | rfl | rfl | rfl
    all_goals (obtain rfl := Option.some.inj ho; clear ho; simp [Region.binds] at haf hun; (try simp only [List.getElem_toArray, List.getElem_cons_zero, List.getElem_cons_succ]); simp only [Act.put, List.setIfInBounds_toArray, List.set_cons_zero, List.set_cons_succ])
    · -- operation 0
      replace hK := Lib.hid hK
      subst hun
      go_simp
      exact hK.out _ _ ⟨true, b1, b2, b3, b4, b5, b6, b7, .int .i64 c, v6, v7, v8, v9, v10, v11, v4, rfl, (by simp only [Act.put, List.setIfInBounds_toArray, List.set_cons_zero, List.set_cons_succ]), hB, Lib.hid (fun _ => rfl), h1, h2, h3, h4, h5, h6, h7⟩
    · -- operation 1
      replace hK := Lib.hid hK
      subst hun
      go_simp
      exact hK.out _ _ ⟨b0, true, b2, b3, b4, b5, b6, b7, v5, .int .i64 n, v7, v8, v9, v10, v11, v4, rfl, (by simp only [Act.put, List.setIfInBounds_toArray, List.set_cons_zero, List.set_cons_succ]), hB, h0, Lib.hid (fun _ => rfl), h2, h3, h4, h5, h6, h7⟩
    · -- operation 2
      replace hK := Lib.hid hK
      obtain rfl := h0.out (by simp only [haf])
      obtain rfl := h1.out (by simp only [haf])
      subst hun
      go_simp
      refine (CT.out W).mono ?_
      rintro e W' ⟨rfl, hb⟩
      have hkept := fun kb (hk : kb < W.heap.size) => hb.block kb hk
      exact hK.out _ _ ⟨b0, b1, true, b3, b4, b5, b6, b7, .int .i64 c, .int .i64 n, .agg #[.int .i64 c, .int .i64 n], v8, v9, v10, v11, v4, rfl, (by simp only [Act.put, List.setIfInBounds_toArray, List.set_cons_zero, List.set_cons_succ]), hB.trans (hb.mono hB.size), Lib.hid (fun _ => rfl), Lib.hid (fun _ => rfl), Lib.hid (fun _ => rfl), h3, h4, h5, h6, h7⟩
    · -- operation 3
      replace hK := Lib.hid hK
      subst hun
      go_simp
      exact hK.out _ _ ⟨b0, b1, b2, true, b4, b5, b6, b7, v5, v6, v7, .int .i64 x, v9, v10, v11, v4, rfl, (by simp only [Act.put, List.setIfInBounds_toArray, List.set_cons_zero, List.set_cons_succ]), hB, h0, h1, h2, Lib.hid (fun _ => rfl), h4, h5, h6, h7⟩
    · -- operation 4
      replace hK := Lib.hid hK
      subst hun
      go_simp
      exact hK.out _ _ ⟨b0, b1, b2, b3, true, b5, b6, b7, v5, v6, v7, v8, .int .i64 y, v10, v11, v4, rfl, (by simp only [Act.put, List.setIfInBounds_toArray, List.set_cons_zero, List.set_cons_succ]), hB, h0, h1, h2, h3, Lib.hid (fun _ => rfl), h5, h6, h7⟩
    · -- operation 5
      replace hK := Lib.hid hK
      obtain rfl := h3.out (by simp only [haf])
      obtain rfl := h4.out (by simp only [haf])
      subst hun
      go_simp
      exact hK.out _ _ ⟨b0, b1, b2, b3, b4, true, b6, b7, v5, v6, v7, .int .i64 x, .int .i64 y, .agg #[.int .i64 x, .int .i64 y], v11, v4, rfl, (by simp only [Act.put, List.setIfInBounds_toArray, List.set_cons_zero, List.set_cons_succ]), hB, h0, h1, h2, Lib.hid (fun _ => rfl), Lib.hid (fun _ => rfl), Lib.hid (fun _ => rfl), h6, h7⟩
    · -- operation 6
      replace hK := Lib.hid hK
      obtain rfl := h2.out (by simp only [haf])
      obtain rfl := h5.out (by simp only [haf])
      subst hun
      go_simp
      refine (CI.out W hB).mono ?_
      rintro e W' ⟨rfl, hb⟩
      have hkept := fun kb (hk : kb < W.heap.size) => hb.block kb hk
      exact hK.out _ _ ⟨b0, b1, b2, b3, b4, b5, true, b7, v5, v6, .agg #[.int .i64 c, .int .i64 n], v8, v9, .agg #[.int .i64 x, .int .i64 y], .int .i64 v, v4, rfl, (by simp only [Act.put, List.setIfInBounds_toArray, List.set_cons_zero, List.set_cons_succ]), hB.trans (hb.mono hB.size), h0, h1, Lib.hid (fun _ => rfl), h3, h4, Lib.hid (fun _ => rfl), Lib.hid (fun _ => rfl), h7⟩
    · -- operation 7
      replace hK := Lib.hid hK
      obtain rfl := h6.out (by simp only [haf])
      subst hun
      go_simp
      exact hK.out _ _ ⟨b0, b1, b2, b3, b4, b5, b6, true, v5, v6, v7, v8, v9, v10, .int .i64 v, .int .i64 v, rfl, (by simp only [Act.put, List.setIfInBounds_toArray, List.set_cons_zero, List.set_cons_succ]), hB, h0, h1, h2, h3, h4, h5, Lib.hid (fun _ => rfl), Lib.hid (fun _ => rfl)⟩
  intro L A W hI hr
  obtain ⟨b0, b1, b2, b3, b4, b5, b6, b7, v5, v6, v7, v8, v9, v10, v11, v4, rfl, rfl, hB, h0, h1, h2, h3, h4, h5, h6, h7⟩ := hI
  have d0 := ready_done hr 0 _ rfl (by simp [Region.binds])
  have d1 := ready_done hr 1 _ rfl (by simp [Region.binds])
  have d3 := ready_done hr 3 _ rfl (by simp [Region.binds])
  have d4 := ready_done hr 4 _ rfl (by simp [Region.binds])
  simp at d0 d1 d3 d4
  subst d0 d1 d3 d4
  have d2 := ready_done hr 2 _ rfl (by simp [Region.binds])
  have d5 := ready_done hr 5 _ rfl (by simp [Region.binds])
  simp at d2 d5
  subst d2 d5
  have d6 := ready_done hr 6 _ rfl (by simp [Region.binds])
  simp at d6
  subst d6
  have d7 := ready_done hr 7 _ rfl (by simp [Region.binds])
  simp at d7
  subst d7
  obtain rfl := h0.out rfl
  obtain rfl := h1.out rfl
  obtain rfl := h2.out rfl
  obtain rfl := h3.out rfl
  obtain rfl := h4.out rfl
  obtain rfl := h5.out rfl
  obtain rfl := h6.out rfl
  obtain rfl := h7.out rfl
  simp only [Act.put, List.setIfInBounds_toArray, List.set_cons_zero, List.set_cons_succ]
  clear hr h0 h1 h2 h3 h4 h5 h6 h7
  have HB := Lib.hid hB
  clear hB
  go_wp2
  go_ret
  exact ⟨rfl, HB.out⟩

set_option maxHeartbeats 2000000 in
set_option maxRecDepth 100000 in
theorem index1_no (pc pn px py : Nat) (c n x y : Int) (w : World) (h : IxAt w pc pn px py c n x y) (hr : NoRes w) (hok : ixOk c n x y = false) :
    Calls Tryd.prog 55 #[.pointer (some ⟨pc, 0, none⟩), .pointer (some ⟨pn, 0, none⟩), .pointer (some ⟨px, 0, none⟩), .pointer (some ⟨py, 0, none⟩)] w (fun e w' => (∃ T x, e = .panicked [{ v := .iface T x, recovered := false }]) ∧ Below w.heap.size w w') := by
  have HX : Hid (∀ W, Below w.heap.size w W → IxAt W pc pn px py c n x y) := fun W hb => h.kept hb
  cases ht : (inB c 0 3 && inB n 0 4) with
  | false =>
    have CT : Hid (∀ W, Below w.heap.size w W → Calls Tryd.prog 56 #[.int .i64 c, .int .i64 n] W (fun e w' => (∃ T x, e = .panicked [{ v := .iface T x, recovered := false }]) ∧ Below W.heap.size W w')) := fun W hb => requiredTour_no c n W ht (hr.below hb)
    clear h hr hok ht
    unfold IxAt at HX
    go_enter Tryd.func55, Tryd.ntmps55
    go_upto_region 1 with fail
    refine wp_region_inv_at (by kernel_rfl) (fun A0 L A W => ∃ (b0 b1 b2 b3 b4 b5 b6 b7 : Bool) (v5 v6 v7 v8 v9 v10 v11 v4 : Value), L = #[b0, b1, b2, b3, b4, b5, b6, b7] ∧ A = ((((((((A0.put (some 5) v5).put (some 6) v6).put (some 7) v7).put (some 8) v8).put (some 9) v9).put (some 10) v10).put (some 11) v11).put (some 4) v4) ∧ (Below w.heap.size w W) ∧ Hid (b0 = true → v5 = .int .i64 c) ∧ Hid (b1 = true → v6 = .int .i64 n) ∧ Hid (b2 = true → False) ∧ Hid (b3 = true → v8 = .int .i64 x) ∧ Hid (b4 = true → v9 = .int .i64 y) ∧ Hid (b5 = true → v10 = .agg #[.int .i64 x, .int .i64 y]) ∧ Hid (b6 = true → v11 = .int .i64 0) ∧ Hid (b7 = true → v4 = .int .i64 0)) ?_ ?_ ?_
    · intro A0
      refine ⟨false, false, false, false, false, false, false, false, A0.tmps.getD 5 undef, A0.tmps.getD 6 undef, A0.tmps.getD 7 undef, A0.tmps.getD 8 undef, A0.tmps.getD 9 undef, A0.tmps.getD 10 undef, A0.tmps.getD 11 undef, A0.tmps.getD 4 undef, rfl, (by simp only [put_self]), (Below.refl _ _).drew, Lib.hid (fun hf => by cases hf), Lib.hid (fun hf => by cases hf), Lib.hid (fun hf => by cases hf), Lib.hid (fun hf => by cases hf), Lib.hid (fun hf => by cases hf), Lib.hid (fun hf => by cases hf), Lib.hid (fun hf => by cases hf), Lib.hid (fun hf => by cases hf)⟩
    · intro L A W hI i hi o ho K' hK
      have hlt := (ready_left hi).1
      have hun := (ready_left hi).2
      have haf := ready_after hi ho
      clear hi
      obtain ⟨b0, b1, b2, b3, b4, b5, b6, b7, v5, v6, v7, v8, v9, v10, v11, v4, rfl, rfl, hB, h0, h1, h2, h3, h4, h5, h6, h7⟩ := hI
      have hc : i = 0 ∨ i = 1 ∨ i = 2 ∨ i = 3 ∨ i = 4 ∨ i = 5 ∨ i = 6 ∨ i = 7 := by
        simp at hlt
        omega
      have qq := HX.out W hB
      obtain ⟨q0, q1, q2, q3⟩ := qq
      rcases hc with rfl | rfl | rfl | rfl | rfl | rfl | rfl | rfl
      all_goals (obtain rfl := Option.some.inj ho; clear ho; simp [Region.binds] at haf hun; (try simp only [List.getElem_toArray, List.getElem_cons_zero, List.getElem_cons_succ]); simp only [Act.put, List.setIfInBounds_toArray, List.set_cons_zero, List.set_cons_succ])
      · -- operation 0
        replace hK := Lib.hid hK
        subst hun
        go_simp
        exact hK.out _ _ ⟨true, b1, b2, b3, b4, b5, b6, b7, .int .i64 c, v6, v7, v8, v9, v10, v11, v4, rfl, (by simp only [Act.put, List.setIfInBounds_toArray, List.set_cons_zero, List.set_cons_succ]), hB, Lib.hid (fun _ => rfl), h1, h2, h3, h4, h5, h6, h7⟩
      · -- operation 1
        replace hK := Lib.hid hK
        subst hun
        go_simp
        exact hK.out _ _ ⟨b0, true, b2, b3, b4, b5, b6, b7, v5, .int .i64 n, v7, v8, v9, v10, v11, v4, rfl, (by simp only [Act.put, List.setIfInBounds_toArray, List.set_cons_zero, List.set_cons_succ]), hB, h0, Lib.hid (fun _ => rfl), h2, h3, h4, h5, h6, h7⟩
      · -- operation 2
        replace hK := Lib.hid hK
        obtain rfl := h0.out (by simp only [haf])
        obtain rfl := h1.out (by simp only [haf])
        subst hun
        go_simp
        refine (CT.out W hB).mono ?_
        rintro e W' ⟨⟨T, p, rfl⟩, hb⟩
        go_wp2
        exact ⟨rfl, ⟨T, p, rfl⟩, hB.trans (hb.mono hB.size)⟩
      · -- operation 3
        replace hK := Lib.hid hK
        subst hun
        go_simp
        exact hK.out _ _ ⟨b0, b1, b2, true, b4, b5, b6, b7, v5, v6, v7, .int .i64 x, v9, v10, v11, v4, rfl, (by simp only [Act.put, List.setIfInBounds_toArray, List.set_cons_zero, List.set_cons_succ]), hB, h0, h1, h2, Lib.hid (fun _ => rfl), h4, h5, h6, h7⟩
      · -- operation 4
        replace hK := Lib.hid hK
        subst hun
        go_simp
        exact hK.out _ _ ⟨b0, b1, b2, b3, true, b5, b6, b7, v5, v6, v7, v8, .int .i64 y, v10, v11, v4, rfl, (by simp only [Act.put, List.setIfInBounds_toArray, List.set_cons_zero, List.set_cons_succ]), hB, h0, h1, h2, h3, Lib.hid (fun _ => rfl), h5, h6, h7⟩
      · -- operation 5
        replace hK := Lib.hid hK
        obtain rfl := h3.out (by simp only [haf])
        obtain rfl := h4.out (by simp only [haf])
        subst hun
        go_simp
        exact hK.out _ _ ⟨b0, b1, b2, b3, b4, true, b6, b7, v5, v6, v7, .int .i64 x, .int .i64 y, .agg #[.int .i64 x, .int .i64 y], v11, v4, rfl, (by simp only [Act.put, List.setIfInBounds_toArray, List.set_cons_zero, List.set_cons_succ]), hB, h0, h1, h2, Lib.hid (fun _ => rfl), Lib.hid (fun _ => rfl), Lib.hid (fun _ => rfl), h6, h7⟩
      · -- operation 6
        replace hK := Lib.hid hK
        exact (h2.out (by simp only [haf])).elim
      · -- operation 7
        replace hK := Lib.hid hK
        obtain rfl := h6.out (by simp only [haf])
        subst hun
        go_simp
        exact hK.out _ _ ⟨b0, b1, b2, b3, b4, b5, b6, true, v5, v6, v7, v8, v9, v10, .int .i64 0, .int .i64 0, rfl, (by simp only [Act.put, List.setIfInBounds_toArray, List.set_cons_zero, List.set_cons_succ]), hB, h0, h1, h2, h3, h4, h5, Lib.hid (fun _ => rfl), Lib.hid (fun _ => rfl)⟩
    intro L A W hI hr
    obtain ⟨b0, b1, b2, b3, b4, b5, b6, b7, v5, v6, v7, v8, v9, v10, v11, v4, rfl, rfl, hB, h0, h1, h2, h3, h4, h5, h6, h7⟩ := hI
    have d0 := ready_done hr 0 _ rfl (by simp [Region.binds])
    have d1 := ready_done hr 1 _ rfl (by simp [Region.binds])
    have d3 := ready_done hr 3 _ rfl (by simp [Region.binds])
    have d4 := ready_done hr 4 _ rfl (by simp [Region.binds])
    simp at d0 d1 d3 d4
    subst d0 d1 d3 d4
    have d2 := ready_done hr 2 _ rfl (by simp [Region.binds])
    have d5 := ready_done hr 5 _ rfl (by simp [Region.binds])
    simp at d2 d5
    subst d2 d5
    exact (h2.out rfl).elim
  | true =>
    have ht2 : inB c 0 3 = true ∧ inB n 0 4 = true := by simpa using ht
    have CT : Hid (∀ W, Calls Tryd.prog 56 #[.int .i64 c, .int .i64 n] W (fun e w' => e = .returned (.agg #[.int .i64 c, .int .i64 n]) ∧ Below W.heap.size W w')) := fun W => requiredTour_yes c n W ht2.1 ht2.2
    have CI : Hid (∀ W, Below w.heap.size w W → Calls Tryd.prog 57 #[.agg #[.int .i64 c, .int .i64 n], .agg #[.int .i64 x, .int .i64 y]] W (fun e w' => (∃ T x, e = .panicked [{ v := .iface T x, recovered := false }]) ∧ Below W.heap.size W w')) := fun W hb => by
      have hc := inB_le ht2.1
      have hn := inB_le ht2.2
      obtain ⟨c', rfl⟩ : ∃ k : Nat, c = k := ⟨c.toNat, by omega⟩
      obtain ⟨n', rfl⟩ : ∃ k : Nat, n = k := ⟨n.toNat, by omega⟩
      refine requiredIndex_no c' n' x y W (by omega) ?_ (hr.below hb)
      unfold ixOk at hok
      rw [ht, Bool.true_and] at hok
      have e : hasB (sd (n' : Int)) (sd (n' : Int)) x y = (inB x 0 (sd (n' : Int) - 1) && inB y 0 (sd (n' : Int) - 1)) := by
        rw [Bool.eq_iff_iff]
        unfold hasB inB
        simp only [Bool.and_eq_true, decide_eq_true_eq]
        omega
      rw [e]
      exact hok
    clear h hr hok ht ht2
    unfold IxAt at HX
    go_enter Tryd.func55, Tryd.ntmps55
    go_upto_region 1 with fail
    refine wp_region_inv_at (by kernel_rfl) (fun A0 L A W => ∃ (b0 b1 b2 b3 b4 b5 b6 b7 : Bool) (v5 v6 v7 v8 v9 v10 v11 v4 : Value), L = #[b0, b1, b2, b3, b4, b5, b6, b7] ∧ A = ((((((((A0.put (some 5) v5).put (some 6) v6).put (some 7) v7).put (some 8) v8).put (some 9) v9).put (some 10) v10).put (some 11) v11).put (some 4) v4) ∧ (Below w.heap.size w W) ∧ Hid (b0 = true → v5 = .int .i64 c) ∧ Hid (b1 = true → v6 = .int .i64 n) ∧ Hid (b2 = true → v7 = .agg #[.int .i64 c, .int .i64 n]) ∧ Hid (b3 = true → v8 = .int .i64 x) ∧ Hid (b4 = true → v9 = .int .i64 y) ∧ Hid (b5 = true → v10 = .agg #[.int .i64 x, .int .i64 y]) ∧ Hid (b6 = true → False) ∧ Hid (b7 = true → v4 = .int .i64 0)) ?_ ?_ ?_
    · intro A0
      refine ⟨false, false, false, false, false, false, false, false, A0.tmps.getD 5 undef, A0.tmps.getD 6 undef, A0.tmps.getD 7 undef, A0.tmps.getD 8 undef, A0.tmps.getD 9 undef, A0.tmps.getD 10 undef, A0.tmps.getD 11 undef, A0.tmps.getD 4 undef, rfl, (by simp only [put_self]), (Below.refl _ _).drew, Lib.hid (fun hf => by cases hf), Lib.hid (fun hf => by cases hf), Lib.hid (fun hf => by cases hf), Lib.hid (fun hf => by cases hf), Lib.hid (fun hf => by cases hf), Lib.hid (fun hf => by cases hf), Lib.hid (fun hf => by cases hf), Lib.hid (fun hf => by cases hf)⟩
    · intro L A W hI i hi o ho K' hK
      have hlt := (ready_left hi).1
      have hun := (ready_left hi).2
      have haf := ready_after hi ho
      clear hi
      obtain ⟨b0, b1, b2, b3, b4, b5, b6, b7, v5, v6, v7, v8, v9, v10, v11, v4, rfl, rfl, hB, h0, h1, h2, h3, h4, h5, h6, h7⟩ := hI
      have hc : i = 0 ∨ i = 1 ∨ i = 2 ∨ i = 3 ∨ i = 4 ∨ i = 5 ∨ i = 6 ∨ i = 7 := by
        simp at hlt
        omega
      have qq := HX.out W hB
      obtain ⟨q0, q1, q2, q3⟩ := qq
      rcases hc with rfl | rfl | rfl | rfl | rfl | rfl | rfl | rfl
      all_goals (obtain rfl := Option.some.inj ho; clear ho; simp [Region.binds] at haf hun; (try simp only [List.getElem_toArray, List.getElem_cons_zero, List.getElem_cons_succ]); simp only [Act.put, List.setIfInBounds_toArray, List.set_cons_zero, List.set_cons_succ])
      · -- operation 0
        replace hK := Lib.hid hK
        subst hun
        go_simp
        exact hK.out _ _ ⟨true, b1, b2, b3, b4, b5, b6, b7, .int .i64 c, v6, v7, v8, v9, v10, v11, v4, rfl, (by simp only [Act.put, List.setIfInBounds_toArray, List.set_cons_zero, List.set_cons_succ]), hB, Lib.hid (fun _ => rfl), h1, h2, h3, h4, h5, h6, h7⟩
      · -- operation 1
        replace hK := Lib.hid hK
        subst hun
        go_simp
        exact hK.out _ _ ⟨b0, true, b2, b3, b4, b5, b6, b7, v5, .int .i64 n, v7, v8, v9, v10, v11, v4, rfl, (by simp only [Act.put, List.setIfInBounds_toArray, List.set_cons_zero, List.set_cons_succ]), hB, h0, Lib.hid (fun _ => rfl), h2, h3, h4, h5, h6, h7⟩
      · -- operation 2
        replace hK := Lib.hid hK
        obtain rfl := h0.out (by simp only [haf])
        obtain rfl := h1.out (by simp only [haf])
        subst hun
        go_simp
        refine (CT.out W).mono ?_
        rintro e W' ⟨rfl, hb⟩
        have hkept := fun kb (hk : kb < W.heap.size) => hb.block kb hk
        exact hK.out _ _ ⟨b0, b1, true, b3, b4, b5, b6, b7, .int .i64 c, .int .i64 n, .agg #[.int .i64 c, .int .i64 n], v8, v9, v10, v11, v4, rfl, (by simp only [Act.put, List.setIfInBounds_toArray, List.set_cons_zero, List.set_cons_succ]), hB.trans (hb.mono hB.size), Lib.hid (fun _ => rfl), Lib.hid (fun _ => rfl), Lib.hid (fun _ => rfl), h3, h4, h5, h6, h7⟩
      · -- operation 3
        replace hK := Lib.hid hK
        subst hun
        go_simp
        exact hK.out _ _ ⟨b0, b1, b2, true, b4, b5, b6, b7, v5, v6, v7, .int .i64 x, v9, v10, v11, v4, rfl, (by simp only [Act.put, List.setIfInBounds_toArray, List.set_cons_zero, List.set_cons_succ]), hB, h0, h1, h2, Lib.hid (fun _ => rfl), h4, h5, h6, h7⟩
      · -- operation 4
        replace hK := Lib.hid hK
        subst hun
        go_simp
        exact hK.out _ _ ⟨b0, b1, b2, b3, true, b5, b6, b7, v5, v6, v7, v8, .int .i64 y, v10, v11, v4, rfl, (by simp only [Act.put, List.setIfInBounds_toArray, List.set_cons_zero, List.set_cons_succ]), hB, h0, h1, h2, h3, Lib.hid (fun _ => rfl), h5, h6, h7⟩
      · -- operation 5
        replace hK := Lib.hid hK
        obtain rfl := h3.out (by simp only [haf])
        obtain rfl := h4.out (by simp only [haf])
        subst hun
        go_simp
        exact hK.out _ _ ⟨b0, b1, b2, b3, b4, true, b6, b7, v5, v6, v7, .int .i64 x, .int .i64 y, .agg #[.int .i64 x, .int .i64 y], v11, v4, rfl, (by simp only [Act.put, List.setIfInBounds_toArray, List.set_cons_zero, List.set_cons_succ]), hB, h0, h1, h2, Lib.hid (fun _ => rfl), Lib.hid (fun _ => rfl), Lib.hid (fun _ => rfl), h6, h7⟩
      · -- operation 6
        replace hK := Lib.hid hK
        obtain rfl := h2.out (by simp only [haf])
        obtain rfl := h5.out (by simp only [haf])
        subst hun
        go_simp
        refine (CI.out W hB).mono ?_
        rintro e W' ⟨⟨T, p, rfl⟩, hb⟩
        go_wp2
        exact ⟨rfl, ⟨T, p, rfl⟩, hB.trans (hb.mono hB.size)⟩
      · -- operation 7
        replace hK := Lib.hid hK
        exact (h6.out (by simp only [haf])).elim
    intro L A W hI hr
    obtain ⟨b0, b1, b2, b3, b4, b5, b6, b7, v5, v6, v7, v8, v9, v10, v11, v4, rfl, rfl, hB, h0, h1, h2, h3, h4, h5, h6, h7⟩ := hI
    have d0 := ready_done hr 0 _ rfl (by simp [Region.binds])
    have d1 := ready_done hr 1 _ rfl (by simp [Region.binds])
    have d3 := ready_done hr 3 _ rfl (by simp [Region.binds])
    have d4 := ready_done hr 4 _ rfl (by simp [Region.binds])
    simp at d0 d1 d3 d4
    subst d0 d1 d3 d4
    have d2 := ready_done hr 2 _ rfl (by simp [Region.binds])
    have d5 := ready_done hr 5 _ rfl (by simp [Region.binds])
    simp at d2 d5
    subst d2 d5
    have d6 := ready_done hr 6 _ rfl (by simp [Region.binds])
    simp at d6
    subst d6
    exact (h6.out rfl).elim

theorem call_Index1 : ∀ args (W : World), (callFunc 55 args).run Tryd.prog W = .ok (.enter 55 args) W := by
  intro args W
  first | (go_simp; done) | (simp [callFunc, go_sem]; done) | kernel_rfl

set_option maxHeartbeats 4000000 in
set_option maxRecDepth 100000 in
theorem impl_IndexOf (c n x y : Int) (w : World) (hn : NoRes w) (hQ : QvP w) :
    Calls Tryd.prog 14 #[.int .i64 c, .int .i64 n, .int .i64 x, .int .i64 y] w (SaysIOk (ixV c n x y) (ixOk c n x y) w) := by
  obtain ⟨W0, hW0⟩ : ∃ W0, ((((w.alloc (.cells #[.int .i64 c] 2)).alloc (.cells #[.int .i64 n] 2)).alloc (.cells #[.int .i64 x] 2)).alloc (.cells #[.int .i64 y] 2)) = W0 := ⟨_, rfl⟩
  have b0 : Below w.heap.size w W0 := by rw [← hW0]; exact (Joins.below_alloc3 w _ _ _).alloc (by first | (simp; done) | (simp; omega)) _
  have hs0 : W0.heap.size = w.heap.size + 1 + 1 + 1 + 1 := by rw [← hW0]; simp
  have h0 : W0.heap[w.heap.size]? = some (.cells #[.int .i64 c] 2 (0, 0)) := by
    rw [← hW0, Below.heap_alloc _ _ _ (by first | (simp; done) | (simp; omega)), Below.heap_alloc _ _ _ (by first | (simp; done) | (simp; omega)), Below.heap_alloc _ _ _ (by simp)]; exact heap_alloc_last w _
  have h1 : W0.heap[w.heap.size + 1]? = some (.cells #[.int .i64 n] 2 (0, 0)) := by
    rw [← hW0, Below.heap_alloc _ _ _ (by first | (simp; done) | (simp; omega)), Below.heap_alloc _ _ _ (by simp)]
    exact heap_alloc2_new _ _ _
  have h2 : W0.heap[w.heap.size + 1 + 1]? = some (.cells #[.int .i64 x] 2 (0, 0)) := by
    rw [← hW0, Below.heap_alloc _ _ _ (by simp)]
    have := heap_alloc_last ((w.alloc (.cells #[.int .i64 c] 2)).alloc (.cells #[.int .i64 n] 2)) (.cells #[.int .i64 x] 2)
    simpa only [World.size_alloc] using this
  have h3 : W0.heap[w.heap.size + 1 + 1 + 1]? = some (.cells #[.int .i64 y] 2 (0, 0)) := by
    rw [← hW0]
    have := heap_alloc_last (((w.alloc (.cells #[.int .i64 c] 2)).alloc (.cells #[.int .i64 n] 2)).alloc (.cells #[.int .i64 x] 2)) (.cells #[.int .i64 y] 2)
    simpa only [World.size_alloc] using this
  have HF : IxAt W0 w.heap.size (w.heap.size + 1) (w.heap.size + 1 + 1) (w.heap.size + 1 + 1 + 1) c n x y := ⟨cell_of_one h0, cell_of_one h1, cell_of_one h2, cell_of_one h3⟩
  have hmf : ∀ (fn : Fn) (first cap : Array Value) (w : World), (Instr.makeFunc fn first cap).run Tryd.prog w = .ok (.func fn first cap) w := fun _ _ _ _ => rfl
  have B0 := Lib.hid b0
  have HW := Lib.hid hW0
  cases hok : ixOk c n x y with
  | true =>
    have C := Lib.hid (attemptI_yes 55 #[.pointer (some ⟨w.heap.size, 0, none⟩), .pointer (some ⟨w.heap.size + 1, 0, none⟩), .pointer (some ⟨w.heap.size + 1 + 1, 0, none⟩), .pointer (some ⟨w.heap.size + 1 + 1 + 1, 0, none⟩)] W0 (fun u W w' => u = .int .i64 (ixV c n x y)) call_Index1 (fun W hb => (index1_yes w.heap.size (w.heap.size + 1) (w.heap.size + 1 + 1) (w.heap.size + 1 + 1 + 1) c n x y W (HF.kept hb) ((hQ.below b0).below hb) hok).mono (fun e w' ⟨he, hb⟩ => ⟨_, he, rfl, hb⟩)))
    obtain ⟨d, hd⟩ : ∃ d, ixV c n x y = d := ⟨_, rfl⟩
    rw [hd] at C ⊢
    clear hn hQ hd hok HF b0 hs0 h0 h1 h2 h3 hW0
    go_enter Tryd.func14, Tryd.ntmps14
    go_upto_region 1 with fail
    rw [HW.out]
    go_wp2_with fail
    refine C.out.mono ?_
    rintro e w1 ⟨r, w2, rfl, hQ, hb, rfl, r1, r2⟩
    obtain rfl : r = d := by injection hQ
    have hs := B0.out.size
    have HB := Lib.hid (((B0.out.trans (hb.mono hs)).setCell (p := ⟨W0.heap.size, 0, none⟩) hs (.int .i64 r)).setCell (p := ⟨W0.heap.size + 1, 0, none⟩) (by show w.heap.size ≤ W0.heap.size + 1; omega) (.bool true))
    clear hQ hb r1 r2
    go_wp2_with fail
    go_ret2
    exact ⟨rfl, HB.out⟩
  | false =>
    have C := Lib.hid (attemptI_no 55 #[.pointer (some ⟨w.heap.size, 0, none⟩), .pointer (some ⟨w.heap.size + 1, 0, none⟩), .pointer (some ⟨w.heap.size + 1 + 1, 0, none⟩), .pointer (some ⟨w.heap.size + 1 + 1 + 1, 0, none⟩)] W0 call_Index1 (fun W hb => index1_no w.heap.size (w.heap.size + 1) (w.heap.size + 1 + 1) (w.heap.size + 1 + 1 + 1) c n x y W (HF.kept hb) ((hn.below b0).below hb) hok))
    have HV : Hid (ixV c n x y = 0) := by show _ = _; unfold ixV; rw [if_neg (by rw [hok]; decide)]
    rw [HV.out]
    clear hn hQ hok HF b0 hs0 h0 h1 h2 h3 hW0 HV
    go_enter Tryd.func14, Tryd.ntmps14
    go_upto_region 1 with fail
    rw [HW.out]
    go_wp2_with fail
    refine C.out.mono ?_
    rintro e w1 ⟨rfl, hb⟩
    have HB := Lib.hid (B0.out.trans (hb.mono B0.out.size))
    clear hb
    go_wp2_with fail
    go_ret2
    exact ⟨rfl, HB.out⟩
end Go.Proofs.YtdeagfmldpociaaDoor
