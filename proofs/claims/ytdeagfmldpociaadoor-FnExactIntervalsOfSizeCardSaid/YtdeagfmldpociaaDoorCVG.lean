/- Contracts of single functions, and plain lemmas, on which the exact laws of this seat rest; each holds under the conditions that it states. -/
import Derived.Test.YtdeagfmldpociaaDoorCVD
import Derived.Test.YtdeagfmldpociaaDoorD1
import Derived.Test.YtdeagfmldpociaaDoorRI
namespace Go.Proofs.YtdeagfmldpociaaDoor
set_option linter.unusedVariables false
set_option linter.unusedSimpArgs false
open Go.RowKit
attribute [local go_sem] Oper.semAt_some

theorem cvL_small (c n : Nat) (hn : n ≤ 4) : ∀ k, k ≤ 2 ^ n * 2 ^ n → ∀ p ∈ cvL c n k, Small p.1 ∧ Small p.2
  | 0, _, p, hp => by
    have := (List.mem_replicate.1 hp).2
    subst this
    unfold Small
    decide
  | k + 1, hk, p, hp => by
    have h16 := pow_le16 hn
    have h1 : 1 ≤ 2 ^ n := Nat.one_le_two_pow
    rcases List.mem_or_eq_of_mem_set hp with h | h
    · exact cvL_small c n hn k (by omega) p h
    · subst h
      have d1 : k % 2 ^ n < 2 ^ n := Nat.mod_lt _ h1
      have d2 : k / 2 ^ n < 2 ^ n := Nat.div_lt_of_lt_mul (by omega)
      revert d1 d2
      generalize k % 2 ^ n = u
      generalize k / 2 ^ n = v
      intro d1 d2
      exact ⟨⟨by show (-40 : Int) ≤ (u : Int); omega, by show (u : Int) ≤ 40; omega⟩, by show (-40 : Int) ≤ (v : Int); omega, by show (v : Int) ≤ 40; omega⟩
theorem cvF_small (c n : Nat) (hn : n ≤ 4) (i : Nat) : Small ((cvF c n).getD i (0, 0)).1 ∧ Small ((cvF c n).getD i (0, 0)).2 := by
  rw [List.getD_eq_getElem?_getD]
  cases h : (cvF c n)[i]? with
  | none => exact ⟨⟨by decide, by decide⟩, by decide, by decide⟩
  | some p => exact cvL_small c n hn _ (Nat.le_refl _) p (List.mem_of_getElem? h)
/-- how far it is from a spot to the next one -/
def jmp (L : List (Int × Int)) (k : Nat) : Int := farI 0 (L.getD k (0, 0)).1 (L.getD k (0, 0)).2 (L.getD (k + 1) (0, 0)).1 (L.getD (k + 1) (0, 0)).2
def mxJ (L : List (Int × Int)) : Nat → Int
  | 0 => 0
  | k + 1 => max (mxJ L k) (jmp L k)
def ljV (c n : Int) : Int := if (inB c 0 3 && inB n 0 4) = true then mxJ (cvF c.toNat n.toNat) ((cvF c.toNat n.toNat).length - 1) else 0

set_option maxHeartbeats 1000000 in
theorem l08Jump_any (ax ay bx b_y : Int) (w : World) (h1 : Small ax) (h2 : Small ay) (h3 : Small bx) (h4 : Small b_y) : Calls Tryd.prog 65 #[.agg #[.int .i64 ax, .int .i64 ay], .agg #[.int .i64 bx, .int .i64 b_y]] w (fun e w' => e = .returned (.int .i64 (farI 0 ax ay bx b_y)) ∧ Below w.heap.size w w') := by
  obtain ⟨W0, hW0⟩ : ∃ W0, ((w.alloc (.cells #[.int .i64 ax, .int .i64 ay] 26)).alloc (.cells #[.int .i64 bx, .int .i64 b_y] 26)) = W0 := ⟨_, rfl⟩
  have b0 : Below w.heap.size w W0 := by rw [← hW0]; exact Joins.below_alloc2 _ _ _
  have hp0 : W0.heap[w.heap.size]? = some (.cells #[.int .i64 ax, .int .i64 ay] 26 (0, 0)) := by
    rw [← hW0, Below.heap_alloc _ _ _ (by simp)]; exact heap_alloc_last w _
  have hr0 : W0.heap[w.heap.size + 1]? = some (.cells #[.int .i64 bx, .int .i64 b_y] 26 (0, 0)) := by
    rw [← hW0]
    exact heap_alloc2_new _ _ _
  have c0 : W0.cell? ⟨w.heap.size, 0, none⟩ = some (.int .i64 ax) := by rw [Joins.cell_of_block hp0 0]; rfl
  have c1 : W0.cell? ⟨w.heap.size, 1, none⟩ = some (.int .i64 ay) := by rw [Joins.cell_of_block hp0 1]; rfl
  have d0 : W0.cell? ⟨w.heap.size + 1, 0, none⟩ = some (.int .i64 bx) := by rw [Joins.cell_of_block hr0 0]; rfl
  have d1 : W0.cell? ⟨w.heap.size + 1, 1, none⟩ = some (.int .i64 b_y) := by rw [Joins.cell_of_block hr0 1]; rfl
  have B0 := Lib.hid b0
  have HW := Lib.hid hW0
  have CF := Lib.hid (fun W => l06Far_any 0 ax ay bx b_y W h1 h2 h3 h4)
  obtain ⟨z, hz⟩ : ∃ z, farI 0 ax ay bx b_y = z := ⟨_, rfl⟩
  rw [hz] at CF ⊢
  clear b0 hW0 hp0 hr0 hz h1 h2 h3 h4
  go_enter Tryd.func65, Tryd.ntmps65
  go_upto_region 1 with fail
  rw [HW.out]
  go_wp2_with fail
  refine (CF.out _).mono ?_
  rintro e w' ⟨rfl, rfl⟩
  go_wp2
  go_ret
  exact ⟨rfl, B0.out⟩

set_option maxHeartbeats 4000000 in
set_option maxRecDepth 100000 in
theorem spec_LongestJump (c n : Int) (w : World) : Calls Tryd.prog 18 #[.int .i64 c, .int .i64 n] w (SaysIOk (ljV c n) (inB c 0 3 && inB n 0 4) w) := by
  have CA := Lib.hid (fun W => l08Ask_any c n W)
  cases ha : (inB c 0 3 && inB n 0 4) with
  | false =>
    rw [ha] at CA
    have e1 : ljV c n = 0 := by unfold ljV; rw [if_neg (by rw [ha]; decide)]
    rw [e1]
    clear ha e1
    go_enter Tryd.func18, Tryd.ntmps18
    go_wp2_with fail
    refine (CA.out _).mono ?_
    rintro e w' ⟨rfl, rfl⟩
    go_wp2_with fail
    go_ret2
    exact ⟨rfl, Below.refl _ _⟩
  | true =>
    rw [ha] at CA
    have e1 : ljV c n = mxJ (cvF c.toNat n.toNat) ((cvF c.toNat n.toNat).length - 1) := by unfold ljV; rw [if_pos ha]
    rw [e1]
    obtain ⟨c', n', rfl, rfl, hc4, hn4⟩ := tour_nat ha
    simp only [Int.toNat_natCast]
    have CX := Lib.hid (fun W => l08Spots_any c' n' W hc4 hn4)
    have HSm := Lib.hid (cvF_small c' n' hn4)
    have hlen := cvF_len c' n'
    have h1 : 1 ≤ 2 ^ n' * 2 ^ n' := Nat.mul_le_mul (Nat.one_le_two_pow) (Nat.one_le_two_pow)
    have h256 : 2 ^ n' * 2 ^ n' ≤ 256 := Nat.mul_le_mul (pow_le16 hn4) (pow_le16 hn4)
    have CM := Lib.hid (fun (a b : Int) W => l00Max_any a b W)
    obtain ⟨L, hL⟩ : ∃ L, cvF c' n' = L := ⟨_, rfl⟩
    rw [hL] at CX HSm hlen ⊢
    have HMx : Hid (∀ k, mxJ L (k + 1) = max (mxJ L k) (jmp L k)) := fun _ => rfl
    have HM0 : Hid (mxJ L 0 = 0) := rfl
    have HJ : Hid (∀ k W, Calls Tryd.prog 65 #[.agg #[.int .i64 (L.getD k (0, 0)).1, .int .i64 (L.getD k (0, 0)).2], .agg #[.int .i64 (L.getD (k + 1) (0, 0)).1, .int .i64 (L.getD (k + 1) (0, 0)).2]] W (fun e w' => e = .returned (.int .i64 (jmp L k)) ∧ Below W.heap.size W w')) := fun k W => l08Jump_any _ _ _ _ W (HSm.out k).1 (HSm.out k).2 (HSm.out (k + 1)).1 (HSm.out (k + 1)).2
    unfold TookSpots at CX
    obtain ⟨N, hN⟩ : ∃ N, L.length = N := ⟨_, rfl⟩
    rw [hN] at CX hlen ⊢
    have HNl := Lib.hid hN
    have N1 : 1 ≤ N := by omega
    have N256 : N ≤ 256 := by omega
    clear ha e1 hc4 hn4 hL hN hlen h1 h256
    go_enter Tryd.func18, Tryd.ntmps18
    go_wp2_with fail
    refine (CA.out _).mono ?_
    rintro e w' ⟨rfl, rfl⟩
    go_wp2_with fail
    refine (CX.out _).mono ?_
    rintro e w1 ⟨g, cap, rfl, hown, hb1⟩
    have sp := OwnS.spots hown
    have HSp : Hid (∀ k W, k < N → Below w1.heap.size w1 W → W.cell? ⟨g, k * 2, none⟩ = some (.int .i64 (L.getD k (0, 0)).1) ∧ W.cell? ⟨g, k * 2 + 1, none⟩ = some (.int .i64 (L.getD k (0, 0)).2)) := fun k W hk hb => ⟨cell_kept hb (sp.2 k (by rw [HNl.out]; exact hk)).1, cell_kept hb (sp.2 k (by rw [HNl.out]; exact hk)).2⟩
    have HB1 := Lib.hid hb1
    clear hown sp hb1
    go_wp2_with fail
    go_loopw [7, 8] (fun mv iv wr => ∃ i : Nat, 1 ≤ i ∧ i ≤ N ∧ iv = .int .i64 (i : Int) ∧ mv = .int .i64 (mxJ L (i - 1)) ∧ Hid (Below w1.heap.size w1 wr)) (fun _ iv _ => N - (intOf iv).toNat)
    case atStart => exact ⟨1, by omega, N1, rfl, by rw [HM0.out], Lib.hid (Below.refl _ _)⟩
    case round =>
      obtain ⟨i, hi1, hiN, rfl, rfl, HB⟩ := hrel
      by_cases hlt : i < N
      · obtain ⟨j, hj⟩ : ∃ j, i - 1 = j := ⟨_, rfl⟩
        have hij : i = j + 1 := by omega
        have ki : (i : Int) < (N : Int) := by omega
        have ki0 : (0 : Int) ≤ (i : Int) := by omega
        have kj : (j : Int) < (N : Int) := by omega
        have kj0 : (0 : Int) ≤ (j : Int) := by omega
        have kw : IntKind.i64.wrap ((i : Int) - 1) = (j : Int) := by rw [show (i : Int) - 1 = (j : Int) from by omega]; exact IntWalk.i64_in _ (by omega)
        have CJ := Lib.hid (HJ.out j)
        rw [← hij] at CJ
        have HMn := Lib.hid (HMx.out j)
        rw [← hij] at HMn
        have s1 := fun W hb => HSp.out j W (by omega) hb
        have s2 := fun W hb => HSp.out i W hlt hb
        rw [hj]
        obtain ⟨ax, ha1⟩ : ∃ z, (L.getD j (0, 0)).1 = z := ⟨_, rfl⟩
        obtain ⟨ay, ha2⟩ : ∃ z, (L.getD j (0, 0)).2 = z := ⟨_, rfl⟩
        obtain ⟨bx, hb1⟩ : ∃ z, (L.getD i (0, 0)).1 = z := ⟨_, rfl⟩
        obtain ⟨b_y, hb2⟩ : ∃ z, (L.getD i (0, 0)).2 = z := ⟨_, rfl⟩
        rw [ha1, ha2, hb1, hb2] at CJ
        have HC : Hid (∀ W, Below wr.heap.size wr W → W.cell? ⟨g, j * 2, none⟩ = some (.int .i64 ax) ∧ W.cell? ⟨g, j * 2 + 1, none⟩ = some (.int .i64 ay) ∧ W.cell? ⟨g, i * 2, none⟩ = some (.int .i64 bx) ∧ W.cell? ⟨g, i * 2 + 1, none⟩ = some (.int .i64 b_y)) := fun W hb => by
          have hb' := HB.out.trans (hb.mono HB.out.size)
          have t1 := s1 W hb'
          have t2 := s2 W hb'
          rw [ha1, ha2] at t1
          rw [hb1, hb2] at t2
          exact ⟨t1.1, t1.2, t2.1, t2.2⟩
        obtain ⟨m, hm⟩ : ∃ z, mxJ L j = z := ⟨_, rfl⟩
        obtain ⟨z, hz⟩ : ∃ z, jmp L j = z := ⟨_, rfl⟩
        rw [hm, hz] at HMn
        rw [hz] at CJ
        rw [hm]
        have Hij := Lib.hid hij
        clear s1 s2 ha1 ha2 hb1 hb2 hm hz hj hij
        go_upto_region 8 with fail
        refine wp_region_inv_at (by kernel_rfl) (fun A0 L A W => ∃ (b0 b1 b2 b3 b4 b5 b6 b7 b8 b9 b10 b11 b12 : Bool) (v22 v23 v24 v25 v26 v27 v28 v29 v30 v31 v32 v33 v7 : Value), L = #[b0, b1, b2, b3, b4, b5, b6, b7, b8, b9, b10, b11, b12] ∧ A = (((((((((((((A0.put (some 22) v22).put (some 23) v23).put (some 24) v24).put (some 25) v25).put (some 26) v26).put (some 27) v27).put (some 28) v28).put (some 29) v29).put (some 30) v30).put (some 31) v31).put (some 32) v32).put (some 33) v33).put (some 7) v7) ∧ (Below wr.heap.size wr W) ∧ Hid (b0 = true → v22 = .int .i64 m) ∧ Hid (b1 = true → v23 = .slice (some ⟨g, 0, none⟩) N cap) ∧ Hid (b2 = true → v24 = .int .i64 (i : Int)) ∧ Hid (b3 = true → v25 = .int .i64 (j : Int)) ∧ Hid (b4 = true → v26 = .pointer (some ⟨g, j * 2, none⟩)) ∧ Hid (b5 = true → v27 = .agg #[.int .i64 ax, .int .i64 ay]) ∧ Hid (b6 = true → v28 = .slice (some ⟨g, 0, none⟩) N cap) ∧ Hid (b7 = true → v29 = .int .i64 (i : Int)) ∧ Hid (b8 = true → v30 = .pointer (some ⟨g, i * 2, none⟩)) ∧ Hid (b9 = true → v31 = .agg #[.int .i64 bx, .int .i64 b_y]) ∧ Hid (b10 = true → v32 = .int .i64 z) ∧ Hid (b11 = true → v33 = .int .i64 (max m z)) ∧ Hid (b12 = true → v7 = .int .i64 (max m z)) ∧ Hid (b12 = false → v7 = A0.tmps.getD 7 undef) ∧ Hid (b0 = false → b12 = false)) ?_ ?_ ?_
        · intro A0
          refine ⟨false, false, false, false, false, false, false, false, false, false, false, false, false, A0.tmps.getD 22 undef, A0.tmps.getD 23 undef, A0.tmps.getD 24 undef, A0.tmps.getD 25 undef, A0.tmps.getD 26 undef, A0.tmps.getD 27 undef, A0.tmps.getD 28 undef, A0.tmps.getD 29 undef, A0.tmps.getD 30 undef, A0.tmps.getD 31 undef, A0.tmps.getD 32 undef, A0.tmps.getD 33 undef, A0.tmps.getD 7 undef, rfl, (by simp only [put_self]), (Below.refl _ _).drew, Lib.hid (fun hf => by cases hf), Lib.hid (fun hf => by cases hf), Lib.hid (fun hf => by cases hf), Lib.hid (fun hf => by cases hf), Lib.hid (fun hf => by cases hf), Lib.hid (fun hf => by cases hf), Lib.hid (fun hf => by cases hf), Lib.hid (fun hf => by cases hf), Lib.hid (fun hf => by cases hf), Lib.hid (fun hf => by cases hf), Lib.hid (fun hf => by cases hf), Lib.hid (fun hf => by cases hf), Lib.hid (fun hf => by cases hf), Lib.hid (fun _ => rfl), Lib.hid (fun _ => rfl)⟩
        · intro L A W hI i hi o ho K' hK
          have hlt := (ready_left hi).1
          have hun := (ready_left hi).2
          have haf := ready_after hi ho
          clear hi
          obtain ⟨b0, b1, b2, b3, b4, b5, b6, b7, b8, b9, b10, b11, b12, v22, v23, v24, v25, v26, v27, v28, v29, v30, v31, v32, v33, v7, rfl, rfl, hB, h0, h1, h2, h3, h4, h5, h6, h7, h8, h9, h10, h11, h12, r12, x0_12⟩ := hI
          have hc : i = 0 ∨ i = 1 ∨ i = 2 ∨ i = 3 ∨ i = 4 ∨ i = 5 ∨ i = 6 ∨ i = 7 ∨ i = 8 ∨ i = 9 ∨ i = 10 ∨ i = 11 ∨ i = 12 := by
            simp at hlt
            omega
          have qq := HC.out W hB
          obtain ⟨q0, q1, q2, q3⟩ := qq
          rcases hc with rfl | rfl | rfl | rfl | rfl | rfl | rfl | rfl | rfl | rfl | rfl | rfl | rfl
          all_goals (obtain rfl := Option.some.inj ho; clear ho; simp [Region.binds] at haf hun; (try simp only [List.getElem_toArray, List.getElem_cons_zero, List.getElem_cons_succ]); simp only [Act.put, List.setIfInBounds_toArray, List.set_cons_zero, List.set_cons_succ])
          · -- operation 0
            replace hK := Lib.hid hK
            have hrd : .int .i64 m = v7 := (r12.out (x0_12.out hun)).symm
            subst hrd
            subst hun
            go_simp
            exact hK.out _ _ ⟨true, b1, b2, b3, b4, b5, b6, b7, b8, b9, b10, b11, b12, .int .i64 m, v23, v24, v25, v26, v27, v28, v29, v30, v31, v32, v33, .int .i64 m, rfl, (by simp only [Act.put, List.setIfInBounds_toArray, List.set_cons_zero, List.set_cons_succ]), hB, Lib.hid (fun _ => rfl), h1, h2, h3, h4, h5, h6, h7, h8, h9, h10, h11, h12, r12, Lib.hid (fun hf => by cases hf)⟩
          · -- operation 1
            replace hK := Lib.hid hK
            subst hun
            go_simp
            exact hK.out _ _ ⟨b0, true, b2, b3, b4, b5, b6, b7, b8, b9, b10, b11, b12, v22, .slice (some ⟨g, 0, none⟩) N cap, v24, v25, v26, v27, v28, v29, v30, v31, v32, v33, v7, rfl, (by simp only [Act.put, List.setIfInBounds_toArray, List.set_cons_zero, List.set_cons_succ]), hB, h0, Lib.hid (fun _ => rfl), h2, h3, h4, h5, h6, h7, h8, h9, h10, h11, h12, r12, x0_12⟩
          · -- operation 2
            replace hK := Lib.hid hK
            subst hun
            go_simp
            exact hK.out _ _ ⟨b0, b1, true, b3, b4, b5, b6, b7, b8, b9, b10, b11, b12, v22, v23, .int .i64 (i : Int), v25, v26, v27, v28, v29, v30, v31, v32, v33, v7, rfl, (by simp only [Act.put, List.setIfInBounds_toArray, List.set_cons_zero, List.set_cons_succ]), hB, h0, h1, Lib.hid (fun _ => rfl), h3, h4, h5, h6, h7, h8, h9, h10, h11, h12, r12, x0_12⟩
          · -- operation 3
            replace hK := Lib.hid hK
            obtain rfl := (h2.out (by simp only [haf])).symm
            subst hun
            go_simp
            exact hK.out _ _ ⟨b0, b1, b2, true, b4, b5, b6, b7, b8, b9, b10, b11, b12, v22, v23, .int .i64 (i : Int), .int .i64 (j : Int), v26, v27, v28, v29, v30, v31, v32, v33, v7, rfl, (by simp only [Act.put, List.setIfInBounds_toArray, List.set_cons_zero, List.set_cons_succ]), hB, h0, h1, Lib.hid (fun _ => rfl), Lib.hid (fun _ => rfl), h4, h5, h6, h7, h8, h9, h10, h11, h12, r12, x0_12⟩
          · -- operation 4
            replace hK := Lib.hid hK
            obtain rfl := (h1.out (by simp only [haf])).symm
            obtain rfl := (h3.out (by simp only [haf])).symm
            subst hun
            go_simp
            exact hK.out _ _ ⟨b0, b1, b2, b3, true, b5, b6, b7, b8, b9, b10, b11, b12, v22, .slice (some ⟨g, 0, none⟩) N cap, v24, .int .i64 (j : Int), .pointer (some ⟨g, j * 2, none⟩), v27, v28, v29, v30, v31, v32, v33, v7, rfl, (by simp only [Act.put, List.setIfInBounds_toArray, List.set_cons_zero, List.set_cons_succ]), hB, h0, Lib.hid (fun _ => rfl), h2, Lib.hid (fun _ => rfl), Lib.hid (fun _ => rfl), h5, h6, h7, h8, h9, h10, h11, h12, r12, x0_12⟩
          · -- operation 5
            replace hK := Lib.hid hK
            obtain rfl := (h4.out (by simp only [haf])).symm
            subst hun
            go_simp
            exact hK.out _ _ ⟨b0, b1, b2, b3, b4, true, b6, b7, b8, b9, b10, b11, b12, v22, v23, v24, v25, .pointer (some ⟨g, j * 2, none⟩), .agg #[.int .i64 ax, .int .i64 ay], v28, v29, v30, v31, v32, v33, v7, rfl, (by simp only [Act.put, List.setIfInBounds_toArray, List.set_cons_zero, List.set_cons_succ]), hB, h0, h1, h2, h3, Lib.hid (fun _ => rfl), Lib.hid (fun _ => rfl), h6, h7, h8, h9, h10, h11, h12, r12, x0_12⟩
          · -- operation 6
            replace hK := Lib.hid hK
            subst hun
            go_simp
            exact hK.out _ _ ⟨b0, b1, b2, b3, b4, b5, true, b7, b8, b9, b10, b11, b12, v22, v23, v24, v25, v26, v27, .slice (some ⟨g, 0, none⟩) N cap, v29, v30, v31, v32, v33, v7, rfl, (by simp only [Act.put, List.setIfInBounds_toArray, List.set_cons_zero, List.set_cons_succ]), hB, h0, h1, h2, h3, h4, h5, Lib.hid (fun _ => rfl), h7, h8, h9, h10, h11, h12, r12, x0_12⟩
          · -- operation 7
            replace hK := Lib.hid hK
            subst hun
            go_simp
            exact hK.out _ _ ⟨b0, b1, b2, b3, b4, b5, b6, true, b8, b9, b10, b11, b12, v22, v23, v24, v25, v26, v27, v28, .int .i64 (i : Int), v30, v31, v32, v33, v7, rfl, (by simp only [Act.put, List.setIfInBounds_toArray, List.set_cons_zero, List.set_cons_succ]), hB, h0, h1, h2, h3, h4, h5, h6, Lib.hid (fun _ => rfl), h8, h9, h10, h11, h12, r12, x0_12⟩
          · -- operation 8
            replace hK := Lib.hid hK
            obtain rfl := (h6.out (by simp only [haf])).symm
            obtain rfl := (h7.out (by simp only [haf])).symm
            subst hun
            go_simp
            exact hK.out _ _ ⟨b0, b1, b2, b3, b4, b5, b6, b7, true, b9, b10, b11, b12, v22, v23, v24, v25, v26, v27, .slice (some ⟨g, 0, none⟩) N cap, .int .i64 (i : Int), .pointer (some ⟨g, i * 2, none⟩), v31, v32, v33, v7, rfl, (by simp only [Act.put, List.setIfInBounds_toArray, List.set_cons_zero, List.set_cons_succ]), hB, h0, h1, h2, h3, h4, h5, Lib.hid (fun _ => rfl), Lib.hid (fun _ => rfl), Lib.hid (fun _ => rfl), h9, h10, h11, h12, r12, x0_12⟩
          · -- operation 9
            replace hK := Lib.hid hK
            obtain rfl := (h8.out (by simp only [haf])).symm
            subst hun
            go_simp
            exact hK.out _ _ ⟨b0, b1, b2, b3, b4, b5, b6, b7, b8, true, b10, b11, b12, v22, v23, v24, v25, v26, v27, v28, v29, .pointer (some ⟨g, i * 2, none⟩), .agg #[.int .i64 bx, .int .i64 b_y], v32, v33, v7, rfl, (by simp only [Act.put, List.setIfInBounds_toArray, List.set_cons_zero, List.set_cons_succ]), hB, h0, h1, h2, h3, h4, h5, h6, h7, Lib.hid (fun _ => rfl), Lib.hid (fun _ => rfl), h10, h11, h12, r12, x0_12⟩
          · -- operation 10
            replace hK := Lib.hid hK
            obtain rfl := (h5.out (by simp only [haf])).symm
            obtain rfl := (h9.out (by simp only [haf])).symm
            subst hun
            go_simp
            refine (CJ.out W).mono ?_
            rintro e W' ⟨rfl, hb⟩
            have hkept := fun kb (hk : kb < W.heap.size) => hb.block kb hk
            exact hK.out _ _ ⟨b0, b1, b2, b3, b4, b5, b6, b7, b8, b9, true, b11, b12, v22, v23, v24, v25, v26, .agg #[.int .i64 ax, .int .i64 ay], v28, v29, v30, .agg #[.int .i64 bx, .int .i64 b_y], .int .i64 z, v33, v7, rfl, (by simp only [Act.put, List.setIfInBounds_toArray, List.set_cons_zero, List.set_cons_succ]), hB.trans (hb.mono hB.size), h0, h1, h2, h3, h4, Lib.hid (fun _ => rfl), h6, h7, h8, Lib.hid (fun _ => rfl), Lib.hid (fun _ => rfl), h11, h12, r12, x0_12⟩
          · -- operation 11
            replace hK := Lib.hid hK
            obtain rfl := (h0.out (by simp only [haf])).symm
            obtain rfl := (h10.out (by simp only [haf])).symm
            subst hun
            go_simp
            refine (CM.out m z W).mono ?_
            rintro e W' ⟨rfl, hb⟩
            replace hb : Below W.heap.size W W' := by rw [← hb]; exact Below.refl _ _
            have hkept := fun kb (hk : kb < W.heap.size) => hb.block kb hk
            exact hK.out _ _ ⟨b0, b1, b2, b3, b4, b5, b6, b7, b8, b9, b10, true, b12, .int .i64 m, v23, v24, v25, v26, v27, v28, v29, v30, v31, .int .i64 z, .int .i64 (max m z), v7, rfl, (by simp only [Act.put, List.setIfInBounds_toArray, List.set_cons_zero, List.set_cons_succ]), hB.trans (hb.mono hB.size), Lib.hid (fun _ => rfl), h1, h2, h3, h4, h5, h6, h7, h8, h9, Lib.hid (fun _ => rfl), Lib.hid (fun _ => rfl), h12, r12, x0_12⟩
          · -- operation 12
            replace hK := Lib.hid hK
            obtain rfl := (h11.out (by simp only [haf])).symm
            subst hun
            go_simp
            exact hK.out _ _ ⟨b0, b1, b2, b3, b4, b5, b6, b7, b8, b9, b10, b11, true, v22, v23, v24, v25, v26, v27, v28, v29, v30, v31, v32, .int .i64 (max m z), .int .i64 (max m z), rfl, (by simp only [Act.put, List.setIfInBounds_toArray, List.set_cons_zero, List.set_cons_succ]), hB, h0, h1, h2, h3, h4, h5, h6, h7, h8, h9, h10, Lib.hid (fun _ => rfl), Lib.hid (fun _ => rfl), Lib.hid (fun hf => by cases hf), Lib.hid (fun hf => absurd (show false = true from hf.symm.trans (by simp only [haf])) (by decide))⟩
        intro L A W hI hr
        obtain ⟨b0, b1, b2, b3, b4, b5, b6, b7, b8, b9, b10, b11, b12, v22, v23, v24, v25, v26, v27, v28, v29, v30, v31, v32, v33, v7, rfl, rfl, hB, h0, h1, h2, h3, h4, h5, h6, h7, h8, h9, h10, h11, h12, r12, x0_12⟩ := hI
        have d0 := ready_done hr 0 _ rfl (by simp [Region.binds])
        have d1 := ready_done hr 1 _ rfl (by simp [Region.binds])
        have d2 := ready_done hr 2 _ rfl (by simp [Region.binds])
        have d6 := ready_done hr 6 _ rfl (by simp [Region.binds])
        have d7 := ready_done hr 7 _ rfl (by simp [Region.binds])
        simp at d0 d1 d2 d6 d7
        subst d0 d1 d2 d6 d7
        have d3 := ready_done hr 3 _ rfl (by simp [Region.binds])
        have d8 := ready_done hr 8 _ rfl (by simp [Region.binds])
        simp at d3 d8
        subst d3 d8
        have d4 := ready_done hr 4 _ rfl (by simp [Region.binds])
        have d9 := ready_done hr 9 _ rfl (by simp [Region.binds])
        simp at d4 d9
        subst d4 d9
        have d5 := ready_done hr 5 _ rfl (by simp [Region.binds])
        simp at d5
        subst d5
        have d10 := ready_done hr 10 _ rfl (by simp [Region.binds])
        simp at d10
        subst d10
        have d11 := ready_done hr 11 _ rfl (by simp [Region.binds])
        simp at d11
        subst d11
        have d12 := ready_done hr 12 _ rfl (by simp [Region.binds])
        simp at d12
        subst d12
        obtain rfl := (h0.out rfl).symm
        obtain rfl := (h1.out rfl).symm
        obtain rfl := (h2.out rfl).symm
        obtain rfl := (h3.out rfl).symm
        obtain rfl := (h4.out rfl).symm
        obtain rfl := (h5.out rfl).symm
        obtain rfl := (h6.out rfl).symm
        obtain rfl := (h7.out rfl).symm
        obtain rfl := (h8.out rfl).symm
        obtain rfl := (h9.out rfl).symm
        obtain rfl := (h10.out rfl).symm
        obtain rfl := (h11.out rfl).symm
        obtain rfl := (h12.out rfl).symm
        simp only [Act.put, List.setIfInBounds_toArray, List.set_cons_zero, List.set_cons_succ]
        clear hr h0 h1 h2 h3 h4 h5 h6 h7 h8 h9 h10 h11 h12 r12 x0_12
        have HB2 := Lib.hid hB
        clear hB
        have HB3 := Lib.hid (HB.out.trans (HB2.out.mono HB.out.size))
        clear HB2 HC CJ
        go_wp2
        go_roundw
        case rel => exact ⟨i + 1, by omega, by omega, by go_num, by rw [show i + 1 - 1 = i from rfl, HMn.out], HB3.out⟩
        case measure => simp [intOf]; omega
      · obtain rfl : i = N := by omega
        have HB3 := Lib.hid (HB1.out.trans (HB.out.mono HB1.out.size))
        go_wp2_with fail
        go_ret2
        exact ⟨rfl, HB3.out⟩
end Go.Proofs.YtdeagfmldpociaaDoor
