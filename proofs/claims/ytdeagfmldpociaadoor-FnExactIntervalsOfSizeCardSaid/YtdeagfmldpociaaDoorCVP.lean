/- Contracts of single functions, and plain lemmas, on which the exact laws of this seat rest; each holds under the conditions that it states. -/
import Derived.Test.YtdeagfmldpociaaDoorCVO
namespace Go.Proofs.YtdeagfmldpociaaDoor
set_option linter.unusedVariables false
set_option linter.unusedSimpArgs false
open Go.RowKit
attribute [local go_sem] Oper.semAt_some

/-! ### the intervals, as the specification makes them -/
def ivL (f : Nat → Bool) : Nat → List (List Int)
  | 0 => []
  | k + 1 => if f k = true then (if 0 < k ∧ f (k - 1) = true then updP (ivL f k) (k : Int) else addP (ivL f k) (k : Int)) else ivL f k
theorem ivL_no {f : Nat → Bool} {k : Nat} (h : f k = false) : ivL f (k + 1) = ivL f k := by
  show (if f k = true then _ else ivL f k) = _
  rw [if_neg (by rw [h]; decide)]
theorem ivL_upd {f : Nat → Bool} {k : Nat} (h : f k = true) (h0 : 0 < k) (h1 : f (k - 1) = true) : ivL f (k + 1) = updP (ivL f k) (k : Int) := by
  show (if f k = true then (if 0 < k ∧ f (k - 1) = true then _ else _) else ivL f k) = _
  rw [if_pos h, if_pos ⟨h0, h1⟩]
theorem ivL_add {f : Nat → Bool} {k : Nat} (h : f k = true) (h1 : ¬ (0 < k ∧ f (k - 1) = true)) : ivL f (k + 1) = addP (ivL f k) (k : Int) := by
  show (if f k = true then (if 0 < k ∧ f (k - 1) = true then _ else _) else ivL f k) = _
  rw [if_pos h, if_neg h1]
theorem ivL_two (f : Nat → Bool) : ∀ k, TwoP (ivL f k)
  | 0 => fun i hi => absurd hi (Nat.not_lt_zero i)
  | k + 1 => by
    show TwoP (if f k = true then (if 0 < k ∧ f (k - 1) = true then _ else _) else ivL f k)
    split
    · split
      · exact two_upd (ivL_two f k) _
      · exact two_add (ivL_two f k) _
    · exact ivL_two f k
theorem ivL_len (f : Nat → Bool) : ∀ k, (ivL f k).length ≤ k
  | 0 => Nat.le_refl _
  | k + 1 => by
    have := ivL_len f k
    show List.length (if f k = true then (if 0 < k ∧ f (k - 1) = true then _ else _) else ivL f k) ≤ _
    split
    · split
      · rw [updP_len]; omega
      · rw [addP_len]; omega
    · omega
theorem ivL_pos {f : Nat → Bool} {k : Nat} (h : f k = true) : 0 < (ivL f (k + 1)).length := by
  show 0 < List.length (if f k = true then (if 0 < k ∧ f (k - 1) = true then _ else _) else ivL f k)
  rw [if_pos h]
  split
  · rename_i hh
    rw [updP_len]
    obtain ⟨j, rfl⟩ : ∃ j, k = j + 1 := ⟨k - 1, by omega⟩
    exact ivL_pos (by simpa using hh.2)
  · rw [addP_len]; omega
/-- parts of a longer list -/
theorem ptL_pre (ix : List Int) (x : Int) (gap : Int) : ∀ k, k ≤ ix.length → ptL (ix ++ [x]) gap k = ptL ix gap k
  | 0, _ => rfl
  | k + 1, hk => by
    have e1 : (ix ++ [x]).getD k 0 = ix.getD k 0 := by rw [List.getD_eq_getElem?_getD, List.getElem?_append_left (by omega), ← List.getD_eq_getElem?_getD]
    have e2 : (ix ++ [x]).getD (k - 1) 0 = ix.getD (k - 1) 0 := by rw [List.getD_eq_getElem?_getD, List.getElem?_append_left (by omega), ← List.getD_eq_getElem?_getD]
    rw [ptL_succ, ptL_succ, ptL_pre ix x gap k (by omega)]
    unfold ptN
    rw [e1, e2]
theorem ixsV_lt (f : Nat → Bool) (k i : Nat) (hi : i < (ixsV f k).length) : (ixsV f k).getD i 0 < (k : Int) := by
  obtain ⟨j, h1, h2, _⟩ := ixs_at hi
  rw [h1]
  omega
/-- both sides tell the same intervals -/
theorem iv_eq (f : Nat → Bool) : ∀ k, ptL (ixsV f k) 1 (ixsV f k).length = ivL f k
  | 0 => rfl
  | k + 1 => by
    have ih := iv_eq f k
    cases h : f k with
    | false => rw [ixsV_no h, ivL_no h, ih]
    | true =>
      have ex := ixsV_yes h
      have el : (ixsV f (k + 1)).length = (ixsV f k).length + 1 := by rw [ex]; simp
      rw [el, ex, ptL_succ, ptL_pre _ _ _ _ (Nat.le_refl _), ih]
      have e1 : (ixsV f k ++ [(k : Int)]).getD (ixsV f k).length 0 = (k : Int) := by simp [List.getD_eq_getElem?_getD]
      rw [e1]
      by_cases hu : 0 < k ∧ f (k - 1) = true
      · obtain ⟨j, rfl⟩ : ∃ j, k = j + 1 := ⟨k - 1, by omega⟩
        have hj : f j = true := by simpa using hu.2
        rw [ivL_upd h hu.1 hu.2]
        have ey := ixsV_yes hj
        have hn : ptN (ixsV f (j + 1) ++ [((j + 1 : Nat) : Int)]) 1 (ixsV f (j + 1)).length = false := by
          have hl : (ixsV f (j + 1)).length = (ixsV f j).length + 1 := by rw [ey]; simp
          have e3 : (ixsV f (j + 1) ++ [((j + 1 : Nat) : Int)]).getD ((ixsV f (j + 1)).length - 1) 0 = (j : Int) := by
            rw [hl, Nat.add_sub_cancel, ey]
            simp [List.getD_eq_getElem?_getD, List.getElem?_append]
          unfold ptN
          rw [e1, e3, decide_eq_false (by omega), decide_eq_false (by omega)]
          rfl
        rw [if_neg (by rw [hn]; decide)]
      · rw [ivL_add h hu]
        have hn : ptN (ixsV f k ++ [(k : Int)]) 1 (ixsV f k).length = true := by
          unfold ptN
          by_cases hz : (ixsV f k).length = 0
          · rw [decide_eq_true hz]; rfl
          · have hk0 : 0 < k := by
              rcases Nat.eq_zero_or_pos k with e | e
              · subst e; exact absurd rfl hz
              · exact e
            obtain ⟨j, rfl⟩ : ∃ j, k = j + 1 := ⟨k - 1, by omega⟩
            have hj : f j = false := by
              cases hh : f j with
              | false => rfl
              | true => exact absurd ⟨hk0, by simpa using hh⟩ hu
            have e4 : (ixsV f (j + 1) ++ [((j + 1 : Nat) : Int)]).getD ((ixsV f (j + 1)).length - 1) 0 = (ixsV f (j + 1)).getD ((ixsV f (j + 1)).length - 1) 0 := by
              rw [List.getD_eq_getElem?_getD, List.getElem?_append_left (by omega), ← List.getD_eq_getElem?_getD]
            have e5 : (ixsV f (j + 1)).getD ((ixsV f (j + 1)).length - 1) 0 < (j : Int) := by
              rw [ixsV_no hj] at hz ⊢
              exact ixsV_lt f j _ (by omega)
            rw [e1, e4, decide_eq_true (show (1 : Int) < ((j + 1 : Nat) : Int) - (ixsV f (j + 1)).getD ((ixsV f (j + 1)).length - 1) 0 by omega), Bool.or_true]
        rw [if_pos hn]

/-- rows of the call's own -/
def TookRR (xss : List (List Int)) (w : World) (e : Ending) (w' : World) : Prop := ∃ v us, e = .returned v ∧ OwnL w' w.heap.size w'.heap.size v us xss ∧ Below w.heap.size w w'
theorem OwnL.lit0 (w : World) (lo : Nat) (hlo : lo ≤ w.heap.size) : OwnL (w.alloc (.cells #[] 59)) lo (w.alloc (.cells #[] 59)).heap.size (.slice (some ⟨w.heap.size, 0, none⟩) 0 0) (fun _ => .slice none 0 0) [] :=
  ⟨World.ownsRow_lit (base := lo) (e := 59) (size := 1) w #[] 0 hlo (by unfold maxLen; omega) rfl, fun i h => absurd h (Nat.not_lt_zero i), fun i h => absurd h (Nat.not_lt_zero i), fun k e => by
    have : w.heap.size = k := by simpa [Value.ownBlock] using e
    simp
    omega, fun i j h => absurd h (Nat.not_lt_zero i)⟩

set_option maxHeartbeats 4000000 in
set_option maxRecDepth 100000 in
theorem l08Intervals_any (g cap : Nat) (ax ay bx b_y : Int) (L : List (Int × Int)) (w : World) (hS : Spots w g L) (h256 : L.length ≤ 256) :
    Calls Tryd.prog 73 #[.slice (some ⟨g, 0, none⟩) L.length cap, .agg #[.int .i64 ax, .int .i64 ay], .agg #[.int .i64 bx, .int .i64 b_y]] w (TookRR (ivL (fun i => inBx ax ay bx b_y (L.getD i (0, 0))) L.length) w) := by
  obtain ⟨i0, hi0, hz0, hz1, hz2⟩ := info_parts infoSl
  have CH : Hid (∀ x y W, Calls Tryd.prog 69 #[.agg #[.int .i64 x, .int .i64 y], .agg #[.int .i64 ax, .int .i64 ay], .agg #[.int .i64 bx, .int .i64 b_y]] W (SaysB (inBx ax ay bx b_y (x, y)) W)) := fun x y W => l08In_any x y ax ay bx b_y W
  unfold SaysB at CH
  obtain ⟨f, hf⟩ : ∃ f : Nat → Bool, (fun i => inBx ax ay bx b_y (L.getD i (0, 0))) = f := ⟨_, rfl⟩
  have HFb : Hid (∀ i, inBx ax ay bx b_y ((L.getD i (0, 0)).1, (L.getD i (0, 0)).2) = f i) := fun i => by rw [← hf]
  have HNo : Hid (∀ k, f k = false → ivL f (k + 1) = ivL f k) := fun k h => ivL_no h
  have HUp : Hid (∀ k, f k = true → 0 < k → f (k - 1) = true → ivL f (k + 1) = updP (ivL f k) (k : Int)) := fun k h h0 h1 => ivL_upd h h0 h1
  have HAd : Hid (∀ k, f k = true → ¬ (0 < k ∧ f (k - 1) = true) → ivL f (k + 1) = addP (ivL f k) (k : Int)) := fun k h h0 => ivL_add h h0
  have HPs : Hid (∀ k, f k = true → 0 < (ivL f (k + 1)).length) := fun k h => ivL_pos h
  have HLe := Lib.hid (ivL_len f)
  have HTwo := Lib.hid (ivL_two f)
  have H0 : Hid (ivL f 0 = []) := rfl
  rw [hf]
  obtain ⟨F, hF⟩ : ∃ F, ivL f = F := ⟨_, rfl⟩
  rw [hF] at HNo HUp HAd HPs HLe HTwo H0 ⊢
  obtain ⟨N, hN⟩ : ∃ N, L.length = N := ⟨_, rfl⟩
  obtain ⟨W0, hW0⟩ : ∃ W0, ((w.alloc (.cells #[.int .i64 ax, .int .i64 ay] 26)).alloc (.cells #[.int .i64 bx, .int .i64 b_y] 26)) = W0 := ⟨_, rfl⟩
  have b0 : Below w.heap.size w W0 := by rw [← hW0]; exact Joins.below_alloc2 _ _ _
  have hp0 : W0.heap[w.heap.size]? = some (.cells #[.int .i64 ax, .int .i64 ay] 26 (0, 0)) := by
    rw [← hW0, Below.heap_alloc _ _ _ (by simp)]; exact heap_alloc_last w _
  have hr0 : W0.heap[w.heap.size + 1]? = some (.cells #[.int .i64 bx, .int .i64 b_y] 26 (0, 0)) := by
    rw [← hW0]
    exact heap_alloc2_new _ _ _
  obtain ⟨W1, hW1⟩ : ∃ W1, W0.alloc (.cells #[] 59) = W1 := ⟨_, rfl⟩
  have b1 : Below W0.heap.size W0 W1 := by rw [← hW1]; exact Joins.below_alloc1 _ _
  have hl0 := OwnL.lit0 W0 W0.heap.size (Nat.le_refl _)
  rw [hW1] at hl0
  have HLit := Lib.hid hl0
  have HX : Hid (∀ W, Below W0.heap.size W0 W → W.cell? ⟨w.heap.size, 0, none⟩ = some (.int .i64 ax) ∧ W.cell? ⟨w.heap.size, 1, none⟩ = some (.int .i64 ay) ∧ W.cell? ⟨w.heap.size + 1, 0, none⟩ = some (.int .i64 bx) ∧ W.cell? ⟨w.heap.size + 1, 1, none⟩ = some (.int .i64 b_y)) := fun W hb =>
    ⟨cell_kept hb (by rw [Joins.cell_of_block hp0 0]; rfl), cell_kept hb (by rw [Joins.cell_of_block hp0 1]; rfl), cell_kept hb (by rw [Joins.cell_of_block hr0 0]; rfl), cell_kept hb (by rw [Joins.cell_of_block hr0 1]; rfl)⟩
  have HSp : Hid (∀ k W, k < N → Below W0.heap.size W0 W → W.cell? ⟨g, k * 2, none⟩ = some (.int .i64 (L.getD k (0, 0)).1) ∧ W.cell? ⟨g, k * 2 + 1, none⟩ = some (.int .i64 (L.getD k (0, 0)).2)) := fun k W hk hb => ⟨cell_kept hb (cell_kept b0 (hS.2 k (by rw [hN]; exact hk)).1), cell_kept hb (cell_kept b0 (hS.2 k (by rw [hN]; exact hk)).2)⟩
  rw [hN] at h256 ⊢
  have B0 := Lib.hid b0
  have B1 := Lib.hid b1
  have HW := Lib.hid hW0
  have HWb := Lib.hid hW1
  have l0 := b0.size
  clear hS hN hf hF hW0 hW1 hp0 hr0 b0 b1 hl0
  go_enter Tryd.func73, Tryd.ntmps73
  go_upto_region 1 with fail
  rw [HW.out]
  go_upto_region 2 with fail
  rw [HWb.out]
  go_wp2_with fail
  go_loopw [7, 8] (fun lv iv wr => ∃ (ao : Option Addr) (c k : Nat) (us : Nat → Value), k ≤ N ∧ iv = .int .i64 (k : Int) ∧ lv = .slice ao (F k).length c ∧ Hid (OwnL wr W0.heap.size wr.heap.size (.slice ao (F k).length c) us (F k)) ∧ Hid (Below W0.heap.size W0 wr)) (fun _ iv _ => N - (intOf iv).toNat)
  case atStart => exact ⟨_, 0, 0, _, Nat.zero_le _, rfl, by rw [H0.out]; rfl, by rw [H0.out]; exact HLit, B1⟩
  case round =>
    clear HLit HW HWb
    obtain ⟨ao, c, i, us, hi, rfl, rfl, HO, HB⟩ := hrel
    by_cases hlt : i < N
    · have ki : (i : Int) < (N : Int) := by omega
      have ki0 : (0 : Int) ≤ (i : Int) := by omega
      have hle := HLe.out i
      have CI := Lib.hid (fun W => CH.out (L.getD i (0, 0)).1 (L.getD i (0, 0)).2 W)
      have hfi := HFb.out i
      rw [hfi] at CI
      have s1 := fun W hb => HSp.out i W hlt hb
      obtain ⟨px, hpx⟩ : ∃ z, (L.getD i (0, 0)).1 = z := ⟨_, rfl⟩
      obtain ⟨py, hpy⟩ : ∃ z, (L.getD i (0, 0)).2 = z := ⟨_, rfl⟩
      rw [hpx, hpy] at CI
      have HC : Hid (∀ W, Below wr.heap.size wr W → W.cell? ⟨g, i * 2, none⟩ = some (.int .i64 px) ∧ W.cell? ⟨g, i * 2 + 1, none⟩ = some (.int .i64 py) ∧ W.cell? ⟨w.heap.size, 0, none⟩ = some (.int .i64 ax) ∧ W.cell? ⟨w.heap.size, 1, none⟩ = some (.int .i64 ay) ∧ W.cell? ⟨w.heap.size + 1, 0, none⟩ = some (.int .i64 bx) ∧ W.cell? ⟨w.heap.size + 1, 1, none⟩ = some (.int .i64 b_y)) := fun W hb => by
        have hb' := HB.out.trans (hb.mono HB.out.size)
        have t1 := s1 W hb'
        rw [hpx, hpy] at t1
        exact ⟨t1.1, t1.2, HX.out W hb'⟩
      obtain ⟨fb, hfb⟩ : ∃ b, f i = b := ⟨_, rfl⟩
      rw [hfb] at CI
      have HFi := Lib.hid hfb
      clear s1 hpx hpy hfi hfb
      go_upto_region 5 with fail
      refine wp_region_inv_at (by kernel_rfl) (fun A0 L A W => ∃ (b0 b1 b2 b3 b4 b5 b6 b7 : Bool) (v16 v17 v18 v19 v20 v21 v22 v23 : Value), L = #[b0, b1, b2, b3, b4, b5, b6, b7] ∧ A = ((((((((A0.put (some 16) v16).put (some 17) v17).put (some 18) v18).put (some 19) v19).put (some 20) v20).put (some 21) v21).put (some 22) v22).put (some 23) v23) ∧ (Below wr.heap.size wr W) ∧ Hid (b0 = true → v16 = .slice (some ⟨g, 0, none⟩) N cap) ∧ Hid (b1 = true → v17 = .int .i64 (i : Int)) ∧ Hid (b2 = true → v18 = .pointer (some ⟨g, i * 2, none⟩)) ∧ Hid (b3 = true → v19 = .agg #[.int .i64 px, .int .i64 py]) ∧ Hid (b4 = true → v20 = .agg #[.int .i64 ax, .int .i64 ay]) ∧ Hid (b5 = true → v21 = .agg #[.int .i64 bx, .int .i64 b_y]) ∧ Hid (b6 = true → v22 = .bool fb) ∧ Hid (b7 = true → v23 = .bool (!fb))) ?_ ?_ ?_
      · intro A0
        refine ⟨false, false, false, false, false, false, false, false, A0.tmps.getD 16 undef, A0.tmps.getD 17 undef, A0.tmps.getD 18 undef, A0.tmps.getD 19 undef, A0.tmps.getD 20 undef, A0.tmps.getD 21 undef, A0.tmps.getD 22 undef, A0.tmps.getD 23 undef, rfl, (by simp only [put_self]), (Below.refl _ _).drew, Lib.hid (fun hf => by cases hf), Lib.hid (fun hf => by cases hf), Lib.hid (fun hf => by cases hf), Lib.hid (fun hf => by cases hf), Lib.hid (fun hf => by cases hf), Lib.hid (fun hf => by cases hf), Lib.hid (fun hf => by cases hf), Lib.hid (fun hf => by cases hf)⟩
      · intro L A W hI i hi o ho K' hK
        have hlt := (ready_left hi).1
        have hun := (ready_left hi).2
        have haf := ready_after hi ho
        clear hi
        obtain ⟨b0, b1, b2, b3, b4, b5, b6, b7, v16, v17, v18, v19, v20, v21, v22, v23, rfl, rfl, hB, h0, h1, h2, h3, h4, h5, h6, h7⟩ := hI
        have hc : i = 0 ∨ i = 1 ∨ i = 2 ∨ i = 3 ∨ i = 4 ∨ i = 5 ∨ i = 6 ∨ i = 7 := by
          simp at hlt
          omega
        have qq := HC.out W hB
        obtain ⟨q0, q1, q2, q3, q4, q5⟩ := qq
        rcases hc with rfl | rfl | rfl | rfl | rfl | rfl | rfl | rfl
        all_goals (obtain rfl := Option.some.inj ho; clear ho; simp [Region.binds] at haf hun; (try simp only [List.getElem_toArray, List.getElem_cons_zero, List.getElem_cons_succ]); simp only [Act.put, List.setIfInBounds_toArray, List.set_cons_zero, List.set_cons_succ])
        · -- operation 0
          replace hK := Lib.hid hK
          subst hun
          go_simp
          exact hK.out _ _ ⟨true, b1, b2, b3, b4, b5, b6, b7, .slice (some ⟨g, 0, none⟩) N cap, v17, v18, v19, v20, v21, v22, v23, rfl, (by simp only [Act.put, List.setIfInBounds_toArray, List.set_cons_zero, List.set_cons_succ]), hB, Lib.hid (fun _ => rfl), h1, h2, h3, h4, h5, h6, h7⟩
        · -- operation 1
          replace hK := Lib.hid hK
          subst hun
          go_simp
          exact hK.out _ _ ⟨b0, true, b2, b3, b4, b5, b6, b7, v16, .int .i64 (i : Int), v18, v19, v20, v21, v22, v23, rfl, (by simp only [Act.put, List.setIfInBounds_toArray, List.set_cons_zero, List.set_cons_succ]), hB, h0, Lib.hid (fun _ => rfl), h2, h3, h4, h5, h6, h7⟩
        · -- operation 2
          replace hK := Lib.hid hK
          obtain rfl := (h0.out (by simp only [haf])).symm
          obtain rfl := (h1.out (by simp only [haf])).symm
          subst hun
          go_simp
          exact hK.out _ _ ⟨b0, b1, true, b3, b4, b5, b6, b7, .slice (some ⟨g, 0, none⟩) N cap, .int .i64 (i : Int), .pointer (some ⟨g, i * 2, none⟩), v19, v20, v21, v22, v23, rfl, (by simp only [Act.put, List.setIfInBounds_toArray, List.set_cons_zero, List.set_cons_succ]), hB, Lib.hid (fun _ => rfl), Lib.hid (fun _ => rfl), Lib.hid (fun _ => rfl), h3, h4, h5, h6, h7⟩
        · -- operation 3
          replace hK := Lib.hid hK
          obtain rfl := (h2.out (by simp only [haf])).symm
          subst hun
          go_simp
          exact hK.out _ _ ⟨b0, b1, b2, true, b4, b5, b6, b7, v16, v17, .pointer (some ⟨g, i * 2, none⟩), .agg #[.int .i64 px, .int .i64 py], v20, v21, v22, v23, rfl, (by simp only [Act.put, List.setIfInBounds_toArray, List.set_cons_zero, List.set_cons_succ]), hB, h0, h1, Lib.hid (fun _ => rfl), Lib.hid (fun _ => rfl), h4, h5, h6, h7⟩
        · -- operation 4
          replace hK := Lib.hid hK
          subst hun
          go_simp
          exact hK.out _ _ ⟨b0, b1, b2, b3, true, b5, b6, b7, v16, v17, v18, v19, .agg #[.int .i64 ax, .int .i64 ay], v21, v22, v23, rfl, (by simp only [Act.put, List.setIfInBounds_toArray, List.set_cons_zero, List.set_cons_succ]), hB, h0, h1, h2, h3, Lib.hid (fun _ => rfl), h5, h6, h7⟩
        · -- operation 5
          replace hK := Lib.hid hK
          subst hun
          go_simp
          exact hK.out _ _ ⟨b0, b1, b2, b3, b4, true, b6, b7, v16, v17, v18, v19, v20, .agg #[.int .i64 bx, .int .i64 b_y], v22, v23, rfl, (by simp only [Act.put, List.setIfInBounds_toArray, List.set_cons_zero, List.set_cons_succ]), hB, h0, h1, h2, h3, h4, Lib.hid (fun _ => rfl), h6, h7⟩
        · -- operation 6
          replace hK := Lib.hid hK
          obtain rfl := (h3.out (by simp only [haf])).symm
          obtain rfl := (h4.out (by simp only [haf])).symm
          obtain rfl := (h5.out (by simp only [haf])).symm
          subst hun
          go_simp
          refine (CI.out W).mono ?_
          rintro e W' ⟨rfl, hb⟩
          have hkept := fun kb (hk : kb < W.heap.size) => hb.block kb hk
          exact hK.out _ _ ⟨b0, b1, b2, b3, b4, b5, true, b7, v16, v17, v18, .agg #[.int .i64 px, .int .i64 py], .agg #[.int .i64 ax, .int .i64 ay], .agg #[.int .i64 bx, .int .i64 b_y], .bool fb, v23, rfl, (by simp only [Act.put, List.setIfInBounds_toArray, List.set_cons_zero, List.set_cons_succ]), hB.trans (hb.mono hB.size), h0, h1, h2, Lib.hid (fun _ => rfl), Lib.hid (fun _ => rfl), Lib.hid (fun _ => rfl), Lib.hid (fun _ => rfl), h7⟩
        · -- operation 7
          replace hK := Lib.hid hK
          obtain rfl := (h6.out (by simp only [haf])).symm
          subst hun
          go_simp
          exact hK.out _ _ ⟨b0, b1, b2, b3, b4, b5, b6, true, v16, v17, v18, v19, v20, v21, .bool fb, .bool (!fb), rfl, (by simp only [Act.put, List.setIfInBounds_toArray, List.set_cons_zero, List.set_cons_succ]), hB, h0, h1, h2, h3, h4, h5, Lib.hid (fun _ => rfl), Lib.hid (fun _ => rfl)⟩
      intro L A W hI hr
      obtain ⟨b0, b1, b2, b3, b4, b5, b6, b7, v16, v17, v18, v19, v20, v21, v22, v23, rfl, rfl, hB, h0, h1, h2, h3, h4, h5, h6, h7⟩ := hI
      have d0 := ready_done hr 0 _ rfl (by simp [Region.binds])
      have d1 := ready_done hr 1 _ rfl (by simp [Region.binds])
      have d4 := ready_done hr 4 _ rfl (by simp [Region.binds])
      have d5 := ready_done hr 5 _ rfl (by simp [Region.binds])
      simp at d0 d1 d4 d5
      subst d0 d1 d4 d5
      have d2 := ready_done hr 2 _ rfl (by simp [Region.binds])
      simp at d2
      subst d2
      have d3 := ready_done hr 3 _ rfl (by simp [Region.binds])
      simp at d3
      subst d3
      have d6 := ready_done hr 6 _ rfl (by simp [Region.binds])
      simp at d6
      subst d6
      have d7 := ready_done hr 7 _ rfl (by simp [Region.binds])
      simp at d7
      subst d7
      obtain rfl := (h0.out rfl).symm
      obtain rfl := (h1.out rfl).symm
      obtain rfl := (h2.out rfl).symm
      obtain rfl := (h3.out rfl).symm
      obtain rfl := (h4.out rfl).symm
      obtain rfl := (h5.out rfl).symm
      obtain rfl := (h6.out rfl).symm
      obtain rfl := (h7.out rfl).symm
      simp only [Act.put, List.setIfInBounds_toArray, List.set_cons_zero, List.set_cons_succ]
      clear hr h0 h1 h2 h3 h4 h5 h6 h7
      have HB2 := Lib.hid hB
      clear hB
      revert HB2
      generalize W = w6
      intro HB2
      have HB3 := Lib.hid (HB.out.trans (HB2.out.mono HB.out.size))
      have HO3 := Lib.hid (OwnL.below HO.out HB2.out)
      clear HB2 HC CI HO HB
      cases fb with
      | false =>
        have HE := Lib.hid (HNo.out i HFi.out)
        go_wp2
        go_roundw
        case rel => exact ⟨_, _, i + 1, us, by omega, by go_num, by rw [HE.out], by rw [HE.out]; exact HO3, HB3⟩
        case measure => simp [intOf]; omega
      | true =>
        rw [Bool.not_true]
        obtain ⟨P, hP⟩ : ∃ P, F i = P := ⟨_, rfl⟩
        have HPe := Lib.hid hP
        have HT2 := HTwo.out i
        rw [hP] at HO3 hle HT2 ⊢
        have HTw := Lib.hid HT2
        clear hP HT2
        by_cases hiz : i = 0
        · have HE : Hid (F (i + 1) = addP P (i : Int)) := by show _ = _; rw [HAd.out i HFi.out (fun h => by omega), HPe.out]
          have kp : ¬ 0 < i := by omega
          clear hiz
          have HC : Hid (∀ W, Below w6.heap.size w6 W → W.cell? ⟨w.heap.size, 0, none⟩ = some (.int .i64 ax) ∧ W.cell? ⟨w.heap.size, 1, none⟩ = some (.int .i64 ay) ∧ W.cell? ⟨w.heap.size + 1, 0, none⟩ = some (.int .i64 bx) ∧ W.cell? ⟨w.heap.size + 1, 1, none⟩ = some (.int .i64 b_y)) := fun W hb => HX.out W (HB3.out.trans (hb.mono HB3.out.size))
          go_upto_region 6 with fail
          refine wp_region_inv_at (by kernel_rfl) (fun A0 L A W => ∃ (b0 b1 b2 b3 b4 b5 b6 b7 b8 b9 b10 b11 : Bool) (v24 v25 v26 v27 v28 v29 v30 v31 v32 v33 v34 v35 : Value), L = #[b0, b1, b2, b3, b4, b5, b6, b7, b8, b9, b10, b11] ∧ A = ((((((((((((A0.put (some 24) v24).put (some 25) v25).put (some 26) v26).put (some 27) v27).put (some 28) v28).put (some 29) v29).put (some 30) v30).put (some 31) v31).put (some 32) v32).put (some 33) v33).put (some 34) v34).put (some 35) v35) ∧ (Below w6.heap.size w6 W) ∧ Hid (b0 = true → v24 = .int .i64 (i : Int)) ∧ Hid (b1 = true → v25 = .bool false) ∧ Hid (b2 = true → v26 = .bool false) ∧ Hid (b3 = true → v27 = undef) ∧ Hid (b4 = true → v28 = undef) ∧ Hid (b5 = true → v29 = undef) ∧ Hid (b6 = true → v30 = undef) ∧ Hid (b7 = true → v31 = undef) ∧ Hid (b8 = true → v32 = undef) ∧ Hid (b9 = true → v33 = undef) ∧ Hid (b10 = true → v34 = undef) ∧ Hid (b11 = true → v35 = .bool false)) ?_ ?_ ?_
          · intro A0
            refine ⟨false, false, false, false, false, false, false, false, false, false, false, false, A0.tmps.getD 24 undef, A0.tmps.getD 25 undef, A0.tmps.getD 26 undef, A0.tmps.getD 27 undef, A0.tmps.getD 28 undef, A0.tmps.getD 29 undef, A0.tmps.getD 30 undef, A0.tmps.getD 31 undef, A0.tmps.getD 32 undef, A0.tmps.getD 33 undef, A0.tmps.getD 34 undef, A0.tmps.getD 35 undef, rfl, (by simp only [put_self]), (Below.refl _ _).drew, Lib.hid (fun hf => by cases hf), Lib.hid (fun hf => by cases hf), Lib.hid (fun hf => by cases hf), Lib.hid (fun hf => by cases hf), Lib.hid (fun hf => by cases hf), Lib.hid (fun hf => by cases hf), Lib.hid (fun hf => by cases hf), Lib.hid (fun hf => by cases hf), Lib.hid (fun hf => by cases hf), Lib.hid (fun hf => by cases hf), Lib.hid (fun hf => by cases hf), Lib.hid (fun hf => by cases hf)⟩
          · intro L A W hI i hi o ho K' hK
            have hlt := (ready_left hi).1
            have hun := (ready_left hi).2
            have haf := ready_after hi ho
            clear hi
            obtain ⟨b0, b1, b2, b3, b4, b5, b6, b7, b8, b9, b10, b11, v24, v25, v26, v27, v28, v29, v30, v31, v32, v33, v34, v35, rfl, rfl, hB, h0, h1, h2, h3, h4, h5, h6, h7, h8, h9, h10, h11⟩ := hI
            have hc : i = 0 ∨ i = 1 ∨ i = 2 ∨ i = 3 ∨ i = 4 ∨ i = 5 ∨ i = 6 ∨ i = 7 ∨ i = 8 ∨ i = 9 ∨ i = 10 ∨ i = 11 := by
              simp at hlt
              omega
            have qq := HC.out W hB
            obtain ⟨q0, q1, q2, q3⟩ := qq
            rcases hc with rfl | rfl | rfl | rfl | rfl | rfl | rfl | rfl | rfl | rfl | rfl | rfl
            all_goals (obtain rfl := Option.some.inj ho; clear ho; simp [Region.binds] at haf hun; (try simp only [List.getElem_toArray, List.getElem_cons_zero, List.getElem_cons_succ]); simp only [Act.put, List.setIfInBounds_toArray, List.set_cons_zero, List.set_cons_succ])
            · -- operation 0
              replace hK := Lib.hid hK
              subst hun
              go_simp
              exact hK.out _ _ ⟨true, b1, b2, b3, b4, b5, b6, b7, b8, b9, b10, b11, .int .i64 (i : Int), v25, v26, v27, v28, v29, v30, v31, v32, v33, v34, v35, rfl, (by simp only [Act.put, List.setIfInBounds_toArray, List.set_cons_zero, List.set_cons_succ]), hB, Lib.hid (fun _ => rfl), h1, h2, h3, h4, h5, h6, h7, h8, h9, h10, h11⟩
            · -- operation 1
              replace hK := Lib.hid hK
              obtain rfl := (h0.out (by simp only [haf])).symm
              subst hun
              go_simp
              exact hK.out _ _ ⟨b0, true, b2, b3, b4, b5, b6, b7, b8, b9, b10, b11, .int .i64 (i : Int), .bool false, v26, v27, v28, v29, v30, v31, v32, v33, v34, v35, rfl, (by simp only [Act.put, List.setIfInBounds_toArray, List.set_cons_zero, List.set_cons_succ]), hB, Lib.hid (fun _ => rfl), Lib.hid (fun _ => rfl), h2, h3, h4, h5, h6, h7, h8, h9, h10, h11⟩
            · -- operation 2
              replace hK := Lib.hid hK
              obtain rfl := (h1.out (by simp only [haf])).symm
              subst hun
              go_simp
              exact hK.out _ _ ⟨b0, b1, true, b3, b4, b5, b6, b7, b8, b9, b10, b11, v24, .bool false, .bool false, v27, v28, v29, v30, v31, v32, v33, v34, v35, rfl, (by simp only [Act.put, List.setIfInBounds_toArray, List.set_cons_zero, List.set_cons_succ]), hB, h0, Lib.hid (fun _ => rfl), Lib.hid (fun _ => rfl), h3, h4, h5, h6, h7, h8, h9, h10, h11⟩
            · -- operation 3
              replace hK := Lib.hid hK
              obtain rfl := (h2.out (by simp only [haf])).symm
              subst hun
              go_simp
              exact hK.out _ _ ⟨b0, b1, b2, true, b4, b5, b6, b7, b8, b9, b10, b11, v24, v25, .bool false, undef, v28, v29, v30, v31, v32, v33, v34, v35, rfl, (by simp only [Act.put, List.setIfInBounds_toArray, List.set_cons_zero, List.set_cons_succ]), hB, h0, h1, Lib.hid (fun _ => rfl), Lib.hid (fun _ => rfl), h4, h5, h6, h7, h8, h9, h10, h11⟩
            · -- operation 4
              replace hK := Lib.hid hK
              obtain rfl := (h2.out (by simp only [haf])).symm
              subst hun
              go_simp
              exact hK.out _ _ ⟨b0, b1, b2, b3, true, b5, b6, b7, b8, b9, b10, b11, v24, v25, .bool false, v27, undef, v29, v30, v31, v32, v33, v34, v35, rfl, (by simp only [Act.put, List.setIfInBounds_toArray, List.set_cons_zero, List.set_cons_succ]), hB, h0, h1, Lib.hid (fun _ => rfl), h3, Lib.hid (fun _ => rfl), h5, h6, h7, h8, h9, h10, h11⟩
            · -- operation 5
              replace hK := Lib.hid hK
              obtain rfl := (h2.out (by simp only [haf])).symm
              subst hun
              go_simp
              exact hK.out _ _ ⟨b0, b1, b2, b3, b4, true, b6, b7, b8, b9, b10, b11, v24, v25, .bool false, v27, v28, undef, v30, v31, v32, v33, v34, v35, rfl, (by simp only [Act.put, List.setIfInBounds_toArray, List.set_cons_zero, List.set_cons_succ]), hB, h0, h1, Lib.hid (fun _ => rfl), h3, h4, Lib.hid (fun _ => rfl), h6, h7, h8, h9, h10, h11⟩
            · -- operation 6
              replace hK := Lib.hid hK
              obtain rfl := (h2.out (by simp only [haf])).symm
              subst hun
              go_simp
              exact hK.out _ _ ⟨b0, b1, b2, b3, b4, b5, true, b7, b8, b9, b10, b11, v24, v25, .bool false, v27, v28, v29, undef, v31, v32, v33, v34, v35, rfl, (by simp only [Act.put, List.setIfInBounds_toArray, List.set_cons_zero, List.set_cons_succ]), hB, h0, h1, Lib.hid (fun _ => rfl), h3, h4, h5, Lib.hid (fun _ => rfl), h7, h8, h9, h10, h11⟩
            · -- operation 7
              replace hK := Lib.hid hK
              obtain rfl := (h2.out (by simp only [haf])).symm
              subst hun
              go_simp
              exact hK.out _ _ ⟨b0, b1, b2, b3, b4, b5, b6, true, b8, b9, b10, b11, v24, v25, .bool false, v27, v28, v29, v30, undef, v32, v33, v34, v35, rfl, (by simp only [Act.put, List.setIfInBounds_toArray, List.set_cons_zero, List.set_cons_succ]), hB, h0, h1, Lib.hid (fun _ => rfl), h3, h4, h5, h6, Lib.hid (fun _ => rfl), h8, h9, h10, h11⟩
            · -- operation 8
              replace hK := Lib.hid hK
              obtain rfl := (h2.out (by simp only [haf])).symm
              subst hun
              go_simp
              exact hK.out _ _ ⟨b0, b1, b2, b3, b4, b5, b6, b7, true, b9, b10, b11, v24, v25, .bool false, v27, v28, v29, v30, v31, undef, v33, v34, v35, rfl, (by simp only [Act.put, List.setIfInBounds_toArray, List.set_cons_zero, List.set_cons_succ]), hB, h0, h1, Lib.hid (fun _ => rfl), h3, h4, h5, h6, h7, Lib.hid (fun _ => rfl), h9, h10, h11⟩
            · -- operation 9
              replace hK := Lib.hid hK
              obtain rfl := (h2.out (by simp only [haf])).symm
              subst hun
              go_simp
              exact hK.out _ _ ⟨b0, b1, b2, b3, b4, b5, b6, b7, b8, true, b10, b11, v24, v25, .bool false, v27, v28, v29, v30, v31, v32, undef, v34, v35, rfl, (by simp only [Act.put, List.setIfInBounds_toArray, List.set_cons_zero, List.set_cons_succ]), hB, h0, h1, Lib.hid (fun _ => rfl), h3, h4, h5, h6, h7, h8, Lib.hid (fun _ => rfl), h10, h11⟩
            · -- operation 10
              replace hK := Lib.hid hK
              obtain rfl := (h2.out (by simp only [haf])).symm
              subst hun
              go_simp
              exact hK.out _ _ ⟨b0, b1, b2, b3, b4, b5, b6, b7, b8, b9, true, b11, v24, v25, .bool false, v27, v28, v29, v30, v31, v32, v33, undef, v35, rfl, (by simp only [Act.put, List.setIfInBounds_toArray, List.set_cons_zero, List.set_cons_succ]), hB, h0, h1, Lib.hid (fun _ => rfl), h3, h4, h5, h6, h7, h8, h9, Lib.hid (fun _ => rfl), h11⟩
            · -- operation 11
              replace hK := Lib.hid hK
              obtain rfl := (h2.out (by simp only [haf])).symm
              subst hun
              go_simp
              exact hK.out _ _ ⟨b0, b1, b2, b3, b4, b5, b6, b7, b8, b9, b10, true, v24, v25, .bool false, v27, v28, v29, v30, v31, v32, v33, v34, .bool false, rfl, (by simp only [Act.put, List.setIfInBounds_toArray, List.set_cons_zero, List.set_cons_succ]), hB, h0, h1, Lib.hid (fun _ => rfl), h3, h4, h5, h6, h7, h8, h9, h10, Lib.hid (fun _ => rfl)⟩
          intro L A W hI hr
          obtain ⟨b0, b1, b2, b3, b4, b5, b6, b7, b8, b9, b10, b11, v24, v25, v26, v27, v28, v29, v30, v31, v32, v33, v34, v35, rfl, rfl, hB, h0, h1, h2, h3, h4, h5, h6, h7, h8, h9, h10, h11⟩ := hI
          have d0 := ready_done hr 0 _ rfl (by simp [Region.binds])
          simp at d0
          subst d0
          have d1 := ready_done hr 1 _ rfl (by simp [Region.binds])
          simp at d1
          subst d1
          have d2 := ready_done hr 2 _ rfl (by simp [Region.binds])
          simp at d2
          subst d2
          have d3 := ready_done hr 3 _ rfl (by simp [Region.binds])
          have d4 := ready_done hr 4 _ rfl (by simp [Region.binds])
          have d8 := ready_done hr 8 _ rfl (by simp [Region.binds])
          have d9 := ready_done hr 9 _ rfl (by simp [Region.binds])
          simp at d3 d4 d8 d9
          subst d3 d4 d8 d9
          have d5 := ready_done hr 5 _ rfl (by simp [Region.binds])
          simp at d5
          subst d5
          have d6 := ready_done hr 6 _ rfl (by simp [Region.binds])
          simp at d6
          subst d6
          have d7 := ready_done hr 7 _ rfl (by simp [Region.binds])
          simp at d7
          subst d7
          have d10 := ready_done hr 10 _ rfl (by simp [Region.binds])
          simp at d10
          subst d10
          have d11 := ready_done hr 11 _ rfl (by simp [Region.binds])
          simp at d11
          subst d11
          obtain rfl := (h0.out rfl).symm
          obtain rfl := (h1.out rfl).symm
          obtain rfl := (h2.out rfl).symm
          obtain rfl := (h3.out rfl).symm
          obtain rfl := (h4.out rfl).symm
          obtain rfl := (h5.out rfl).symm
          obtain rfl := (h6.out rfl).symm
          obtain rfl := (h7.out rfl).symm
          obtain rfl := (h8.out rfl).symm
          obtain rfl := (h9.out rfl).symm
          obtain rfl := (h10.out rfl).symm
          obtain rfl := (h11.out rfl).symm
          simp only [Act.put, List.setIfInBounds_toArray, List.set_cons_zero, List.set_cons_succ]
          clear hr h0 h1 h2 h3 h4 h5 h6 h7 h8 h9 h10 h11
          have HB6 := Lib.hid hB
          clear hB
          revert HB6
          generalize W = w7
          intro HB6
          have HB7 := Lib.hid (HB3.out.trans (HB6.out.mono HB3.out.size))
          have HO7 := Lib.hid (OwnL.below HO3.out HB6.out)
          clear HB6 HC HO3 HB3 kp
          have hO6 := HO7.out
          have hs6 := HB7.out.size
          have hr1 := (show OwnR _ _ _ _ _ _ _ from hO6).row
          have HR2 := Lib.hid (World.ownsRow.alloc (World.ownsRow.alloc hr1 (.cells #[.int .i64 (i : Int), .int .i64 (i : Int)] 2)) (.cells #[.slice (some ⟨w7.heap.size, 0, none⟩) 2 2] 59))
          have hnw := cell_one_new (w7.alloc (.cells #[.int .i64 (i : Int), .int .i64 (i : Int)] 2)) (.slice (some ⟨w7.heap.size, 0, none⟩) 2 2) 59
          rw [World.size_alloc] at hnw
          have HNew := Lib.hid hnw
          have HL3 := Lib.hid (addP_len P (i : Int))
          clear hr1 hnw hO6
          go_wp2_with (at_builtin; refine wpList_append_own _ rfl _ _ 37 rfl W0.heap.size 59 i0 (.slice none 0 0) 1 24 Tryd.underlying37 hi0 hz0 hz1 hz2 rfl (by decide) _ _ _ rfl HR2.out ⟨w7.heap.size + 1, 0, none⟩ 1 1 [.slice (some ⟨w7.heap.size, 0, none⟩) 2 2] rfl rfl HNew.out (by intro u hu; simp at hu; subst hu; rfl) (by unfold maxLen; omega) (by omega) (by simp; omega) ?_)
          intro v' w8 hown' hgr _
          have hb8 : Below W0.heap.size W0 w8 := ((HB7.out.alloc hs6 _).alloc (by simp; omega) _).grown hgr (by simp; omega) (fun k hk => (HR2.out.lt k hk).1)
          obtain ⟨us8, ho8⟩ := OwnL.snoc HO7.out hs6 #[.int .i64 (i : Int), .int .i64 (i : Int)] [(i : Int), (i : Int)] rfl (by unfold maxLen; simp) _ hown' hgr
          replace ho8 : OwnL w8 W0.heap.size w8.heap.size v' us8 (addP P (i : Int)) := ho8
          obtain ⟨g', c', rfl⟩ := Joins.ownsRow_form hown' (by omega)
          have HO8 := Lib.hid ho8
          have HB8 := Lib.hid hb8
          clear hown' hgr hb8 ho8 HR2 HNew HO7 HB7
          go_wp2
          go_roundw
          case rel => exact ⟨_, _, i + 1, us8, by omega, by go_num, by rw [HE.out, HL3.out], by rw [HE.out, HL3.out]; exact HO8, HB8⟩
          case measure => simp [intOf]; omega
        · obtain ⟨j, hj⟩ : ∃ j, i - 1 = j := ⟨_, rfl⟩
          have kw : IntKind.i64.wrap ((i : Int) - 1) = (j : Int) := by rw [show (i : Int) - 1 = (j : Int) from by omega]; exact IntWalk.i64_in _ (by omega)
          have kp : 0 < i := by omega
          have kj : (j : Int) < (N : Int) := by omega
          have kj0 : (0 : Int) ≤ (j : Int) := by omega
          have CI := Lib.hid (fun W => CH.out (L.getD j (0, 0)).1 (L.getD j (0, 0)).2 W)
          have hfi := HFb.out j
          rw [hfi] at CI
          have s1 := fun W hb => HSp.out j W (by omega) hb
          obtain ⟨px, hpx⟩ : ∃ z, (L.getD j (0, 0)).1 = z := ⟨_, rfl⟩
          obtain ⟨py, hpy⟩ : ∃ z, (L.getD j (0, 0)).2 = z := ⟨_, rfl⟩
          rw [hpx, hpy] at CI
          have HC : Hid (∀ W, Below w6.heap.size w6 W → W.cell? ⟨g, j * 2, none⟩ = some (.int .i64 px) ∧ W.cell? ⟨g, j * 2 + 1, none⟩ = some (.int .i64 py) ∧ W.cell? ⟨w.heap.size, 0, none⟩ = some (.int .i64 ax) ∧ W.cell? ⟨w.heap.size, 1, none⟩ = some (.int .i64 ay) ∧ W.cell? ⟨w.heap.size + 1, 0, none⟩ = some (.int .i64 bx) ∧ W.cell? ⟨w.heap.size + 1, 1, none⟩ = some (.int .i64 b_y)) := fun W hb => by
            have hb' := HB3.out.trans (hb.mono HB3.out.size)
            have t1 := s1 W hb'
            rw [hpx, hpy] at t1
            exact ⟨t1.1, t1.2, HX.out W hb'⟩
          have HPos : Hid (f j = true → 0 < P.length) := fun h => by
            have := HPs.out j h
            rw [show j + 1 = i from by omega, HPe.out] at this
            exact this
          have HU1 : Hid (f j = true → F (i + 1) = updP P (i : Int)) := fun h => by rw [HUp.out i HFi.out (by omega) (by rw [hj]; exact h), HPe.out]
          have HA1 : Hid (f j = false → F (i + 1) = addP P (i : Int)) := fun h => by rw [HAd.out i HFi.out (fun h2 => by rw [hj, h] at h2; exact absurd h2.2 (by decide)), HPe.out]
          obtain ⟨fb, hfb⟩ : ∃ b, f j = b := ⟨_, rfl⟩
          rw [hfb] at CI HPos HU1 HA1
          clear s1 hpx hpy hfi hfb hj
          go_upto_region 6 with fail
          refine wp_region_inv_at (by kernel_rfl) (fun A0 L A W => ∃ (b0 b1 b2 b3 b4 b5 b6 b7 b8 b9 b10 b11 : Bool) (v24 v25 v26 v27 v28 v29 v30 v31 v32 v33 v34 v35 : Value), L = #[b0, b1, b2, b3, b4, b5, b6, b7, b8, b9, b10, b11] ∧ A = ((((((((((((A0.put (some 24) v24).put (some 25) v25).put (some 26) v26).put (some 27) v27).put (some 28) v28).put (some 29) v29).put (some 30) v30).put (some 31) v31).put (some 32) v32).put (some 33) v33).put (some 34) v34).put (some 35) v35) ∧ (Below w6.heap.size w6 W) ∧ Hid (b0 = true → v24 = .int .i64 (i : Int)) ∧ Hid (b1 = true → v25 = .bool true) ∧ Hid (b2 = true → v26 = .bool true) ∧ Hid (b3 = true → v27 = .slice (some ⟨g, 0, none⟩) N cap) ∧ Hid (b4 = true → v28 = .int .i64 (i : Int)) ∧ Hid (b5 = true → v29 = .int .i64 (j : Int)) ∧ Hid (b6 = true → v30 = .pointer (some ⟨g, j * 2, none⟩)) ∧ Hid (b7 = true → v31 = .agg #[.int .i64 px, .int .i64 py]) ∧ Hid (b8 = true → v32 = .agg #[.int .i64 ax, .int .i64 ay]) ∧ Hid (b9 = true → v33 = .agg #[.int .i64 bx, .int .i64 b_y]) ∧ Hid (b10 = true → v34 = .bool fb) ∧ Hid (b11 = true → v35 = .bool fb)) ?_ ?_ ?_
          · intro A0
            refine ⟨false, false, false, false, false, false, false, false, false, false, false, false, A0.tmps.getD 24 undef, A0.tmps.getD 25 undef, A0.tmps.getD 26 undef, A0.tmps.getD 27 undef, A0.tmps.getD 28 undef, A0.tmps.getD 29 undef, A0.tmps.getD 30 undef, A0.tmps.getD 31 undef, A0.tmps.getD 32 undef, A0.tmps.getD 33 undef, A0.tmps.getD 34 undef, A0.tmps.getD 35 undef, rfl, (by simp only [put_self]), (Below.refl _ _).drew, Lib.hid (fun hf => by cases hf), Lib.hid (fun hf => by cases hf), Lib.hid (fun hf => by cases hf), Lib.hid (fun hf => by cases hf), Lib.hid (fun hf => by cases hf), Lib.hid (fun hf => by cases hf), Lib.hid (fun hf => by cases hf), Lib.hid (fun hf => by cases hf), Lib.hid (fun hf => by cases hf), Lib.hid (fun hf => by cases hf), Lib.hid (fun hf => by cases hf), Lib.hid (fun hf => by cases hf)⟩
          · intro L A W hI i hi o ho K' hK
            have hlt := (ready_left hi).1
            have hun := (ready_left hi).2
            have haf := ready_after hi ho
            clear hi
            obtain ⟨b0, b1, b2, b3, b4, b5, b6, b7, b8, b9, b10, b11, v24, v25, v26, v27, v28, v29, v30, v31, v32, v33, v34, v35, rfl, rfl, hB, h0, h1, h2, h3, h4, h5, h6, h7, h8, h9, h10, h11⟩ := hI
            have hc : i = 0 ∨ i = 1 ∨ i = 2 ∨ i = 3 ∨ i = 4 ∨ i = 5 ∨ i = 6 ∨ i = 7 ∨ i = 8 ∨ i = 9 ∨ i = 10 ∨ i = 11 := by
              simp at hlt
              omega
            have qq := HC.out W hB
            obtain ⟨q0, q1, q2, q3, q4, q5⟩ := qq
            rcases hc with rfl | rfl | rfl | rfl | rfl | rfl | rfl | rfl | rfl | rfl | rfl | rfl
            all_goals (obtain rfl := Option.some.inj ho; clear ho; simp [Region.binds] at haf hun; (try simp only [List.getElem_toArray, List.getElem_cons_zero, List.getElem_cons_succ]); simp only [Act.put, List.setIfInBounds_toArray, List.set_cons_zero, List.set_cons_succ])
            · -- operation 0
              replace hK := Lib.hid hK
              subst hun
              go_simp
              exact hK.out _ _ ⟨true, b1, b2, b3, b4, b5, b6, b7, b8, b9, b10, b11, .int .i64 (i : Int), v25, v26, v27, v28, v29, v30, v31, v32, v33, v34, v35, rfl, (by simp only [Act.put, List.setIfInBounds_toArray, List.set_cons_zero, List.set_cons_succ]), hB, Lib.hid (fun _ => rfl), h1, h2, h3, h4, h5, h6, h7, h8, h9, h10, h11⟩
            · -- operation 1
              replace hK := Lib.hid hK
              obtain rfl := (h0.out (by simp only [haf])).symm
              subst hun
              go_simp
              exact hK.out _ _ ⟨b0, true, b2, b3, b4, b5, b6, b7, b8, b9, b10, b11, .int .i64 (i : Int), .bool true, v26, v27, v28, v29, v30, v31, v32, v33, v34, v35, rfl, (by simp only [Act.put, List.setIfInBounds_toArray, List.set_cons_zero, List.set_cons_succ]), hB, Lib.hid (fun _ => rfl), Lib.hid (fun _ => rfl), h2, h3, h4, h5, h6, h7, h8, h9, h10, h11⟩
            · -- operation 2
              replace hK := Lib.hid hK
              obtain rfl := (h1.out (by simp only [haf])).symm
              subst hun
              go_simp
              exact hK.out _ _ ⟨b0, b1, true, b3, b4, b5, b6, b7, b8, b9, b10, b11, v24, .bool true, .bool true, v27, v28, v29, v30, v31, v32, v33, v34, v35, rfl, (by simp only [Act.put, List.setIfInBounds_toArray, List.set_cons_zero, List.set_cons_succ]), hB, h0, Lib.hid (fun _ => rfl), Lib.hid (fun _ => rfl), h3, h4, h5, h6, h7, h8, h9, h10, h11⟩
            · -- operation 3
              replace hK := Lib.hid hK
              obtain rfl := (h2.out (by simp only [haf])).symm
              subst hun
              go_simp
              exact hK.out _ _ ⟨b0, b1, b2, true, b4, b5, b6, b7, b8, b9, b10, b11, v24, v25, .bool true, .slice (some ⟨g, 0, none⟩) N cap, v28, v29, v30, v31, v32, v33, v34, v35, rfl, (by simp only [Act.put, List.setIfInBounds_toArray, List.set_cons_zero, List.set_cons_succ]), hB, h0, h1, Lib.hid (fun _ => rfl), Lib.hid (fun _ => rfl), h4, h5, h6, h7, h8, h9, h10, h11⟩
            · -- operation 4
              replace hK := Lib.hid hK
              obtain rfl := (h2.out (by simp only [haf])).symm
              subst hun
              go_simp
              exact hK.out _ _ ⟨b0, b1, b2, b3, true, b5, b6, b7, b8, b9, b10, b11, v24, v25, .bool true, v27, .int .i64 (i : Int), v29, v30, v31, v32, v33, v34, v35, rfl, (by simp only [Act.put, List.setIfInBounds_toArray, List.set_cons_zero, List.set_cons_succ]), hB, h0, h1, Lib.hid (fun _ => rfl), h3, Lib.hid (fun _ => rfl), h5, h6, h7, h8, h9, h10, h11⟩
            · -- operation 5
              replace hK := Lib.hid hK
              obtain rfl := (h2.out (by simp only [haf])).symm
              obtain rfl := (h4.out (by simp only [haf])).symm
              subst hun
              go_simp
              exact hK.out _ _ ⟨b0, b1, b2, b3, b4, true, b6, b7, b8, b9, b10, b11, v24, v25, .bool true, v27, .int .i64 (i : Int), .int .i64 (j : Int), v30, v31, v32, v33, v34, v35, rfl, (by simp only [Act.put, List.setIfInBounds_toArray, List.set_cons_zero, List.set_cons_succ]), hB, h0, h1, Lib.hid (fun _ => rfl), h3, Lib.hid (fun _ => rfl), Lib.hid (fun _ => rfl), h6, h7, h8, h9, h10, h11⟩
            · -- operation 6
              replace hK := Lib.hid hK
              obtain rfl := (h2.out (by simp only [haf])).symm
              obtain rfl := (h3.out (by simp only [haf])).symm
              obtain rfl := (h5.out (by simp only [haf])).symm
              subst hun
              go_simp
              exact hK.out _ _ ⟨b0, b1, b2, b3, b4, b5, true, b7, b8, b9, b10, b11, v24, v25, .bool true, .slice (some ⟨g, 0, none⟩) N cap, v28, .int .i64 (j : Int), .pointer (some ⟨g, j * 2, none⟩), v31, v32, v33, v34, v35, rfl, (by simp only [Act.put, List.setIfInBounds_toArray, List.set_cons_zero, List.set_cons_succ]), hB, h0, h1, Lib.hid (fun _ => rfl), Lib.hid (fun _ => rfl), h4, Lib.hid (fun _ => rfl), Lib.hid (fun _ => rfl), h7, h8, h9, h10, h11⟩
            · -- operation 7
              replace hK := Lib.hid hK
              obtain rfl := (h2.out (by simp only [haf])).symm
              obtain rfl := (h6.out (by simp only [haf])).symm
              subst hun
              go_simp
              exact hK.out _ _ ⟨b0, b1, b2, b3, b4, b5, b6, true, b8, b9, b10, b11, v24, v25, .bool true, v27, v28, v29, .pointer (some ⟨g, j * 2, none⟩), .agg #[.int .i64 px, .int .i64 py], v32, v33, v34, v35, rfl, (by simp only [Act.put, List.setIfInBounds_toArray, List.set_cons_zero, List.set_cons_succ]), hB, h0, h1, Lib.hid (fun _ => rfl), h3, h4, h5, Lib.hid (fun _ => rfl), Lib.hid (fun _ => rfl), h8, h9, h10, h11⟩
            · -- operation 8
              replace hK := Lib.hid hK
              obtain rfl := (h2.out (by simp only [haf])).symm
              subst hun
              go_simp
              exact hK.out _ _ ⟨b0, b1, b2, b3, b4, b5, b6, b7, true, b9, b10, b11, v24, v25, .bool true, v27, v28, v29, v30, v31, .agg #[.int .i64 ax, .int .i64 ay], v33, v34, v35, rfl, (by simp only [Act.put, List.setIfInBounds_toArray, List.set_cons_zero, List.set_cons_succ]), hB, h0, h1, Lib.hid (fun _ => rfl), h3, h4, h5, h6, h7, Lib.hid (fun _ => rfl), h9, h10, h11⟩
            · -- operation 9
              replace hK := Lib.hid hK
              obtain rfl := (h2.out (by simp only [haf])).symm
              subst hun
              go_simp
              exact hK.out _ _ ⟨b0, b1, b2, b3, b4, b5, b6, b7, b8, true, b10, b11, v24, v25, .bool true, v27, v28, v29, v30, v31, v32, .agg #[.int .i64 bx, .int .i64 b_y], v34, v35, rfl, (by simp only [Act.put, List.setIfInBounds_toArray, List.set_cons_zero, List.set_cons_succ]), hB, h0, h1, Lib.hid (fun _ => rfl), h3, h4, h5, h6, h7, h8, Lib.hid (fun _ => rfl), h10, h11⟩
            · -- operation 10
              replace hK := Lib.hid hK
              obtain rfl := (h2.out (by simp only [haf])).symm
              obtain rfl := (h7.out (by simp only [haf])).symm
              obtain rfl := (h8.out (by simp only [haf])).symm
              obtain rfl := (h9.out (by simp only [haf])).symm
              subst hun
              go_simp
              refine (CI.out W).mono ?_
              rintro e W' ⟨rfl, hb⟩
              have hkept := fun kb (hk : kb < W.heap.size) => hb.block kb hk
              exact hK.out _ _ ⟨b0, b1, b2, b3, b4, b5, b6, b7, b8, b9, true, b11, v24, v25, .bool true, v27, v28, v29, v30, .agg #[.int .i64 px, .int .i64 py], .agg #[.int .i64 ax, .int .i64 ay], .agg #[.int .i64 bx, .int .i64 b_y], .bool fb, v35, rfl, (by simp only [Act.put, List.setIfInBounds_toArray, List.set_cons_zero, List.set_cons_succ]), hB.trans (hb.mono hB.size), h0, h1, Lib.hid (fun _ => rfl), h3, h4, h5, h6, Lib.hid (fun _ => rfl), Lib.hid (fun _ => rfl), Lib.hid (fun _ => rfl), Lib.hid (fun _ => rfl), h11⟩
            · -- operation 11
              replace hK := Lib.hid hK
              obtain rfl := (h2.out (by simp only [haf])).symm
              obtain rfl := (h10.out (by simp only [haf])).symm
              subst hun
              go_simp
              exact hK.out _ _ ⟨b0, b1, b2, b3, b4, b5, b6, b7, b8, b9, b10, true, v24, v25, .bool true, v27, v28, v29, v30, v31, v32, v33, .bool fb, .bool fb, rfl, (by simp only [Act.put, List.setIfInBounds_toArray, List.set_cons_zero, List.set_cons_succ]), hB, h0, h1, Lib.hid (fun _ => rfl), h3, h4, h5, h6, h7, h8, h9, Lib.hid (fun _ => rfl), Lib.hid (fun _ => rfl)⟩
          intro L A W hI hr
          obtain ⟨b0, b1, b2, b3, b4, b5, b6, b7, b8, b9, b10, b11, v24, v25, v26, v27, v28, v29, v30, v31, v32, v33, v34, v35, rfl, rfl, hB, h0, h1, h2, h3, h4, h5, h6, h7, h8, h9, h10, h11⟩ := hI
          have d0 := ready_done hr 0 _ rfl (by simp [Region.binds])
          simp at d0
          subst d0
          have d1 := ready_done hr 1 _ rfl (by simp [Region.binds])
          simp at d1
          subst d1
          have d2 := ready_done hr 2 _ rfl (by simp [Region.binds])
          simp at d2
          subst d2
          have d3 := ready_done hr 3 _ rfl (by simp [Region.binds])
          have d4 := ready_done hr 4 _ rfl (by simp [Region.binds])
          have d8 := ready_done hr 8 _ rfl (by simp [Region.binds])
          have d9 := ready_done hr 9 _ rfl (by simp [Region.binds])
          simp at d3 d4 d8 d9
          subst d3 d4 d8 d9
          have d5 := ready_done hr 5 _ rfl (by simp [Region.binds])
          simp at d5
          subst d5
          have d6 := ready_done hr 6 _ rfl (by simp [Region.binds])
          simp at d6
          subst d6
          have d7 := ready_done hr 7 _ rfl (by simp [Region.binds])
          simp at d7
          subst d7
          have d10 := ready_done hr 10 _ rfl (by simp [Region.binds])
          simp at d10
          subst d10
          have d11 := ready_done hr 11 _ rfl (by simp [Region.binds])
          simp at d11
          subst d11
          obtain rfl := (h0.out rfl).symm
          obtain rfl := (h1.out rfl).symm
          obtain rfl := (h2.out rfl).symm
          obtain rfl := (h3.out rfl).symm
          obtain rfl := (h4.out rfl).symm
          obtain rfl := (h5.out rfl).symm
          obtain rfl := (h6.out rfl).symm
          obtain rfl := (h7.out rfl).symm
          obtain rfl := (h8.out rfl).symm
          obtain rfl := (h9.out rfl).symm
          obtain rfl := (h10.out rfl).symm
          obtain rfl := (h11.out rfl).symm
          simp only [Act.put, List.setIfInBounds_toArray, List.set_cons_zero, List.set_cons_succ]
          clear hr h0 h1 h2 h3 h4 h5 h6 h7 h8 h9 h10 h11
          have HB6 := Lib.hid hB
          clear hB
          revert HB6
          generalize W = w7
          intro HB6
          have HB7 := Lib.hid (HB3.out.trans (HB6.out.mono HB3.out.size))
          have HO7 := Lib.hid (OwnL.below HO3.out HB6.out)
          clear HB6 HC HO3 HB3 CI
          cases fb with
          | false =>
            have HE := Lib.hid (HA1.out rfl)
            clear HU1 HA1 HPos kj kw
            have hO6 := HO7.out
            have hs6 := HB7.out.size
            have hr1 := (show OwnR _ _ _ _ _ _ _ from hO6).row
            have HR2 := Lib.hid (World.ownsRow.alloc (World.ownsRow.alloc hr1 (.cells #[.int .i64 (i : Int), .int .i64 (i : Int)] 2)) (.cells #[.slice (some ⟨w7.heap.size, 0, none⟩) 2 2] 59))
            have hnw := cell_one_new (w7.alloc (.cells #[.int .i64 (i : Int), .int .i64 (i : Int)] 2)) (.slice (some ⟨w7.heap.size, 0, none⟩) 2 2) 59
            rw [World.size_alloc] at hnw
            have HNew := Lib.hid hnw
            have HL3 := Lib.hid (addP_len P (i : Int))
            clear hr1 hnw hO6
            go_wp2_with (at_builtin; refine wpList_append_own _ rfl _ _ 37 rfl W0.heap.size 59 i0 (.slice none 0 0) 1 24 Tryd.underlying37 hi0 hz0 hz1 hz2 rfl (by decide) _ _ _ rfl HR2.out ⟨w7.heap.size + 1, 0, none⟩ 1 1 [.slice (some ⟨w7.heap.size, 0, none⟩) 2 2] rfl rfl HNew.out (by intro u hu; simp at hu; subst hu; rfl) (by unfold maxLen; omega) (by omega) (by simp; omega) ?_)
            intro v' w8 hown' hgr _
            have hb8 : Below W0.heap.size W0 w8 := ((HB7.out.alloc hs6 _).alloc (by simp; omega) _).grown hgr (by simp; omega) (fun k hk => (HR2.out.lt k hk).1)
            obtain ⟨us8, ho8⟩ := OwnL.snoc HO7.out hs6 #[.int .i64 (i : Int), .int .i64 (i : Int)] [(i : Int), (i : Int)] rfl (by unfold maxLen; simp) _ hown' hgr
            replace ho8 : OwnL w8 W0.heap.size w8.heap.size v' us8 (addP P (i : Int)) := ho8
            obtain ⟨g', c', rfl⟩ := Joins.ownsRow_form hown' (by omega)
            have HO8 := Lib.hid ho8
            have HB8 := Lib.hid hb8
            clear hown' hgr hb8 ho8 HR2 HNew HO7 HB7
            go_wp2
            go_roundw
            case rel => exact ⟨_, _, i + 1, us8, by omega, by go_num, by rw [HE.out, HL3.out], by rw [HE.out, HL3.out]; exact HO8, HB8⟩
            case measure => simp [intOf]; omega
          | true =>
            have HE := Lib.hid (HU1.out rfl)
            replace HPos := Lib.hid (HPos.out rfl)
            clear HU1 HA1
            have hPp := HPos.out
            obtain ⟨gr, cr, old, hus, hgc, hgf, hglo, hghi, hupd⟩ := OwnL.upd HO7.out hPp HTw.out (i : Int)
            obtain ⟨gv, cv, hform⟩ : ∃ gv cv, Value.slice ao P.length c = .slice (some ⟨gv, 0, none⟩) P.length cv := by
              rcases Joins.ownsRow_forms ((show OwnR _ _ _ _ _ _ _ from HO7.out).row) with ⟨e1, h0⟩ | ⟨g1, c1, e1⟩
              · omega
              · exact ⟨g1, c1, e1⟩
            injection hform with hf1 hf2 hf3
            subst hf1 hf3
            have hrowc := OwnL.at HO7.out (P.length - 1) (by omega)
            rw [hus] at hrowc
            have HU := Lib.hid hupd
            have HB8 := Lib.hid (HB7.out.setCell (p := ⟨gr, 1, none⟩) hglo (.int .i64 (i : Int)))
            have hgvl := (World.ownsRow.lt (h := (show OwnR _ _ _ _ _ _ _ from HO7.out).row) gv rfl).2
            obtain ⟨n1, hn1⟩ : ∃ n, P.length - 1 = n := ⟨_, rfl⟩
            rw [hn1] at hrowc
            obtain ⟨pl, hpl⟩ : ∃ n, P.length = n := ⟨_, rfl⟩
            have k1w : IntKind.i64.wrap ((pl : Int) - 1) = (n1 : Int) := by rw [show (pl : Int) - 1 = (n1 : Int) from by omega]; exact IntWalk.i64_in _ (by omega)
            have k1l : (n1 : Int) < (pl : Int) := by omega
            have k10 : (0 : Int) ≤ (n1 : Int) := by omega
            have HUl : Hid ((updP P (i : Int)).length = pl) := by show _ = _; rw [updP_len]; exact hpl
            rw [hpl] at HU ⊢
            clear hus hupd hn1 hpl HO7 HB7 hPp kj kw
            go_wp2
            go_roundw
            case rel => exact ⟨_, _, i + 1, us, by omega, by go_num, by rw [HE.out, HUl.out], by rw [HE.out, HUl.out]; simpa using HU, HB8⟩
            case measure => simp [intOf]; omega
    · obtain rfl : i = N := by omega
      have HB9 := Lib.hid (B0.out.trans (HB.out.mono B0.out.size))
      have HO9 := Lib.hid (OwnR.mono (show OwnR _ _ _ _ _ _ _ from HO.out) l0 (Nat.le_refl _))
      go_wp2_with fail
      go_ret
      exact ⟨_, _, rfl, HO9.out, HB9.out⟩

set_option maxHeartbeats 4000000 in
set_option maxRecDepth 100000 in
theorem intervals_any (v : Value) (ix : List Int) (w : World) (hv : SlN w v ix) (h256 : ix.length ≤ 256) (hr : ∀ i, i < ix.length → 0 ≤ ix.getD i 0 ∧ ix.getD i 0 ≤ 1000) :
    Calls Tryd.prog 78 #[v] w (TookRR (ptL ix 1 ix.length) w) := by
  have C := Lib.hid (parts_any v ix 1 w hv h256 hr)
  obtain ⟨P, hP⟩ : ∃ P, ptL ix 1 ix.length = P := ⟨_, rfl⟩
  rw [hP] at C ⊢
  clear hP hv h256 hr
  go_enter Tryd.func78, Tryd.ntmps78
  go_wp2_with fail
  refine C.out.mono ?_
  rintro e w1 ⟨ao, cap, us, rfl, ho, hb⟩
  have HO := Lib.hid ho
  have HB := Lib.hid hb
  clear ho hb
  go_wp2
  go_ret
  exact ⟨_, _, rfl, HO.out, HB.out⟩
end Go.Proofs.YtdeagfmldpociaaDoor
