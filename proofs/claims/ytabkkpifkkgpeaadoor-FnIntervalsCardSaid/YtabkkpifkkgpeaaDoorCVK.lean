/- Contracts of single functions, and plain lemmas, on which the exact laws of this seat rest; each holds under the conditions that it states. -/
import Derived.Test.YtabkkpifkkgpeaaDoorCVE
import Derived.Test.YtabkkpifkkgpeaaDoorCV2
import Derived.Test.YtabkkpifkkgpeaaDoorRI
import Derived.Test.YtabkkpifkkgpeaaDoorCVH
import Derived.Deep.RegionHeld3
import Derived.Deep.DeepCutAuto
namespace Go.Proofs.YtabkkpifkkgpeaaDoor
set_option linter.unusedVariables false
set_option linter.unusedSimpArgs false
open Go.RowKit
attribute [local go_sem] Oper.semAt_some

/-! ### the next index in a box -/
def inBx (ax ay bx b_y : Int) (p : Int × Int) : Bool := inB p.1 ax bx && inB p.2 ay b_y
def nxO (f : Nat → Bool) (N s : Nat) : Option Nat := (List.range N).find? fun j => f j && decide (s ≤ j)
theorem nxO_some {f : Nat → Bool} {N s i : Nat} (hi : i < N) (hs : s ≤ i) (hf : f i = true) (hb : ∀ j, s ≤ j → j < i → f j = false) : nxO f N s = some i := by
  unfold nxO
  rw [List.find?_range_eq_some]
  refine ⟨by simp [hf, hs], List.mem_range.2 hi, fun j hj => ?_⟩
  by_cases h : s ≤ j
  · simp [hb j h hj]
  · simp [h]
theorem nxO_none {f : Nat → Bool} {N s : Nat} (hb : ∀ j, s ≤ j → j < N → f j = false) : nxO f N s = none := by
  unfold nxO
  rw [List.find?_range_eq_none]
  intro j hj
  by_cases h : s ≤ j
  · simp [hb j h hj]
  · simp [h]
def bxF (c n : Nat) (ax ay bx b_y : Int) (i : Nat) : Bool := inBx ax ay bx b_y ((cvF c n).getD i (0, 0))
def nbP (c n ax ay bx b_y i : Int) : Bool := (inB c 0 3 && inB n 0 4) && (boxOk n ax ay bx b_y && inB i 0 (sd n * sd n - 1))
def nbO (c n ax ay bx b_y i : Int) : Option Nat := if nbP c n ax ay bx b_y i = true then nxO (bxF c.toNat n.toNat ax ay bx b_y) (cvF c.toNat n.toNat).length i.toNat else none

/-- the two spots of the call in variables -/
structure Bx2 (w W0 : World) (p q : Nat) (ax ay bx b_y : Int) : Prop where
  cells : ∀ W, Below W0.heap.size W0 W → W.cell? ⟨p, 0, none⟩ = some (.int .i64 ax) ∧ W.cell? ⟨p, 1, none⟩ = some (.int .i64 ay) ∧ W.cell? ⟨q, 0, none⟩ = some (.int .i64 bx) ∧ W.cell? ⟨q, 1, none⟩ = some (.int .i64 b_y)

end Go.Proofs.YtabkkpifkkgpeaaDoor

/- Contracts of single functions, and plain lemmas, on which the exact laws of this seat rest; each holds under the conditions that it states. -/
namespace Go.Proofs.YtabkkpifkkgpeaaDoor
set_option linter.unusedVariables false
set_option linter.unusedSimpArgs false
open Go.RowKit
attribute [local go_sem] Oper.semAt_some

/-! ### the indices of a box -/
def ixsV (f : Nat → Bool) (k : Nat) : List Int := ((List.range k).filter f).map fun (i : Nat) => (i : Int)
theorem ixsV_yes {f : Nat → Bool} {k : Nat} (h : f k = true) : ixsV f (k + 1) = ixsV f k ++ [(k : Int)] := by
  unfold ixsV
  rw [List.range_succ, List.filter_append, List.map_append]
  simp [h]
theorem ixsV_no {f : Nat → Bool} {k : Nat} (h : f k = false) : ixsV f (k + 1) = ixsV f k := by
  unfold ixsV
  rw [List.range_succ, List.filter_append, List.map_append]
  simp [h]
theorem ixsV_len (f : Nat → Bool) (k : Nat) : (ixsV f k).length ≤ k := by
  unfold ixsV
  rw [List.length_map]
  have := List.length_filter_le f (List.range k)
  simpa using this

set_option maxHeartbeats 4000000 in
set_option maxRecDepth 100000 in
theorem indices_any (g cap : Nat) (ax ay bx b_y : Int) (L : List (Int × Int)) (w : World) (hS : Spots w g L) (h256 : L.length ≤ 256) :
    Calls Tryd.prog 74 #[.agg #[.int .i64 ax, .int .i64 ay, .int .i64 bx, .int .i64 b_y], .slice (some ⟨g, 0, none⟩) L.length cap] w (fun e w' => ∃ v, e = .returned v ∧ OwnN w' w.heap.size v (ixsV (fun i => inBx ax ay bx b_y (L.getD i (0, 0))) L.length) ∧ Below w.heap.size w w') := by
  obtain ⟨i0, hi0, hz0, hz1, hz2⟩ := info_parts infoN64
  have CH : Hid (∀ x y W, Calls Tryd.prog 130 #[.agg #[.int .i64 ax, .int .i64 ay, .int .i64 bx, .int .i64 b_y], .agg #[.int .i64 x, .int .i64 y]] W (fun e w' => e = .returned (.bool (inBx ax ay bx b_y (x, y))) ∧ Below W.heap.size W w')) := fun x y W => bHas_any ax ay bx b_y x y W
  obtain ⟨f, hf⟩ : ∃ f : Nat → Bool, (fun i => inBx ax ay bx b_y (L.getD i (0, 0))) = f := ⟨_, rfl⟩
  have HFb : Hid (∀ i, inBx ax ay bx b_y ((L.getD i (0, 0)).1, (L.getD i (0, 0)).2) = f i) := fun i => by rw [← hf]
  have HY : Hid (∀ k, f k = true → ixsV f (k + 1) = ixsV f k ++ [(k : Int)]) := fun k h => ixsV_yes h
  have HNo : Hid (∀ k, f k = false → ixsV f (k + 1) = ixsV f k) := fun k h => ixsV_no h
  have HLe := Lib.hid (ixsV_len f)
  have H0 : Hid (ixsV f 0 = []) := rfl
  rw [hf]
  obtain ⟨N, hN⟩ : ∃ N, L.length = N := ⟨_, rfl⟩
  obtain ⟨W0, hW0⟩ : ∃ W0, w.alloc (.cells #[.int .i64 ax, .int .i64 ay, .int .i64 bx, .int .i64 b_y] 91) = W0 := ⟨_, rfl⟩
  have b0 : Below w.heap.size w W0 := by rw [← hW0]; exact Joins.below_alloc1 _ _
  have hp0 : W0.heap[w.heap.size]? = some (.cells #[.int .i64 ax, .int .i64 ay, .int .i64 bx, .int .i64 b_y] 91 (0, 0)) := by
    rw [← hW0]; exact heap_alloc_last w _
  have HX : Hid (∀ W, Below W0.heap.size W0 W → W.cell? ⟨w.heap.size, 0, none⟩ = some (.int .i64 ax) ∧ W.cell? ⟨w.heap.size, 1, none⟩ = some (.int .i64 ay) ∧ W.cell? ⟨w.heap.size, 2, none⟩ = some (.int .i64 bx) ∧ W.cell? ⟨w.heap.size, 3, none⟩ = some (.int .i64 b_y)) := fun W hb =>
    ⟨cell_kept hb (by rw [Joins.cell_of_block hp0 0]; rfl), cell_kept hb (by rw [Joins.cell_of_block hp0 1]; rfl), cell_kept hb (by rw [Joins.cell_of_block hp0 2]; rfl), cell_kept hb (by rw [Joins.cell_of_block hp0 3]; rfl)⟩
  have HSp : Hid (∀ k W, k < N → Below W0.heap.size W0 W → W.cell? ⟨g, k * 2, none⟩ = some (.int .i64 (L.getD k (0, 0)).1) ∧ W.cell? ⟨g, k * 2 + 1, none⟩ = some (.int .i64 (L.getD k (0, 0)).2)) := fun k W hk hb => ⟨cell_kept hb (cell_kept b0 (hS.2 k (by rw [hN]; exact hk)).1), cell_kept hb (cell_kept b0 (hS.2 k (by rw [hN]; exact hk)).2)⟩
  rw [hN] at h256 ⊢
  have B0 := Lib.hid b0
  have HW := Lib.hid hW0
  have l0 := b0.size
  clear hS hN hf hW0 hp0 b0
  go_enter Tryd.func74, Tryd.ntmps74
  go_upto_region 1 with fail
  rw [HW.out]
  go_wp2_with fail
  go_loopw [5, 10] (fun lv iv wr => ∃ (u : Value) (k : Nat), u = lv ∧ k ≤ N ∧ iv = .int .i64 (k : Int) ∧ Hid (OwnN wr W0.heap.size u (ixsV f k)) ∧ Hid (Below W0.heap.size W0 wr)) (fun _ iv _ => N - (intOf iv).toNat)
  case atStart => exact ⟨_, 0, rfl, Nat.zero_le _, rfl, by rw [H0.out]; exact Lib.hid (World.ownsRow_nil _ _ _ _), Lib.hid (Below.refl _ _)⟩
  case round =>
    obtain ⟨lv, k, rfl, hk, rfl, HO, HB⟩ := hrel
    by_cases hlt : k < N
    · have kk : (k : Int) < (N : Int) := by omega
      have kk0 : (0 : Int) ≤ (k : Int) := by omega
      obtain ⟨q0, q1⟩ := HSp.out k _ hlt HB.out
      have hfk := HFb.out k
      have C1 := Lib.hid (fun W => CH.out (L.getD k (0, 0)).1 (L.getD k (0, 0)).2 W)
      rw [hfk] at C1
      obtain ⟨px, hpx⟩ : ∃ z, (L.getD k (0, 0)).1 = z := ⟨_, rfl⟩
      obtain ⟨py, hpy⟩ : ∃ z, (L.getD k (0, 0)).2 = z := ⟨_, rfl⟩
      rw [hpx] at q0 C1
      rw [hpy] at q1 C1
      obtain ⟨fb, hfb⟩ : ∃ b, f k = b := ⟨_, rfl⟩
      rw [hfb] at C1
      have HFk := Lib.hid hfb
      have hbA := Joins.below_alloc1 wr (.cells #[.int .i64 px, .int .i64 py] 29)
      have hpA := heap_alloc_last wr (.cells #[.int .i64 px, .int .i64 py] 29)
      obtain ⟨W5, hW5⟩ : ∃ W5, wr.alloc (.cells #[.int .i64 px, .int .i64 py] 29) = W5 := ⟨_, rfl⟩
      have HB5 := Lib.hid (HB.out.trans (hbA.mono HB.out.size))
      have HO5 := Lib.hid (OwnN.below HO.out hbA)
      rw [hW5] at HB5 HO5 hpA
      have y0 : W5.cell? ⟨wr.heap.size, 0, none⟩ = some (.int .i64 px) := by rw [Joins.cell_of_block hpA 0]; rfl
      have y1 : W5.cell? ⟨wr.heap.size, 1, none⟩ = some (.int .i64 py) := by rw [Joins.cell_of_block hpA 1]; rfl
      have HW5 := Lib.hid hW5
      clear hpx hpy hfb hfk hbA hpA hW5 HO
      go_upto_region 5 with fail
      rw [HW5.out]
      obtain ⟨x0, x1, x2, x3⟩ := HX.out _ HB5.out
      clear q0 q1
      go_wp2_with fail
      refine (C1.out _).mono ?_
      rintro e w6 ⟨rfl, hb6⟩
      have HB6 := Lib.hid (HB5.out.trans (hb6.mono HB5.out.size))
      have HO6 := Lib.hid (OwnN.below HO5.out hb6)
      clear hb6 x0 x1 x2 x3 y0 y1 HO5
      cases fb with
      | false =>
        have HE := Lib.hid (HNo.out k HFk.out)
        go_wp2
        go_roundw
        case rel => exact ⟨_, k + 1, rfl, by omega, by go_num, by rw [HE.out]; exact HO6, HB6.out⟩
        case measure => simp [intOf]; omega
      | true =>
        have HE := Lib.hid (HY.out k HFk.out)
        have hle := HLe.out k
        have hs6 := HB6.out.size
        have hO6 := HO6.out
        unfold OwnN at hO6
        obtain ⟨J, hJ⟩ : ∃ J, ixsV f k = J := ⟨_, rfl⟩
        rw [hJ] at hO6 HE hle
        have HOJ := Lib.hid hO6
        clear hO6 hJ HO6
        go_wp2_with (at_builtin; refine wpList_append_own _ rfl _ _ 39 rfl W0.heap.size 2 i0 (.int .i64 0) 1 8 Tryd.underlying39 hi0 hz0 hz1 hz2 rfl (by decide) _ _ _ rfl (World.ownsRow.alloc HOJ.out _) ⟨w6.heap.size, 0, none⟩ 1 1 [.int .i64 (k : Int)] rfl rfl (cell_one_new _ _ _) (by intro u hu; simp at hu; subst hu; rfl) (by unfold maxLen; omega) (by omega) (by simp; omega) ?_)
        intro v' w7 hown' hgr _
        have o1 := World.ownsRow.alloc HOJ.out (.cells #[.int .i64 (k : Int)] 2)
        have HX7 : Hid (Below W0.heap.size W0 w7) := ((HB6.out.alloc hs6 _).grown hgr (by simp; omega) (fun q hq => (o1.lt q hq).1))
        have HO7 : Hid (OwnN w7 W0.heap.size v' (ixsV f (k + 1))) := by
          show OwnN _ _ _ _
          unfold OwnN
          rw [HE.out, List.length_append, show numsV (J ++ [(k : Int)]) = numsV J ++ [.int .i64 (k : Int)] from by simp [numsV]]
          exact hown'
        clear hown' hgr o1
        go_wp2
        go_roundw
        case rel => exact ⟨_, k + 1, rfl, by omega, by go_num, HO7, HX7.out⟩
        case measure => simp [intOf]; omega
    · obtain rfl : k = N := by omega
      have HB9 := Lib.hid (B0.out.trans (HB.out.mono B0.out.size))
      go_wp2_with fail
      go_ret
      exact ⟨_, rfl, OwnN.mono HO.out l0, HB9.out⟩

set_option maxHeartbeats 4000000 in
set_option maxRecDepth 100000 in
theorem requiredIndices_yes (c n : Nat) (ax ay bx b_y : Int) (w : World) (hc : c < 4) (hn : n ≤ 4) (hQ : QvP w) (hbx : boxB (sd (n : Int)) ax ay bx b_y = true) :
    Calls Tryd.prog 64 #[.agg #[.int .i64 (c : Int), .int .i64 (n : Int)], .agg #[.int .i64 ax, .int .i64 ay], .agg #[.int .i64 bx, .int .i64 b_y]] w (fun e w' => ∃ v, e = .returned v ∧ OwnN w' w.heap.size v (ixsV (bxF c n ax ay bx b_y) (2 ^ n * 2 ^ n)) ∧ Below w.heap.size w w') := by
  obtain ⟨W0, hW0⟩ : ∃ W0, (((w.alloc (.cells #[.int .i64 (c : Int), .int .i64 (n : Int)] 71)).alloc (.cells #[.int .i64 ax, .int .i64 ay] 29)).alloc (.cells #[.int .i64 bx, .int .i64 b_y] 29)) = W0 := ⟨_, rfl⟩
  have b0 : Below w.heap.size w W0 := by rw [← hW0]; exact Joins.below_alloc3 _ _ _ _
  have hp0 : W0.heap[w.heap.size]? = some (.cells #[.int .i64 (c : Int), .int .i64 (n : Int)] 71 (0, 0)) := by
    rw [← hW0, Below.heap_alloc _ _ _ (by first | (simp; done) | (simp; omega)), Below.heap_alloc _ _ _ (by simp)]; exact heap_alloc_last w _
  have ha0 : W0.heap[w.heap.size + 1]? = some (.cells #[.int .i64 ax, .int .i64 ay] 29 (0, 0)) := by
    rw [← hW0, Below.heap_alloc _ _ _ (by simp)]
    exact heap_alloc2_new _ _ _
  have hr0 : W0.heap[w.heap.size + 1 + 1]? = some (.cells #[.int .i64 bx, .int .i64 b_y] 29 (0, 0)) := by
    rw [← hW0]
    have := heap_alloc_last ((w.alloc (.cells #[.int .i64 (c : Int), .int .i64 (n : Int)] 71)).alloc (.cells #[.int .i64 ax, .int .i64 ay] 29)) (.cells #[.int .i64 bx, .int .i64 b_y] 29)
    simpa only [World.size_alloc] using this
  have d0 : W0.cell? ⟨w.heap.size + 1, 0, none⟩ = some (.int .i64 ax) := by rw [Joins.cell_of_block ha0 0]; rfl
  have d1 : W0.cell? ⟨w.heap.size + 1, 1, none⟩ = some (.int .i64 ay) := by rw [Joins.cell_of_block ha0 1]; rfl
  have e0 : W0.cell? ⟨w.heap.size + 1 + 1, 0, none⟩ = some (.int .i64 bx) := by rw [Joins.cell_of_block hr0 0]; rfl
  have e1 : W0.cell? ⟨w.heap.size + 1 + 1, 1, none⟩ = some (.int .i64 b_y) := by rw [Joins.cell_of_block hr0 1]; rfl
  have HW := Lib.hid hW0
  have hbA := Joins.below_alloc1 W0 (.cells #[.int .i64 ax, .int .i64 ay, .int .i64 bx, .int .i64 b_y] 91)
  have hbx0 := heap_alloc_last W0 (.cells #[.int .i64 ax, .int .i64 ay, .int .i64 bx, .int .i64 b_y] 91)
  obtain ⟨W2, hW2⟩ : ∃ W2, W0.alloc (.cells #[.int .i64 ax, .int .i64 ay, .int .i64 bx, .int .i64 b_y] 91) = W2 := ⟨_, rfl⟩
  obtain ⟨pb, hpb⟩ : ∃ p, W0.heap.size = p := ⟨_, rfl⟩
  have HBw := Lib.hid (b0.trans (hbA.mono b0.size))
  rw [hW2] at hbA hbx0 HBw
  rw [hpb] at hbx0
  have HX : Hid (∀ W, Below W2.heap.size W2 W → (W.cell? ⟨pb, 0, none⟩ = some (.int .i64 ax) ∧ W.cell? ⟨pb, 1, none⟩ = some (.int .i64 ay) ∧ W.cell? ⟨pb, 2, none⟩ = some (.int .i64 bx) ∧ W.cell? ⟨pb, 3, none⟩ = some (.int .i64 b_y)) ∧ W.cell? ⟨w.heap.size, 0, none⟩ = some (.int .i64 (c : Int)) ∧ W.cell? ⟨w.heap.size, 1, none⟩ = some (.int .i64 (n : Int))) := fun W hb =>
    ⟨⟨cell_kept hb (by rw [Joins.cell_of_block hbx0 0]; rfl), cell_kept hb (by rw [Joins.cell_of_block hbx0 1]; rfl), cell_kept hb (by rw [Joins.cell_of_block hbx0 2]; rfl), cell_kept hb (by rw [Joins.cell_of_block hbx0 3]; rfl)⟩, cell_kept hb (cell_kept hbA (by rw [Joins.cell_of_block hp0 0]; rfl)), cell_kept hb (cell_kept hbA (by rw [Joins.cell_of_block hp0 1]; rfl))⟩
  have HW2 := Lib.hid hW2
  have HPb := Lib.hid hpb
  have CQ := Lib.hid (fun W => square_any (c : Int) (n : Int) W (by omega) (by omega))
  have CIn : Hid (∀ W, Calls Tryd.prog 68 #[.agg #[.int .i64 ax, .int .i64 ay, .int .i64 bx, .int .i64 b_y], .agg (mcells (sd (n : Int)) (sd (n : Int)) (fun _ => 0))] W (fun e w' => e = .returned (.bool true) ∧ Below W.heap.size W w')) := fun W => by
    have := isIn_any (sd (n : Int)) ax ay bx b_y W
    rw [isInB_box, hbx] at this
    exact this
  obtain ⟨M, hM⟩ : ∃ M, mcells (sd (n : Int)) (sd (n : Int)) (fun _ => 0) = M := ⟨_, rfl⟩
  rw [hM] at CQ CIn
  have CX0 : ∀ W, Below w.heap.size w W → Calls Tryd.prog 50 #[.agg #[.int .i64 (c : Int), .int .i64 (n : Int)]] W (TookSpots W (cvF c n)) := fun W hb => spots_made c n W hc hn (hQ.below hb)
  have CIx0 : ∀ (g cap : Nat) (W : World), Spots W g (cvF c n) → Calls Tryd.prog 74 #[.agg #[.int .i64 ax, .int .i64 ay, .int .i64 bx, .int .i64 b_y], .slice (some ⟨g, 0, none⟩) (cvF c n).length cap] W (fun e w' => ∃ v, e = .returned v ∧ OwnN w' W.heap.size v (ixsV (bxF c n ax ay bx b_y) (2 ^ n * 2 ^ n)) ∧ Below W.heap.size W w') := fun g cap W hS => by
    have h256 : (cvF c n).length ≤ 256 := by rw [cvF_len]; exact Nat.mul_le_mul (pow_le16 hn) (pow_le16 hn)
    have := indices_any g cap ax ay bx b_y (cvF c n) W hS h256
    rw [cvF_len] at this ⊢
    exact this
  obtain ⟨F, hF⟩ : ∃ F, cvF c n = F := ⟨_, rfl⟩
  obtain ⟨V, hV⟩ : ∃ V, ixsV (bxF c n ax ay bx b_y) (2 ^ n * 2 ^ n) = V := ⟨_, rfl⟩
  rw [hF] at CX0 CIx0
  rw [hV] at CIx0 ⊢
  unfold TookSpots at CX0
  have HCX := Lib.hid CX0
  have CIx := Lib.hid CIx0
  clear b0 hW0 hp0 ha0 hr0 hbA hbx0 hW2 hpb hM hF hV hbx hQ CX0 CIx0 hc hn
  go_enter Tryd.func64, Tryd.ntmps64
  go_upto_region 1 with fail
  rw [HW.out]
  go_upto_region 2 with fail
  rw [HW2.out, HPb.out]
  refine wp_region_inv_at (by kernel_rfl) (fun A0 L A W => ∃ (b0 b1 b2 b3 b4 : Bool) (v11 v12 v13 v14 v15 : Value), L = #[b0, b1, b2, b3, b4] ∧ A = (((((A0.put (some 11) v11).put (some 12) v12).put (some 13) v13).put (some 14) v14).put (some 15) v15) ∧ (Below W2.heap.size W2 W) ∧ Hid (b0 = true → v11 = .agg #[.int .i64 ax, .int .i64 ay, .int .i64 bx, .int .i64 b_y]) ∧ Hid (b1 = true → v12 = .agg #[.int .i64 (c : Int), .int .i64 (n : Int)]) ∧ Hid (b2 = true → v13 = .agg M) ∧ Hid (b3 = true → v14 = .bool true) ∧ Hid (b4 = true → v15 = .tuple #[])) ?_ ?_ ?_
  · intro A0
    refine ⟨false, false, false, false, false, A0.tmps.getD 11 undef, A0.tmps.getD 12 undef, A0.tmps.getD 13 undef, A0.tmps.getD 14 undef, A0.tmps.getD 15 undef, rfl, (by simp only [put_self]), (Below.refl _ _).drew, Lib.hid (fun hf => by cases hf), Lib.hid (fun hf => by cases hf), Lib.hid (fun hf => by cases hf), Lib.hid (fun hf => by cases hf), Lib.hid (fun hf => by cases hf)⟩
  · intro L A W hI i hi o ho K' hK
    have hlt := (ready_left hi).1
    have hun := (ready_left hi).2
    have haf := ready_after hi ho
    clear hi
    obtain ⟨b0, b1, b2, b3, b4, v11, v12, v13, v14, v15, rfl, rfl, hB, h0, h1, h2, h3, h4⟩ := hI
    have hc : i = 0 ∨ i = 1 ∨ i = 2 ∨ i = 3 ∨ i = 4 := by
      simp at hlt
      omega
    have qq := HX.out W hB
    obtain ⟨⟨q0, q1, q2, q3⟩, q4, q5⟩ := qq
    rcases hc with rfl | rfl | rfl | rfl | rfl
    all_goals (obtain rfl := Option.some.inj ho; clear ho; simp [Region.binds] at haf hun; (try simp only [List.getElem_toArray, List.getElem_cons_zero, List.getElem_cons_succ]); simp only [Act.put, List.setIfInBounds_toArray, List.set_cons_zero, List.set_cons_succ])
    · -- operation 0
      replace hK := Lib.hid hK
      subst hun
      go_simp
      exact hK.out _ _ ⟨true, b1, b2, b3, b4, .agg #[.int .i64 ax, .int .i64 ay, .int .i64 bx, .int .i64 b_y], v12, v13, v14, v15, rfl, (by simp only [Act.put, List.setIfInBounds_toArray, List.set_cons_zero, List.set_cons_succ]), hB, Lib.hid (fun _ => rfl), h1, h2, h3, h4⟩
    · -- operation 1
      replace hK := Lib.hid hK
      subst hun
      go_simp
      exact hK.out _ _ ⟨b0, true, b2, b3, b4, v11, .agg #[.int .i64 (c : Int), .int .i64 (n : Int)], v13, v14, v15, rfl, (by simp only [Act.put, List.setIfInBounds_toArray, List.set_cons_zero, List.set_cons_succ]), hB, h0, Lib.hid (fun _ => rfl), h2, h3, h4⟩
    · -- operation 2
      replace hK := Lib.hid hK
      obtain rfl := (h1.out (by simp only [haf])).symm
      subst hun
      go_simp
      refine (CQ.out W).mono ?_
      rintro e W' ⟨rfl, hb⟩
      have hkept := fun kb (hk : kb < W.heap.size) => hb.block kb hk
      exact hK.out _ _ ⟨b0, b1, true, b3, b4, v11, .agg #[.int .i64 (c : Int), .int .i64 (n : Int)], .agg M, v14, v15, rfl, (by simp only [Act.put, List.setIfInBounds_toArray, List.set_cons_zero, List.set_cons_succ]), hB.trans (hb.mono hB.size), h0, Lib.hid (fun _ => rfl), Lib.hid (fun _ => rfl), h3, h4⟩
    · -- operation 3
      replace hK := Lib.hid hK
      obtain rfl := (h0.out (by simp only [haf])).symm
      obtain rfl := (h2.out (by simp only [haf])).symm
      subst hun
      go_simp
      refine (CIn.out W).mono ?_
      rintro e W' ⟨rfl, hb⟩
      have hkept := fun kb (hk : kb < W.heap.size) => hb.block kb hk
      exact hK.out _ _ ⟨b0, b1, b2, true, b4, .agg #[.int .i64 ax, .int .i64 ay, .int .i64 bx, .int .i64 b_y], v12, .agg M, .bool true, v15, rfl, (by simp only [Act.put, List.setIfInBounds_toArray, List.set_cons_zero, List.set_cons_succ]), hB.trans (hb.mono hB.size), Lib.hid (fun _ => rfl), h1, Lib.hid (fun _ => rfl), Lib.hid (fun _ => rfl), h4⟩
    · -- operation 4
      replace hK := Lib.hid hK
      obtain rfl := (h3.out (by simp only [haf])).symm
      subst hun
      go_simp
      refine (require_yes W).mono ?_
      rintro e W' ⟨rfl, hb⟩
      replace hb : Below W.heap.size W W' := by rw [hb]; exact Below.refl _ _
      have hkept := fun kb (hk : kb < W.heap.size) => hb.block kb hk
      exact hK.out _ _ ⟨b0, b1, b2, b3, true, v11, v12, v13, .bool true, .tuple #[], rfl, (by simp only [Act.put, List.setIfInBounds_toArray, List.set_cons_zero, List.set_cons_succ]), hB.trans (hb.mono hB.size), h0, h1, h2, Lib.hid (fun _ => rfl), Lib.hid (fun _ => rfl)⟩
  intro L A W hI hr
  obtain ⟨b0, b1, b2, b3, b4, v11, v12, v13, v14, v15, rfl, rfl, hB, h0, h1, h2, h3, h4⟩ := hI
  have d0 := ready_done hr 0 _ rfl (by simp [Region.binds])
  have d1 := ready_done hr 1 _ rfl (by simp [Region.binds])
  simp at d0 d1
  subst d0 d1
  have d2 := ready_done hr 2 _ rfl (by simp [Region.binds])
  simp at d2
  subst d2
  have d3 := ready_done hr 3 _ rfl (by simp [Region.binds])
  simp at d3
  subst d3
  have d4 := ready_done hr 4 _ rfl (by simp [Region.binds])
  simp at d4
  subst d4
  obtain rfl := (h0.out rfl).symm
  obtain rfl := (h1.out rfl).symm
  obtain rfl := (h2.out rfl).symm
  obtain rfl := (h3.out rfl).symm
  obtain rfl := (h4.out rfl).symm
  simp only [Act.put, List.setIfInBounds_toArray, List.set_cons_zero, List.set_cons_succ]
  clear hr h0 h1 h2 h3 h4
  have HB2 := Lib.hid hB
  clear hB
  have HBz := Lib.hid (HBw.out.trans (HB2.out.mono HBw.out.size))
  have HX3 := Lib.hid (fun W3 (hb3 : Below W2.heap.size W2 W3) W (hb : Below W3.heap.size W3 W) => HX.out W (hb3.trans (hb.mono hb3.size)))
  go_upto_region 3 with fail
  revert HB2 HBz
  generalize W = W3
  intro HB2 HBz
  replace HX3 := Lib.hid (HX3.out W3 HB2.out)
  have CX : Hid (∀ W, Below W3.heap.size W3 W → Calls Tryd.prog 50 #[.agg #[.int .i64 (c : Int), .int .i64 (n : Int)]] W (fun e w' => ∃ g cap, e = .returned (.slice (some ⟨g, 0, none⟩) F.length cap) ∧ OwnS w' W.heap.size (.slice (some ⟨g, 0, none⟩) F.length cap) F ∧ Below W.heap.size W w')) := fun W hb => HCX.out W (HBz.out.trans (hb.mono HBz.out.size))
  clear HX HB2 HCX CQ CIn
  go_region_held3 (fun w' => (w'.cell? ⟨pb, 0, none⟩ = some (.int .i64 ax) ∧ w'.cell? ⟨pb, 1, none⟩ = some (.int .i64 ay) ∧ w'.cell? ⟨pb, 2, none⟩ = some (.int .i64 bx) ∧ w'.cell? ⟨pb, 3, none⟩ = some (.int .i64 b_y)) ∧ w'.cell? ⟨w.heap.size, 0, none⟩ = some (.int .i64 (c : Int)) ∧ w'.cell? ⟨w.heap.size, 1, none⟩ = some (.int .i64 (n : Int)))
    (first | exact HX3.out _ (Below.refl _ _) | exact HX3.out _ (Below.refl _ _).drew | exact HX3.out _ ((Below.refl _ _).drew.trans hb4) | exact HX3.out _ (((Below.refl _ _).drew.trans hb4).trans (hb5.mono hb4.size)))
    (first | (go_at_call 50; refine (CX.out _ (Below.refl _ _).drew).mono ?_; rintro e w4 ⟨g, cap, rfl, hown, hb4⟩) | (go_at_call 74; refine (CIx.out _ _ _ (OwnS.spots hown)).mono ?_; rintro e w5 ⟨v, rfl, hv, hb5⟩))
  have hb35 := ((Below.refl W3.heap.size W3).drew.trans hb4).trans (hb5.mono hb4.size)
  have B5 := Lib.hid (HBz.out.trans (hb35.mono HBz.out.size))
  have HV := Lib.hid (OwnN.mono hv (Nat.le_trans HBz.out.size (Nat.le_trans (show W3.heap.size ≤ w4.heap.size from hb4.size) (Nat.le_refl _))))
  clear hb4 hb5 hb35 hv hown HX3 CX CIx
  go_wp2_with fail
  go_ret
  exact ⟨_, rfl, HV.out, B5.out⟩

set_option maxHeartbeats 4000000 in
set_option maxRecDepth 100000 in
theorem requiredIndices_no (c n : Nat) (ax ay bx b_y : Int) (w : World) (hn : n ≤ 4) (hr : NoRes w) (hbx : boxB (sd (n : Int)) ax ay bx b_y = false) :
    Calls Tryd.prog 64 #[.agg #[.int .i64 (c : Int), .int .i64 (n : Int)], .agg #[.int .i64 ax, .int .i64 ay], .agg #[.int .i64 bx, .int .i64 b_y]] w (fun e w' => (∃ T x, e = .panicked [{ v := .iface T x, recovered := false }]) ∧ Below w.heap.size w w') := by
  obtain ⟨W0, hW0⟩ : ∃ W0, (((w.alloc (.cells #[.int .i64 (c : Int), .int .i64 (n : Int)] 71)).alloc (.cells #[.int .i64 ax, .int .i64 ay] 29)).alloc (.cells #[.int .i64 bx, .int .i64 b_y] 29)) = W0 := ⟨_, rfl⟩
  have b0 : Below w.heap.size w W0 := by rw [← hW0]; exact Joins.below_alloc3 _ _ _ _
  have hp0 : W0.heap[w.heap.size]? = some (.cells #[.int .i64 (c : Int), .int .i64 (n : Int)] 71 (0, 0)) := by
    rw [← hW0, Below.heap_alloc _ _ _ (by first | (simp; done) | (simp; omega)), Below.heap_alloc _ _ _ (by simp)]; exact heap_alloc_last w _
  have ha0 : W0.heap[w.heap.size + 1]? = some (.cells #[.int .i64 ax, .int .i64 ay] 29 (0, 0)) := by
    rw [← hW0, Below.heap_alloc _ _ _ (by simp)]
    exact heap_alloc2_new _ _ _
  have hr0 : W0.heap[w.heap.size + 1 + 1]? = some (.cells #[.int .i64 bx, .int .i64 b_y] 29 (0, 0)) := by
    rw [← hW0]
    have := heap_alloc_last ((w.alloc (.cells #[.int .i64 (c : Int), .int .i64 (n : Int)] 71)).alloc (.cells #[.int .i64 ax, .int .i64 ay] 29)) (.cells #[.int .i64 bx, .int .i64 b_y] 29)
    simpa only [World.size_alloc] using this
  have d0 : W0.cell? ⟨w.heap.size + 1, 0, none⟩ = some (.int .i64 ax) := by rw [Joins.cell_of_block ha0 0]; rfl
  have d1 : W0.cell? ⟨w.heap.size + 1, 1, none⟩ = some (.int .i64 ay) := by rw [Joins.cell_of_block ha0 1]; rfl
  have e0 : W0.cell? ⟨w.heap.size + 1 + 1, 0, none⟩ = some (.int .i64 bx) := by rw [Joins.cell_of_block hr0 0]; rfl
  have e1 : W0.cell? ⟨w.heap.size + 1 + 1, 1, none⟩ = some (.int .i64 b_y) := by rw [Joins.cell_of_block hr0 1]; rfl
  have HW := Lib.hid hW0
  have hbA := Joins.below_alloc1 W0 (.cells #[.int .i64 ax, .int .i64 ay, .int .i64 bx, .int .i64 b_y] 91)
  have hbx0 := heap_alloc_last W0 (.cells #[.int .i64 ax, .int .i64 ay, .int .i64 bx, .int .i64 b_y] 91)
  obtain ⟨W2, hW2⟩ : ∃ W2, W0.alloc (.cells #[.int .i64 ax, .int .i64 ay, .int .i64 bx, .int .i64 b_y] 91) = W2 := ⟨_, rfl⟩
  obtain ⟨pb, hpb⟩ : ∃ p, W0.heap.size = p := ⟨_, rfl⟩
  have HBw := Lib.hid (b0.trans (hbA.mono b0.size))
  rw [hW2] at hbA hbx0 HBw
  rw [hpb] at hbx0
  have HX : Hid (∀ W, Below W2.heap.size W2 W → (W.cell? ⟨pb, 0, none⟩ = some (.int .i64 ax) ∧ W.cell? ⟨pb, 1, none⟩ = some (.int .i64 ay) ∧ W.cell? ⟨pb, 2, none⟩ = some (.int .i64 bx) ∧ W.cell? ⟨pb, 3, none⟩ = some (.int .i64 b_y)) ∧ W.cell? ⟨w.heap.size, 0, none⟩ = some (.int .i64 (c : Int)) ∧ W.cell? ⟨w.heap.size, 1, none⟩ = some (.int .i64 (n : Int))) := fun W hb =>
    ⟨⟨cell_kept hb (by rw [Joins.cell_of_block hbx0 0]; rfl), cell_kept hb (by rw [Joins.cell_of_block hbx0 1]; rfl), cell_kept hb (by rw [Joins.cell_of_block hbx0 2]; rfl), cell_kept hb (by rw [Joins.cell_of_block hbx0 3]; rfl)⟩, cell_kept hb (cell_kept hbA (by rw [Joins.cell_of_block hp0 0]; rfl)), cell_kept hb (cell_kept hbA (by rw [Joins.cell_of_block hp0 1]; rfl))⟩
  have HW2 := Lib.hid hW2
  have HPb := Lib.hid hpb
  have CQ := Lib.hid (fun W => square_any (c : Int) (n : Int) W (by omega) (by omega))
  have CIn : Hid (∀ W, Calls Tryd.prog 68 #[.agg #[.int .i64 ax, .int .i64 ay, .int .i64 bx, .int .i64 b_y], .agg (mcells (sd (n : Int)) (sd (n : Int)) (fun _ => 0))] W (fun e w' => e = .returned (.bool false) ∧ Below W.heap.size W w')) := fun W => by
    have := isIn_any (sd (n : Int)) ax ay bx b_y W
    rw [isInB_box, hbx] at this
    exact this
  obtain ⟨M, hM⟩ : ∃ M, mcells (sd (n : Int)) (sd (n : Int)) (fun _ => 0) = M := ⟨_, rfl⟩
  rw [hM] at CQ CIn
  have CN : Hid (∀ W, Below W2.heap.size W2 W → Calls Tryd.prog 53 #[.bool false] W fun e w' => (∃ T x, e = .panicked [{ v := .iface T x, recovered := false }]) ∧ w' = W) := fun W hb => (require_no W (hr.below (HBw.out.trans (hb.mono HBw.out.size)))).mono fun e w' ⟨T, x, h1, h2⟩ => ⟨⟨T, x, h1⟩, h2⟩
  clear b0 hW0 hp0 ha0 hr0 hbA hbx0 hW2 hpb hM hbx hr hn
  go_enter Tryd.func64, Tryd.ntmps64
  go_upto_region 1 with fail
  rw [HW.out]
  go_upto_region 2 with fail
  rw [HW2.out, HPb.out]
  refine wp_region_inv_at (by kernel_rfl) (fun A0 L A W => ∃ (b0 b1 b2 b3 b4 : Bool) (v11 v12 v13 v14 v15 : Value), L = #[b0, b1, b2, b3, b4] ∧ A = (((((A0.put (some 11) v11).put (some 12) v12).put (some 13) v13).put (some 14) v14).put (some 15) v15) ∧ (Below W2.heap.size W2 W) ∧ Hid (b0 = true → v11 = .agg #[.int .i64 ax, .int .i64 ay, .int .i64 bx, .int .i64 b_y]) ∧ Hid (b1 = true → v12 = .agg #[.int .i64 (c : Int), .int .i64 (n : Int)]) ∧ Hid (b2 = true → v13 = .agg M) ∧ Hid (b3 = true → v14 = .bool false) ∧ Hid (b4 = true → False)) ?_ ?_ ?_
  · intro A0
    refine ⟨false, false, false, false, false, A0.tmps.getD 11 undef, A0.tmps.getD 12 undef, A0.tmps.getD 13 undef, A0.tmps.getD 14 undef, A0.tmps.getD 15 undef, rfl, (by simp only [put_self]), (Below.refl _ _).drew, Lib.hid (fun hf => by cases hf), Lib.hid (fun hf => by cases hf), Lib.hid (fun hf => by cases hf), Lib.hid (fun hf => by cases hf), Lib.hid (fun hf => by cases hf)⟩
  · intro L A W hI i hi o ho K' hK
    have hlt := (ready_left hi).1
    have hun := (ready_left hi).2
    have haf := ready_after hi ho
    clear hi
    obtain ⟨b0, b1, b2, b3, b4, v11, v12, v13, v14, v15, rfl, rfl, hB, h0, h1, h2, h3, h4⟩ := hI
    have hc : i = 0 ∨ i = 1 ∨ i = 2 ∨ i = 3 ∨ i = 4 := by
      simp at hlt
      omega
    have qq := HX.out W hB
    obtain ⟨⟨q0, q1, q2, q3⟩, q4, q5⟩ := qq
    rcases hc with rfl | rfl | rfl | rfl | rfl
    all_goals (obtain rfl := Option.some.inj ho; clear ho; simp [Region.binds] at haf hun; (try simp only [List.getElem_toArray, List.getElem_cons_zero, List.getElem_cons_succ]); simp only [Act.put, List.setIfInBounds_toArray, List.set_cons_zero, List.set_cons_succ])
    · -- operation 0
      replace hK := Lib.hid hK
      subst hun
      go_simp
      exact hK.out _ _ ⟨true, b1, b2, b3, b4, .agg #[.int .i64 ax, .int .i64 ay, .int .i64 bx, .int .i64 b_y], v12, v13, v14, v15, rfl, (by simp only [Act.put, List.setIfInBounds_toArray, List.set_cons_zero, List.set_cons_succ]), hB, Lib.hid (fun _ => rfl), h1, h2, h3, h4⟩
    · -- operation 1
      replace hK := Lib.hid hK
      subst hun
      go_simp
      exact hK.out _ _ ⟨b0, true, b2, b3, b4, v11, .agg #[.int .i64 (c : Int), .int .i64 (n : Int)], v13, v14, v15, rfl, (by simp only [Act.put, List.setIfInBounds_toArray, List.set_cons_zero, List.set_cons_succ]), hB, h0, Lib.hid (fun _ => rfl), h2, h3, h4⟩
    · -- operation 2
      replace hK := Lib.hid hK
      obtain rfl := (h1.out (by simp only [haf])).symm
      subst hun
      go_simp
      refine (CQ.out W).mono ?_
      rintro e W' ⟨rfl, hb⟩
      have hkept := fun kb (hk : kb < W.heap.size) => hb.block kb hk
      exact hK.out _ _ ⟨b0, b1, true, b3, b4, v11, .agg #[.int .i64 (c : Int), .int .i64 (n : Int)], .agg M, v14, v15, rfl, (by simp only [Act.put, List.setIfInBounds_toArray, List.set_cons_zero, List.set_cons_succ]), hB.trans (hb.mono hB.size), h0, Lib.hid (fun _ => rfl), Lib.hid (fun _ => rfl), h3, h4⟩
    · -- operation 3
      replace hK := Lib.hid hK
      obtain rfl := (h0.out (by simp only [haf])).symm
      obtain rfl := (h2.out (by simp only [haf])).symm
      subst hun
      go_simp
      refine (CIn.out W).mono ?_
      rintro e W' ⟨rfl, hb⟩
      have hkept := fun kb (hk : kb < W.heap.size) => hb.block kb hk
      exact hK.out _ _ ⟨b0, b1, b2, true, b4, .agg #[.int .i64 ax, .int .i64 ay, .int .i64 bx, .int .i64 b_y], v12, .agg M, .bool false, v15, rfl, (by simp only [Act.put, List.setIfInBounds_toArray, List.set_cons_zero, List.set_cons_succ]), hB.trans (hb.mono hB.size), Lib.hid (fun _ => rfl), h1, Lib.hid (fun _ => rfl), Lib.hid (fun _ => rfl), h4⟩
    · -- operation 4
      replace hK := Lib.hid hK
      obtain rfl := (h3.out (by simp only [haf])).symm
      subst hun
      go_simp
      refine (CN.out W hB).mono ?_
      rintro e W' ⟨⟨T, p, rfl⟩, rfl⟩
      go_wp2
      exact ⟨rfl, ⟨T, p, rfl⟩, HBw.out.trans (hB.mono HBw.out.size)⟩
  intro L A W hI hr
  obtain ⟨b0, b1, b2, b3, b4, v11, v12, v13, v14, v15, rfl, rfl, hB, h0, h1, h2, h3, h4⟩ := hI
  have d0 := ready_done hr 0 _ rfl (by simp [Region.binds])
  have d1 := ready_done hr 1 _ rfl (by simp [Region.binds])
  simp at d0 d1
  subst d0 d1
  have d2 := ready_done hr 2 _ rfl (by simp [Region.binds])
  simp at d2
  subst d2
  have d3 := ready_done hr 3 _ rfl (by simp [Region.binds])
  simp at d3
  subst d3
  have d4 := ready_done hr 4 _ rfl (by simp [Region.binds])
  simp at d4
  subst d4
  exact (h4.out rfl).elim
end Go.Proofs.YtabkkpifkkgpeaaDoor
