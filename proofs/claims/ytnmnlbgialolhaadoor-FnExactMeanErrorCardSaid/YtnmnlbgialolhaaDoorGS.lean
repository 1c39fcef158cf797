/- Contracts of single functions, and plain lemmas, on which the exact laws of this seat rest; each holds under the conditions that it states. -/
import Derived.Test.YtnmnlbgialolhaaDoorGP
import Derived.Test.YtnmnlbgialolhaaDoorGB
namespace Go.Proofs.YtnmnlbgialolhaaDoor
set_option linter.unusedVariables false
set_option linter.unusedSimpArgs false
open Go.RowKit
attribute [local go_sem] Oper.semAt_some

/-! ### blank rows -/
def zerosN (a : Nat) : List Int := List.replicate a 0
theorem zerosN_len (a : Nat) : (zerosN a).length = a := by simp [zerosN]
theorem zerosN_cells (a : Nat) : List.replicate a (Value.int .i64 0) = numsV (zerosN a) := by simp [zerosN, numsV]

set_option maxHeartbeats 2000000 in
set_option maxRecDepth 100000 in
theorem blankRowsF_any (a n : Nat) (f : Nat → Int) (w : World) (ha : 1 ≤ a ∧ a ≤ 16) (hn : 1 ≤ n ∧ n ≤ 16) :
    Calls Tryd.prog 95 #[.agg (mcells a n f)] w (TookR w n (fun _ => zerosN a)) := by
  obtain ⟨i0, hi, hz0, hz1, hz2⟩ := info_parts infoSl
  obtain ⟨j0, hj, hy0, hy1, hy2⟩ := info_parts infoN64
  obtain ⟨M, hM⟩ : ∃ M, mcells (a : Int) (n : Int) f = M := ⟨_, rfl⟩
  have hb0 := Joins.below_alloc1 w (.cells M 63)
  have hp0 := heap_alloc_last w (.cells M 63)
  rw [hM]
  obtain ⟨W0, hW0⟩ : ∃ W0, w.alloc (.cells M 63) = W0 := ⟨_, rfl⟩
  rw [hW0] at hb0 hp0
  have HW0 := Lib.hid hW0
  have HB0 := Lib.hid hb0
  have HC : Hid (∀ W, Below W0.heap.size W0 W → W.cell? ⟨w.heap.size, 0, none⟩ = some (.int .i64 a) ∧ W.cell? ⟨w.heap.size, 1, none⟩ = some (.int .i64 n)) := fun W hb => by
    have h := (hb.block _ (Array.getElem?_eq_some_iff.1 hp0).1).trans hp0
    rw [← hM] at h
    exact ⟨by rw [Joins.cell_of_block h 0]; rfl, by rw [Joins.cell_of_block h 1]; rfl⟩
  have c1 := (HC.out W0 (Below.refl _ _)).2
  have hle := hb0.size
  have lp : w.heap.size < W0.heap.size := (Array.getElem?_eq_some_iff.1 hp0).1
  obtain ⟨ha1, ha16⟩ := ha
  obtain ⟨hn1, hn16⟩ := hn
  clear hb0 hp0 hM hW0
  go_enter Tryd.func95, Tryd.ntmps95
  go_upto_region 1 with fail
  rw [HW0.out]
  go_wp2_with (at_make; refine wpList_make_full _ rfl _ _ 70 rfl W0.heap.size 88 i0 (.slice none 0 0) 1 Tryd.underlying70 hi hz0 hz1 _ _ _ _ n rfl rfl rfl rfl ?c1 ?c2 (Nat.le_refl _) ?_)
  case c1 => rw [hz2]; omega
  case c2 => unfold maxLen; omega
  intro w1 hown hg
  rw [toList_madeCells_one, rep_nil] at hown
  have hbel : Below W0.heap.size W0 w1 := (Below.refl _ _).grown hg (Nat.le_refl _) (fun k h => by cases h)
  have HO : Hid (OwnR w1 W0.heap.size w1.heap.size (.slice (some ⟨W0.heap.size, 0, none⟩) n n) (fun _ => .slice none 0 0) n (fun i => if i < 0 then zerosN a else [])) :=
    ⟨hown, fun i h => OwnN.nil _ _, fun i h k e => by simp [Value.ownBlock] at e, fun k hk => (hown.lt k hk).2, fun i j h _ _ k e => by simp [Value.ownBlock] at e⟩
  have HB := Lib.hid hbel
  clear hg hown hbel c1
  go_wp2
  go_loopw [10] (fun i wr => ∃ (k : Nat) (us : Nat → Value), k ≤ n ∧ i = .int .i64 k ∧ Hid (∀ i, k ≤ i → us i = .slice none 0 0) ∧ Hid (OwnR wr W0.heap.size wr.heap.size (.slice (some ⟨W0.heap.size, 0, none⟩) n n) us n (fun i => if i < k then zerosN a else [])) ∧ Hid (Below W0.heap.size W0 wr)) (fun i _ => n - (intOf i).toNat)
  case atStart => exact ⟨0, _, Nat.zero_le _, rfl, fun _ _ => rfl, HO, HB⟩
  case round =>
    clear HO HB
    obtain ⟨k, us, hk, rfl, HU, HO, HB⟩ := hrel
    by_cases hlt : k < n
    · have k0 : (0 : Int) ≤ (k : Int) := by omega
      have k1 : (k : Int) < (n : Int) := by omega
      have lg := (HO.out.row.lt _ rfl).2
      have ls := HB.out.size
      have cw := (HC.out wr HB.out).1
      go_wp2_with (at_make; refine wpList_make_full _ rfl _ _ 88 rfl wr.heap.size 2 j0 (.int .i64 0) 1 Tryd.underlying88 hj hy0 hy1 _ _ _ _ a rfl rfl rfl rfl ?d1 ?d2 (Nat.le_refl _) ?_)
      case d1 => first | omega | (rw [hy2]; omega)
      case d2 => unfold maxLen; omega
      intro w2 hown2 hg2
      rw [toList_madeCells_one, zerosN_cells] at hown2
      have hb2 : Below wr.heap.size wr w2 := (Below.refl _ _).grown hg2 (Nat.le_refl _) (fun k h => by cases h)
      have hown : OwnN w2 wr.heap.size (.slice (some ⟨wr.heap.size, 0, none⟩) a a) (zerosN a) := by
        unfold OwnN
        rw [zerosN_len]
        exact hown2
      have hfz := (own_below HO.out.row hb2).frozenAt k
      have hold := (own_below HO.out.row hb2).cellAt k (by omega)
      have hold : w2.cell? ⟨W0.heap.size, k, none⟩ = some (.slice none 0 0) := by
        rw [hold]
        have := HU.out k (Nat.le_refl _)
        simp [hlt, this]
      have HP := Lib.hid (OwnR.put HO.out ls hlt hb2 hown)
      have HB2 := Lib.hid (HB.out.trans (hb2.mono ls))
      have lg2 : W0.heap.size < w2.heap.size := Nat.lt_of_lt_of_le lg hb2.size
      obtain ⟨g, hg⟩ : ∃ g, wr.heap.size = g := ⟨_, rfl⟩
      rw [hg] at HP ⊢
      clear hown hown2 hg2 hb2 HB cw hg
      go_wp2
      go_roundw
      case rel =>
        refine ⟨k + 1, fun i => if i = k then .slice (some ⟨g, 0, none⟩) a a else us i, by omega, by go_num, ?_, ?_, HB2.out.setCell (Nat.le_refl _) _⟩
        rotate_left
        · refine Lib.hid ((HP.out.mono (Nat.le_refl _) (by simp)).congr fun i hi => ?_)
          by_cases e : i = k
          · subst e
            simp
          · by_cases e2 : i < k
            · simp [e, e2, show i < k + 1 by omega]
            · simp [e, e2, show ¬ i < k + 1 by omega]
        · intro i hi
          simp [show ¬ i = k by omega, HU.out i (by omega)]
      case measure => simp [intOf]; omega
    · obtain rfl : k = n := by omega
      have HR := Lib.hid (HO.out.congr fun i hi => show (if i < k then zerosN a else []) = zerosN a from if_pos hi)
      clear HO
      go_wp2
      go_ret
      exact ⟨_, _, rfl, ⟨_, HR.out.mono hle (Nat.le_refl _)⟩, HB0.out.trans (HB.out.mono HB0.out.size)⟩
theorem blankRows_any (a n : Nat) (w : World) (ha : 1 ≤ a ∧ a ≤ 16) (hn : 1 ≤ n ∧ n ≤ 16) :
    Calls Tryd.prog 95 #[.agg (mcells a n (fun _ => 0))] w (TookR w n (fun _ => zerosN a)) := blankRowsF_any a n _ w ha hn
end Go.Proofs.YtnmnlbgialolhaaDoor
