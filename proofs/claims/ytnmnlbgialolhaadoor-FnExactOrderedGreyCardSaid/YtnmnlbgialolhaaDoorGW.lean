/- Contracts of single functions, and plain lemmas, on which the exact laws of this seat rest; each holds under the conditions that it states. -/
import Derived.Test.YtnmnlbgialolhaaDoorGP
import Derived.Test.YtnmnlbgialolhaaDoorGA
import Derived.Test.YtnmnlbgialolhaaDoorV5
namespace Go.Proofs.YtnmnlbgialolhaaDoor
set_option linter.unusedVariables false
set_option linter.unusedSimpArgs false
open Go.RowKit
attribute [local go_sem] Oper.semAt_some

/-! ### blank rows -/
def zerosN (a : Nat) : List Int := List.replicate a 0
theorem zerosN_len (a : Nat) : (zerosN a).length = a := by simp [zerosN]
theorem zerosN_cells (a : Nat) : List.replicate a (Value.int .i64 0) = numsV (zerosN a) := by simp [zerosN, numsV]

set_option maxHeartbeats 2000000 in
set_option maxRecDepth 100000 in
theorem blankRowsF_any (a n : Nat) (f : Nat → Int) (w : World) (ha : 1 ≤ a ∧ a ≤ 16) (hn : 1 ≤ n ∧ n ≤ 16) :
    Calls Tryd.prog 95 #[.agg (mcells a n f)] w (TookR w n (fun _ => zerosN a)) := by
  obtain ⟨i0, hi, hz0, hz1, hz2⟩ := info_parts infoSl
  obtain ⟨j0, hj, hy0, hy1, hy2⟩ := info_parts infoN64
  obtain ⟨M, hM⟩ : ∃ M, mcells (a : Int) (n : Int) f = M := ⟨_, rfl⟩
  have hb0 := Joins.below_alloc1 w (.cells M 63)
  have hp0 := heap_alloc_last w (.cells M 63)
  rw [hM]
  obtain ⟨W0, hW0⟩ : ∃ W0, w.alloc (.cells M 63) = W0 := ⟨_, rfl⟩
  rw [hW0] at hb0 hp0
  have HW0 := Lib.hid hW0
  have HB0 := Lib.hid hb0
  have HC : Hid (∀ W, Below W0.heap.size W0 W → W.cell? ⟨w.heap.size, 0, none⟩ = some (.int .i64 a) ∧ W.cell? ⟨w.heap.size, 1, none⟩ = some (.int .i64 n)) := fun W hb => by
    have h := (hb.block _ (Array.getElem?_eq_some_iff.1 hp0).1).trans hp0
    rw [← hM] at h
    exact ⟨by rw [Joins.cell_of_block h 0]; rfl, by rw [Joins.cell_of_block h 1]; rfl⟩
  have c1 := (HC.out W0 (Below.refl _ _)).2
  have hle := hb0.size
  have lp : w.heap.size < W0.heap.size := (Array.getElem?_eq_some_iff.1 hp0).1
  obtain ⟨ha1, ha16⟩ := ha
  obtain ⟨hn1, hn16⟩ := hn
  clear hb0 hp0 hM hW0
  go_enter Tryd.func95, Tryd.ntmps95
  go_upto_region 1 with fail
  rw [HW0.out]
  go_wp2_with (at_make; refine wpList_make_full _ rfl _ _ 70 rfl W0.heap.size 88 i0 (.slice none 0 0) 1 Tryd.underlying70 hi hz0 hz1 _ _ _ _ n rfl rfl rfl rfl ?c1 ?c2 (Nat.le_refl _) ?_)
  case c1 => rw [hz2]; omega
  case c2 => unfold maxLen; omega
  intro w1 hown hg
  rw [toList_madeCells_one, rep_nil] at hown
  have hbel : Below W0.heap.size W0 w1 := (Below.refl _ _).grown hg (Nat.le_refl _) (fun k h => by cases h)
  have HO : Hid (OwnR w1 W0.heap.size w1.heap.size (.slice (some ⟨W0.heap.size, 0, none⟩) n n) (fun _ => .slice none 0 0) n (fun i => if i < 0 then zerosN a else [])) :=
    ⟨hown, fun i h => OwnN.nil _ _, fun i h k e => by simp [Value.ownBlock] at e, fun k hk => (hown.lt k hk).2, fun i j h _ _ k e => by simp [Value.ownBlock] at e⟩
  have HB := Lib.hid hbel
  clear hg hown hbel c1
  go_wp2
  go_loopw [10] (fun i wr => ∃ (k : Nat) (us : Nat → Value), k ≤ n ∧ i = .int .i64 k ∧ Hid (∀ i, k ≤ i → us i = .slice none 0 0) ∧ Hid (OwnR wr W0.heap.size wr.heap.size (.slice (some ⟨W0.heap.size, 0, none⟩) n n) us n (fun i => if i < k then zerosN a else [])) ∧ Hid (Below W0.heap.size W0 wr)) (fun i _ => n - (intOf i).toNat)
  case atStart => exact ⟨0, _, Nat.zero_le _, rfl, fun _ _ => rfl, HO, HB⟩
  case round =>
    clear HO HB
    obtain ⟨k, us, hk, rfl, HU, HO, HB⟩ := hrel
    by_cases hlt : k < n
    · have k0 : (0 : Int) ≤ (k : Int) := by omega
      have k1 : (k : Int) < (n : Int) := by omega
      have lg := (HO.out.row.lt _ rfl).2
      have ls := HB.out.size
      have cw := (HC.out wr HB.out).1
      go_wp2_with (at_make; refine wpList_make_full _ rfl _ _ 88 rfl wr.heap.size 2 j0 (.int .i64 0) 1 Tryd.underlying88 hj hy0 hy1 _ _ _ _ a rfl rfl rfl rfl ?d1 ?d2 (Nat.le_refl _) ?_)
      case d1 => first | omega | (rw [hy2]; omega)
      case d2 => unfold maxLen; omega
      intro w2 hown2 hg2
      rw [toList_madeCells_one, zerosN_cells] at hown2
      have hb2 : Below wr.heap.size wr w2 := (Below.refl _ _).grown hg2 (Nat.le_refl _) (fun k h => by cases h)
      have hown : OwnN w2 wr.heap.size (.slice (some ⟨wr.heap.size, 0, none⟩) a a) (zerosN a) := by
        unfold OwnN
        rw [zerosN_len]
        exact hown2
      have hfz := (own_below HO.out.row hb2).frozenAt k
      have hold := (own_below HO.out.row hb2).cellAt k (by omega)
      have hold : w2.cell? ⟨W0.heap.size, k, none⟩ = some (.slice none 0 0) := by
        rw [hold]
        have := HU.out k (Nat.le_refl _)
        simp [hlt, this]
      have HP := Lib.hid (OwnR.put HO.out ls hlt hb2 hown)
      have HB2 := Lib.hid (HB.out.trans (hb2.mono ls))
      have lg2 : W0.heap.size < w2.heap.size := Nat.lt_of_lt_of_le lg hb2.size
      obtain ⟨g, hg⟩ : ∃ g, wr.heap.size = g := ⟨_, rfl⟩
      rw [hg] at HP ⊢
      clear hown hown2 hg2 hb2 HB cw hg
      go_wp2
      go_roundw
      case rel =>
        refine ⟨k + 1, fun i => if i = k then .slice (some ⟨g, 0, none⟩) a a else us i, by omega, by go_num, ?_, ?_, HB2.out.setCell (Nat.le_refl _) _⟩
        rotate_left
        · refine Lib.hid ((HP.out.mono (Nat.le_refl _) (by simp)).congr fun i hi => ?_)
          by_cases e : i = k
          · subst e
            simp
          · by_cases e2 : i < k
            · simp [e, e2, show i < k + 1 by omega]
            · simp [e, e2, show ¬ i < k + 1 by omega]
        · intro i hi
          simp [show ¬ i = k by omega, HU.out i (by omega)]
      case measure => simp [intOf]; omega
    · obtain rfl : k = n := by omega
      have HR := Lib.hid (HO.out.congr fun i hi => show (if i < k then zerosN a else []) = zerosN a from if_pos hi)
      clear HO
      go_wp2
      go_ret
      exact ⟨_, _, rfl, ⟨_, HR.out.mono hle (Nat.le_refl _)⟩, HB0.out.trans (HB.out.mono HB0.out.size)⟩
theorem blankRows_any (a n : Nat) (w : World) (ha : 1 ≤ a ∧ a ≤ 16) (hn : 1 ≤ n ∧ n ≤ 16) :
    Calls Tryd.prog 95 #[.agg (mcells a n (fun _ => 0))] w (TookR w n (fun _ => zerosN a)) := blankRowsF_any a n _ w ha hn
end Go.Proofs.YtnmnlbgialolhaaDoor

/- Contracts of single functions, and plain lemmas, on which the exact laws of this seat rest; each holds under the conditions that it states. -/
namespace Go.Proofs.YtnmnlbgialolhaaDoor
set_option linter.unusedVariables false
set_option linter.unusedSimpArgs false
open Go.RowKit
attribute [local go_sem] Oper.semAt_some

/-- a row that is anywhere above is appended -/
theorem OwnR.snoc2 {W w2 w' : World} {lo n : Nat} {v v' u : Value} {us : Nat → Value} {f : Nat → List Int} {x : List Int} (h : OwnR W lo W.heap.size v us n f) (hlo : lo ≤ W.heap.size) (hb : Below W.heap.size W w2) (hu : OwnN w2 W.heap.size u x) (o : Obj)
    (hown : w'.ownsRow lo 88 1 v' (n + 1) ((List.range n).map us ++ [u])) (hg : (w2.alloc o).grownBy w' v.ownBlock) :
    OwnR w' lo w'.heap.size v' (fun i => if i = n then u else us i) (n + 1) (fun i => if i = n then x else f i) := by
  have hs1 := hb.size
  have hs : w2.heap.size + 1 ≤ w'.heap.size := by have := hg.size; simp at this; omega
  have hrow2 : (w2.alloc o).ownsRow lo 88 1 v n ((List.range n).map us) := World.ownsRow.alloc (own_below h.row hb) o
  have old : ∀ i, i < n → OwnN w' lo (us i) (f i) := fun i hi => by
    have h1 := h.each i hi
    have h2 : (w2.alloc o).ownsRow lo 2 1 (us i) (f i).length (numsV (f i)) := World.ownsRow.alloc (own_below h1 hb) o
    exact own_keep h2 (fun k e => hg.block k (h2.lt k e).2 (fun e2 => own_two hrow2 h2 (by decide) k e2.symm e))
  have new : OwnN w' lo u x := by
    have h2 : (w2.alloc o).ownsRow W.heap.size 2 1 u x.length (numsV x) := World.ownsRow.alloc hu o
    exact own_keep (Joins.ownsRow_le h2 hlo) (fun k e => hg.block k (h2.lt k e).2 (fun e2 => by
      have a1 := (h.row.lt k e2.symm).2
      have a2 := (h2.lt k e).1
      omega))
  refine ⟨?_, fun i hi => ?_, fun i hi k e => ?_, fun k e => (hown.lt k e).2, fun i j hi hj hne k e => ?_⟩
  · have : (List.range (n + 1)).map (fun i => if i = n then u else us i) = (List.range n).map us ++ [u] := by
      rw [List.range_succ, List.map_append]
      congr 1
      · refine List.map_congr_left fun i hi => ?_
        rw [List.mem_range] at hi
        rw [if_neg (by omega)]
      · simp
    rw [this]
    exact hown
  · by_cases e : i = n
    · subst e
      simpa using new
    · simpa [e] using old i (by omega)
  · by_cases e2 : i = n
    · subst e2
      simp only [if_true] at e
      have a2 := (World.ownsRow.lt (h := hu) k e).2
      omega
    · simp only [e2, if_false] at e
      have := h.up i (by omega) k e
      omega
  · by_cases ei : i = n
    · have ej : j ≠ n := fun e2 => hne (ei.trans e2.symm)
      simp only [ei, if_true] at e
      simp only [ej, if_false]
      have a2 := (World.ownsRow.lt (h := hu) k e).1
      intro e3
      have := h.up j (by omega) k e3
      omega
    · simp only [ei, if_false] at e
      by_cases ej : j = n
      · simp only [ej, if_true]
        have := h.up i (by omega) k e
        intro e3
        have a2 := (World.ownsRow.lt (h := hu) k e3).1
        omega
      · simp only [ej, if_false]
        exact h.apart i j (by omega) (by omega) hne k e

/-- the k-th row of a list -/
def rowAt (L : List Int) (a k : Nat) : List Int := (List.range a).map fun x => L.getD (k * a + x) 0
theorem rowAt_len (L : List Int) (a k : Nat) : (rowAt L a k).length = a := by simp [rowAt]
theorem rowAt_at (L : List Int) (a k x : Nat) (hx : x < a) : (rowAt L a k).getD x 0 = L.getD (k * a + x) 0 := by
  rw [List.getD_eq_getElem?_getD]
  unfold rowAt
  rw [List.getElem?_map, List.getElem?_range hx]
  rfl
end Go.Proofs.YtnmnlbgialolhaaDoor

/- Contracts of single functions, and plain lemmas, on which the exact laws of this seat rest; each holds under the conditions that it states. -/
namespace Go.Proofs.YtnmnlbgialolhaaDoor
set_option linter.unusedVariables false
set_option linter.unusedSimpArgs false
open Go.RowKit
attribute [local go_sem] Oper.semAt_some

/-! ### the opposite of a grey picture -/
/-- a list whose first k numbers are the opposite ones -/
def mixV (L : List Int) (N k : Nat) : List Value := (List.range N).map fun j => .int .i64 (if j < k then 99 - L.getD j 0 else L.getD j 0)
theorem mixV_len (L : List Int) (N k : Nat) : (mixV L N k).length = N := by simp [mixV]
theorem mixV_at (L : List Int) (N k : Nat) (h : k < N) : (mixV L N k)[k]? = some (.int .i64 (L.getD k 0)) := by
  unfold mixV
  rw [List.getElem?_map, List.getElem?_range h]
  simp
theorem mixV_set (L : List Int) (N k : Nat) (h : k < N) : (mixV L N k).set k (.int .i64 (99 - L.getD k 0)) = mixV L N (k + 1) := by
  apply List.ext_getElem?
  intro j
  rw [List.getElem?_set]
  unfold mixV
  simp only [List.getElem?_map, List.length_map, List.length_range]
  by_cases e : k = j
  · subst e
    rw [if_pos rfl, if_pos h, List.getElem?_range h]
    simp
  · rw [if_neg e]
    by_cases hj : j < N
    · rw [List.getElem?_range hj]
      simp only [Option.map_some]
      by_cases h2 : j < k
      · rw [if_pos h2, if_pos (by omega)]
      · rw [if_neg h2, if_neg (by omega)]
    · rw [List.getElem?_eq_none (by simp; omega)]
      rfl
theorem mixV_zero (L : List Int) : mixV L L.length 0 = numsV L := by
  apply List.ext_getElem?
  intro j
  unfold mixV numsV
  simp only [List.getElem?_map]
  by_cases hj : j < L.length
  · rw [List.getElem?_range hj, List.getElem?_eq_getElem hj]
    simp [List.getD_eq_getElem?_getD, hj]
  · rw [List.getElem?_eq_none (by simp; omega), List.getElem?_eq_none (by omega)]
    rfl
def ivL (L : List Int) : List Int := L.map fun x => 99 - x
theorem ivL_len (L : List Int) : (ivL L).length = L.length := by simp [ivL]
theorem mixV_full (L : List Int) : mixV L L.length L.length = numsV (ivL L) := by
  apply List.ext_getElem?
  intro j
  unfold mixV numsV ivL
  simp only [List.getElem?_map]
  by_cases hj : j < L.length
  · rw [List.getElem?_range hj, List.getElem?_eq_getElem hj]
    simp [List.getD_eq_getElem?_getD, hj]
  · rw [List.getElem?_eq_none (by simp; omega), List.getElem?_eq_none (by omega)]
    rfl
/-- the opposite numbers -/
def ivGs (gs : List (List Int)) : List (List Int) := (List.range gs.length).map fun y => (List.range (rowF gs 0).length).map fun x => 99 - (rowF gs y).getD x 0
theorem ivGs_len (gs : List (List Int)) : (ivGs gs).length = gs.length := by simp [ivGs]
theorem ivGs_row {m : Int} {gs : List (List Int)} (V : VG m gs) (y : Nat) (hy : y < gs.length) : rowF (ivGs gs) y = rowAt (ivL (flG gs gs.length)) (rowF gs 0).length y := by
  have e1 : rowF (ivGs gs) y = (List.range (rowF gs 0).length).map fun x => 99 - (rowF gs y).getD x 0 := by
    show (ivGs gs).getD y [] = _
    unfold ivGs
    rw [List.getD_eq_getElem?_getD, List.getElem?_map, List.getElem?_range hy]
    rfl
  rw [e1]
  unfold rowAt
  refine List.map_congr_left fun x hx => ?_
  have hx2 := List.mem_range.1 hx
  have hl := flG_len V gs.length (Nat.le_refl _)
  have hlt : y * (rowF gs 0).length + x < (flG gs gs.length).length := by
    have : (y + 1) * (rowF gs 0).length ≤ gs.length * (rowF gs 0).length := Nat.mul_le_mul hy (Nat.le_refl _)
    rw [Nat.add_mul, Nat.one_mul] at this
    omega
  have h1 := flG_at V y x hx2 gs.length (Nat.le_refl _) hy
  have h2 : (ivL (flG gs gs.length)).getD (y * (rowF gs 0).length + x) 0 = 99 - (flG gs gs.length).getD (y * (rowF gs 0).length + x) 0 := by
    unfold ivL
    rw [List.getD_eq_getElem?_getD, List.getElem?_map, List.getD_eq_getElem?_getD, List.getElem?_eq_getElem hlt]
    rfl
  rw [h2, h1]
end Go.Proofs.YtnmnlbgialolhaaDoor
