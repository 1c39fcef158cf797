/- Contracts of single functions, and plain lemmas, on which the exact laws of this seat rest; each holds under the conditions that it states. -/
import Derived.Test.YtabkkpifkkgpeaaDoorAn
import Derived.Test.YtabkkpifkkgpeaaDoorSp
import Derived.Test.YtabkkpifkkgpeaaDoorPb
import Derived.Test.YtabkkpifkkgpeaaDoorL6
import Derived.Test.YtabkkpifkkgpeaaDoorL4
namespace Go.Proofs.YtabkkpifkkgpeaaDoor
set_option linter.unusedVariables false
set_option linter.unusedSimpArgs false
open Go.RowKit

/-! ### an element that fits -/
def fitP (ss : List ByteArray) (xs : List (Int × Int)) (X Y : Int) (i : Nat) : Bool := pixI ss (X + (xs.getD i (0, 0)).1) (Y + (xs.getD i (0, 0)).2)
def fitB (ss : List ByteArray) (xs : List (Int × Int)) (X Y : Int) : Bool := (List.range xs.length).all (fitP ss xs X Y)
theorem fitB_bad {ss : List ByteArray} {xs : List (Int × Int)} {X Y : Int} {i : Nat} (hi : i < xs.length) (h : fitP ss xs X Y i = false) : fitB ss xs X Y = false := by
  unfold fitB
  rw [List.all_eq_false]
  exact ⟨i, List.mem_range.2 hi, by rw [h]; simp⟩
theorem fitB_good {ss : List ByteArray} {xs : List (Int × Int)} {X Y : Int} (h : ∀ i, i < xs.length → fitP ss xs X Y i = true) : fitB ss xs X Y = true :=
  List.all_eq_true.2 (fun i hi => h i (List.mem_range.1 hi))
theorem elB_range {xs : List (Int × Int)} (h : elB xs = true) (i : Nat) (hi : i < xs.length) : (-4 ≤ (xs.getD i (0, 0)).1 ∧ (xs.getD i (0, 0)).1 ≤ 4) ∧ (-4 ≤ (xs.getD i (0, 0)).2 ∧ (xs.getD i (0, 0)).2 ≤ 4) := by
  unfold elB at h
  rw [Bool.and_eq_true] at h
  have := List.all_eq_true.1 h.1 i (List.mem_range.2 hi)
  unfold stepOk at this
  rw [Bool.and_eq_true] at this
  exact (okO_iff _).1 this.1

end Go.Proofs.YtabkkpifkkgpeaaDoor

/- Contracts of single functions, and plain lemmas, on which the exact laws of this seat rest; each holds under the conditions that it states. -/
namespace Go.Proofs.YtabkkpifkkgpeaaDoor
set_option linter.unusedVariables false
set_option linter.unusedSimpArgs false
open Go.RowKit

/-! ### what planes show -/
def inPl (X Y : Int) : Bool := decide ((-4 ≤ X ∧ X < 20) ∧ (-4 ≤ Y ∧ Y < 20))
def plF (g : Nat → Nat) (X Y : Int) : Bool := inPl X Y && (g (Y + 4).toNat).testBit (X + 4).toNat
theorem shW_bit24 (W : Nat) (dx : Int) (x : Nat) (hW : W < 2 ^ 24) (hx : x < 24) (h1 : -4 ≤ dx) (h2 : dx ≤ 4) :
    (shW W dx 24).testBit x = (decide (0 ≤ (x : Int) - dx) && decide ((x : Int) - dx < 24) && W.testBit ((x : Int) - dx).toNat) := by
  unfold shW
  rw [Nat.testBit_and, Nat.testBit_two_pow_sub_one, decide_eq_true hx, Bool.and_true]
  by_cases h : 0 ≤ dx
  · rw [if_pos h]
    obtain ⟨p, rfl⟩ := Int.eq_ofNat_of_zero_le h
    rw [Int.toNat_natCast]
    have hp2 : 2 ^ p ≤ 2 ^ 4 := Nat.pow_le_pow_right (by omega) (by omega)
    have hlt : W * 2 ^ p < 4294967296 := by
      have : W * 2 ^ p ≤ (2 ^ 24 - 1) * 2 ^ 4 := Nat.mul_le_mul (by omega) hp2
      omega
    rw [Nat.mod_eq_of_lt hlt, Nat.testBit_mul_two_pow]
    by_cases hpx : p ≤ x
    · rw [decide_eq_true hpx, decide_eq_true (show 0 ≤ (x : Int) - (p : Int) by omega), decide_eq_true (show (x : Int) - (p : Int) < 24 by omega), show ((x : Int) - (p : Int)).toNat = x - p from by omega]
      simp
    · rw [decide_eq_false hpx, decide_eq_false (show ¬ 0 ≤ (x : Int) - (p : Int) by omega)]
      simp
  · rw [if_neg h]
    obtain ⟨p, hp⟩ := Int.eq_ofNat_of_zero_le (show 0 ≤ -dx by omega)
    rw [hp, Int.toNat_natCast, Nat.testBit_div_two_pow]
    rw [decide_eq_true (show 0 ≤ (x : Int) - dx by omega)]
    by_cases hpx : (x : Int) - dx < 24
    · rw [decide_eq_true hpx, show ((x : Int) - dx).toNat = p + x from by omega]
      simp [Nat.add_comm]
    · rw [decide_eq_false hpx]
      rw [Nat.testBit_lt_two_pow (Nat.lt_of_lt_of_le hW (Nat.pow_le_pow_right (by omega) (show 24 ≤ x + p by omega)))]
      simp
theorem mv_pix (g : Nat → Nat) (hg : PlW g) (dx dy X Y : Int) (hx : -4 ≤ dx ∧ dx ≤ 4) (hy : -4 ≤ dy ∧ dy ≤ 4) : plF (mvG g dx dy 24) X Y = (inPl X Y && plF g (X - dx) (Y - dy)) := by
  unfold plF
  cases h : inPl X Y with
  | false => rfl
  | true =>
    unfold inPl at h
    simp only [decide_eq_true_eq] at h
    simp only [Bool.true_and]
    unfold mvG
    have eY : (((Y + 4).toNat : Nat) : Int) = Y + 4 := Int.toNat_of_nonneg (by omega)
    rw [eY]
    by_cases hr : 0 ≤ Y + 4 - dy ∧ Y + 4 - dy < ((24 : Nat) : Int)
    · rw [if_pos hr, shW_bit24 _ _ _ (hg _) (by omega) hx.1 hx.2]
      have eX : (((X + 4).toNat : Nat) : Int) = X + 4 := Int.toNat_of_nonneg (by omega)
      rw [eX, show Y - dy + 4 = Y + 4 - dy from by omega, show X - dx + 4 = X + 4 - dx from by omega]
      by_cases hc : 0 ≤ X + 4 - dx ∧ X + 4 - dx < 24
      · rw [decide_eq_true hc.1, decide_eq_true hc.2, show inPl (X - dx) (Y - dy) = true from decide_eq_true (by omega)]
        simp
      · rw [show inPl (X - dx) (Y - dy) = false from decide_eq_false (by omega)]
        by_cases h0 : 0 ≤ X + 4 - dx
        · rw [decide_eq_false (show ¬ X + 4 - dx < 24 from fun h => hc ⟨h0, h⟩)]
          simp
        · rw [decide_eq_false h0]
          simp
    · rw [if_neg hr, show inPl (X - dx) (Y - dy) = false from decide_eq_false (by omega), Nat.zero_testBit]
      rfl
theorem mg_pix (k : Nat) (g h : Nat → Nat) (hh : PlW h) (X Y : Int) : plF (mgG k g h 24) X Y = (inPl X Y && jnF k (plF g X Y) (plF h X Y)) := by
  unfold plF
  cases hi : inPl X Y with
  | false => rfl
  | true =>
    unfold inPl at hi
    simp only [decide_eq_true_eq] at hi
    simp only [Bool.true_and]
    unfold mgG
    rw [if_pos (by omega), jn_bit k _ _ _ (Nat.lt_trans (hh _) (by decide)) (by omega)]
theorem plF_out (g : Nat → Nat) (X Y : Int) (h : inPl X Y = false) : plF g X Y = false := by unfold plF; rw [h]; rfl
def Rng (xs : List (Int × Int)) : Prop := ∀ o ∈ xs, (-4 ≤ o.1 ∧ o.1 ≤ 4) ∧ (-4 ≤ o.2 ∧ o.2 ≤ 4)
theorem mvA_any (g : Nat → Nat) (hg : PlW g) (xs : List (Int × Int)) (hr : Rng xs) (X Y : Int) (hi : inPl X Y = true) : plF (mvA 1 g xs) X Y = xs.any fun o => plF g (X - o.1) (Y - o.2) := by
  cases xs with
  | nil =>
    show plF (fun _ => 0) X Y = false
    unfold plF
    rw [Nat.zero_testBit, Bool.and_false]
  | cons o os =>
    have : ∀ (os : List (Int × Int)) (acc : Nat → Nat), Rng os → plF (os.foldl (fun acc o => mgG 1 acc (mvG g o.1 o.2 24) 24) acc) X Y = (plF acc X Y || os.any fun o => plF g (X - o.1) (Y - o.2)) := by
      intro os
      induction os with
      | nil => intro acc _; simp
      | cons o os ih =>
        intro acc hr
        have ho := hr o (by simp)
        rw [List.foldl_cons, ih _ (fun p hp => hr p (by simp [hp])), mg_pix 1 _ _ (mvG_plw _ _ _ _), mv_pix g hg _ _ _ _ ho.1 ho.2, hi]
        simp [jnF, jF1, Bool.or_assoc]
    have ho := hr o (by simp)
    show plF (os.foldl _ _) X Y = _
    rw [this os _ (fun p hp => hr p (by simp [hp])), mv_pix g hg _ _ _ _ ho.1 ho.2, hi]
    simp
theorem mvA_all (g : Nat → Nat) (hg : PlW g) (xs : List (Int × Int)) (hp : 0 < xs.length) (hr : Rng xs) (X Y : Int) (hi : inPl X Y = true) : plF (mvA 0 g xs) X Y = xs.all fun o => plF g (X - o.1) (Y - o.2) := by
  cases xs with
  | nil => exact absurd hp (by simp)
  | cons o os =>
    have : ∀ (os : List (Int × Int)) (acc : Nat → Nat), Rng os → plF (os.foldl (fun acc o => mgG 0 acc (mvG g o.1 o.2 24) 24) acc) X Y = (plF acc X Y && os.all fun o => plF g (X - o.1) (Y - o.2)) := by
      intro os
      induction os with
      | nil => intro acc _; simp
      | cons o os ih =>
        intro acc hr
        have ho := hr o (by simp)
        rw [List.foldl_cons, ih _ (fun p hp => hr p (by simp [hp])), mg_pix 0 _ _ (mvG_plw _ _ _ _), mv_pix g hg _ _ _ _ ho.1 ho.2, hi]
        simp [jnF, jF0, Bool.and_assoc]
    have ho := hr o (by simp)
    show plF (os.foldl _ _) X Y = _
    rw [this os _ (fun p hp => hr p (by simp [hp])), mv_pix g hg _ _ _ _ ho.1 ho.2, hi]
    simp
theorem mir_all (xs : List (Int × Int)) (hr : Rng xs) (F : Int → Int → Bool) (X Y : Int) : ((elL (miF xs)).all fun o => F (X - o.1) (Y - o.2)) = xs.all fun o => F (X + o.1) (Y + o.2) := by
  rw [Bool.eq_iff_iff, List.all_eq_true, List.all_eq_true]
  constructor
  · intro h o ho
    have hro := hr o ho
    have := h (-o.1, -o.2) ((elL_mem _ _).2 ⟨⟨⟨by show -4 ≤ -o.1; omega, by show -o.1 ≤ 4; omega⟩, ⟨by show -4 ≤ -o.2; omega, by show -o.2 ≤ 4; omega⟩⟩, by
      show memB xs (- -o.1) (- -o.2) = true
      rw [Int.neg_neg, Int.neg_neg]
      exact (mem_memB xs o).2 ho⟩)
    have e1 : X - -o.1 = X + o.1 := by omega
    have e2 : Y - -o.2 = Y + o.2 := by omega
    change F (X - -o.1) (Y - -o.2) = true at this
    rwa [e1, e2] at this
  · intro h o ho
    have hm := ((elL_mem _ o).1 ho).2
    have := h (-o.1, -o.2) ((mem_memB xs (-o.1, -o.2)).1 hm)
    have e1 : X + -o.1 = X - o.1 := by omega
    have e2 : Y + -o.2 = Y - o.2 := by omega
    change F (X + -o.1) (Y + -o.2) = true at this
    rwa [e1, e2] at this
theorem gr_pix (g : Nat → Nat) (hg : PlW g) (xs : List (Int × Int)) (hE : ElOk xs) (X Y : Int) (hi : inPl X Y = true) : plF (grG g xs) X Y = xs.any fun o => plF g (X - o.1) (Y - o.2) := mvA_any g hg xs hE.rng X Y hi
theorem sh_pix (g : Nat → Nat) (hg : PlW g) (xs : List (Int × Int)) (hE : ElOk xs) (X Y : Int) (hi : inPl X Y = true) : plF (shG2 g xs) X Y = xs.all fun o => plF g (X + o.1) (Y + o.2) := by
  unfold shG2
  rw [mvA_all g hg _ hE.mir.1 hE.mir.2.2 X Y hi]
  exact mir_all xs hE.rng (plF g) X Y
theorem any_congr2 {f g : Int × Int → Bool} : ∀ {xs : List (Int × Int)}, (∀ o ∈ xs, f o = g o) → xs.any f = xs.any g
  | [], _ => rfl
  | o :: xs, h => by rw [List.any_cons, List.any_cons, h o (by simp), any_congr2 (fun p hp => h p (by simp [hp]))]
theorem all_congr2 {f g : Int × Int → Bool} : ∀ {xs : List (Int × Int)}, (∀ o ∈ xs, f o = g o) → xs.all f = xs.all g
  | [], _ => rfl
  | o :: xs, h => by rw [List.all_cons, List.all_cons, h o (by simp), all_congr2 (fun p hp => h p (by simp [hp]))]
/-- a pixel of what an element makes -/
def plSomB (p : Int → Int → Bool) (xs : List (Int × Int)) (X Y : Int) : Bool := xs.any fun o => p (X - o.1) (Y - o.2)
def plFitB (p : Int → Int → Bool) (xs : List (Int × Int)) (X Y : Int) : Bool := xs.all fun o => p (X + o.1) (Y + o.2)
def plOpnB (p : Int → Int → Bool) (xs : List (Int × Int)) (X Y : Int) : Bool := xs.any fun o => plFitB p xs (X - o.1) (Y - o.2)
def plClsB (p : Int → Int → Bool) (xs : List (Int × Int)) (X Y : Int) : Bool := xs.all fun o => plSomB p xs (X + o.1) (Y + o.2)
theorem op_pix (g : Nat → Nat) (hg : PlW g) (xs : List (Int × Int)) (hE : ElOk xs) (x y : Nat) (hx : x < 16) (hy : y < 16) : plF (opG g xs) x y = plOpnB (plF g) xs x y := by
  unfold opG plOpnB
  rw [gr_pix (shG2 g xs) (mvA_plw 0 g _) xs hE x y (decide_eq_true (by omega))]
  refine any_congr2 fun o ho => ?_
  have := hE.rng o ho
  exact sh_pix g hg xs hE _ _ (decide_eq_true (by omega))
theorem cl_pix (g : Nat → Nat) (hg : PlW g) (xs : List (Int × Int)) (hE : ElOk xs) (x y : Nat) (hx : x < 16) (hy : y < 16) : plF (clG g xs) x y = plClsB (plF g) xs x y := by
  unfold clG plClsB
  rw [sh_pix (grG g xs) (mvA_plw 1 g _) xs hE x y (decide_eq_true (by omega))]
  refine all_congr2 fun o ho => ?_
  have := hE.rng o ho
  exact gr_pix g hg xs hE _ _ (decide_eq_true (by omega))
theorem plX_plF (g : Nat → Nat) (x y : Nat) (hx : x < 16) (hy : y < 16) : plX g y x = plF g x y := by
  unfold plX plF
  rw [show inPl (x : Int) (y : Int) = true from decide_eq_true (by omega), Bool.true_and, show ((y : Int) + 4).toNat = y + 4 from by omega, show ((x : Int) + 4).toNat = x + 4 from by omega]
theorem plOf_plw (g : Nat → Nat) (Y : Nat) (hg : ∀ j, g j < 65536) : PlW (plOf g Y) := fun j => by
  unfold plOf
  have := hg (j - 4)
  split <;> omega
/-- the plane of a picture shows its pixels -/
theorem plOf_pix {ss : List ByteArray} (V : VP ss) (X Y : Int) : plF (plOf (wordsOf ss) ss.length) X Y = pixI ss X Y := by
  have hw := V.w16
  have hn := V.n16
  rw [← words_bit V X Y]
  unfold plF blackB
  rw [hasB_insB]
  cases hin : insB (row0 ss).size ss.length X Y with
  | true =>
    have h : (0 ≤ X ∧ X < ((row0 ss).size : Nat)) ∧ (0 ≤ Y ∧ Y < (ss.length : Nat)) := by
      unfold insB inB at hin
      simp at hin
      omega
    rw [show inPl X Y = true from decide_eq_true (by omega), Bool.true_and, Bool.true_and]
    unfold plOf
    rw [if_pos (by omega), show (Y + 4).toNat - 4 = Y.toNat from by omega, show (16 : Nat) = 2 ^ 4 from rfl, Nat.testBit_mul_two_pow, decide_eq_true (show 4 ≤ (X + 4).toNat by omega), Bool.true_and, show (X + 4).toNat - 4 = X.toNat from by omega]
  | false =>
    rw [Bool.false_and]
    cases hi : inPl X Y with
    | false => rfl
    | true =>
      rw [Bool.true_and]
      unfold inPl at hi
      simp only [decide_eq_true_eq] at hi
      unfold plOf
      by_cases hy : 4 ≤ (Y + 4).toNat ∧ (Y + 4).toNat < 4 + ss.length
      · rw [if_pos hy, show (16 : Nat) = 2 ^ 4 from rfl, Nat.testBit_mul_two_pow]
        by_cases hx : 4 ≤ (X + 4).toNat
        · rw [decide_eq_true hx, Bool.true_and]
          refine Nat.testBit_lt_two_pow (Nat.lt_of_lt_of_le (words_lt_pow V _) (Nat.pow_le_pow_right (by omega) ?_))
          have : ¬ X < ((row0 ss).size : Nat) := fun h => by
            have : insB (row0 ss).size ss.length X Y = true := by
              unfold insB inB
              simp
              omega
            rw [this] at hin
            cases hin
          omega
        · rw [decide_eq_false hx]
          rfl
      · rw [if_neg hy, Nat.zero_testBit]
end Go.Proofs.YtabkkpifkkgpeaaDoor

/- Contracts of single functions, and plain lemmas, on which the exact laws of this seat rest; each holds under the conditions that it states. -/
namespace Go.Proofs.YtabkkpifkkgpeaaDoor
set_option linter.unusedVariables false
set_option linter.unusedSimpArgs false
open Go.RowKit

/-! ### some offset leads from a black pixel -/
def somP (ss : List ByteArray) (xs : List (Int × Int)) (X Y : Int) (i : Nat) : Bool := pixI ss (X - (xs.getD i (0, 0)).1) (Y - (xs.getD i (0, 0)).2)
def somB (ss : List ByteArray) (xs : List (Int × Int)) (X Y : Int) : Bool := (List.range xs.length).any (somP ss xs X Y)
theorem somB_bad {ss : List ByteArray} {xs : List (Int × Int)} {X Y : Int} {i : Nat} (hi : i < xs.length) (h : somP ss xs X Y i = true) : somB ss xs X Y = true :=
  List.any_eq_true.2 ⟨i, List.mem_range.2 hi, h⟩
theorem somB_good {ss : List ByteArray} {xs : List (Int × Int)} {X Y : Int} (h : ∀ i, i < xs.length → somP ss xs X Y i = false) : somB ss xs X Y = false := by
  unfold somB
  rw [List.any_eq_false]
  intro i hi
  rw [h i (List.mem_range.1 hi)]
  simp
theorem any_getD {xs : List (Int × Int)} (F : Int × Int → Bool) : ((List.range xs.length).any fun i => F (xs.getD i (0, 0))) = xs.any F := by
  rw [Bool.eq_iff_iff, List.any_eq_true, List.any_eq_true]
  constructor
  · rintro ⟨i, hi, h⟩
    rw [List.mem_range] at hi
    refine ⟨xs.getD i (0, 0), ?_, h⟩
    rw [List.getD_eq_getElem?_getD, List.getElem?_eq_getElem hi]
    exact List.getElem_mem hi
  · rintro ⟨o, ho, h⟩
    obtain ⟨i, hi, rfl⟩ := List.mem_iff_getElem.1 ho
    refine ⟨i, List.mem_range.2 hi, ?_⟩
    rw [List.getD_eq_getElem?_getD, List.getElem?_eq_getElem hi]
    exact h
theorem all_getD {xs : List (Int × Int)} (F : Int × Int → Bool) : ((List.range xs.length).all fun i => F (xs.getD i (0, 0))) = xs.all F := by
  rw [Bool.eq_iff_iff, List.all_eq_true, List.all_eq_true]
  constructor
  · intro h o ho
    obtain ⟨i, hi, rfl⟩ := List.mem_iff_getElem.1 ho
    have := h i (List.mem_range.2 hi)
    rwa [List.getD_eq_getElem?_getD, List.getElem?_eq_getElem hi] at this
  · intro h i hi
    rw [List.mem_range] at hi
    refine h _ ?_
    rw [List.getD_eq_getElem?_getD, List.getElem?_eq_getElem hi]
    exact List.getElem_mem hi
theorem somB_pl (ss : List ByteArray) (xs : List (Int × Int)) (X Y : Int) : somB ss xs X Y = plSomB (pixI ss) xs X Y := any_getD (fun o => pixI ss (X - o.1) (Y - o.2))
theorem fitB_pl (ss : List ByteArray) (xs : List (Int × Int)) (X Y : Int) : fitB ss xs X Y = plFitB (pixI ss) xs X Y := all_getD (fun o => pixI ss (X + o.1) (Y + o.2))

end Go.Proofs.YtabkkpifkkgpeaaDoor
