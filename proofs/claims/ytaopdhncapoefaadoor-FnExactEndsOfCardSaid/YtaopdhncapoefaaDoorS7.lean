/- Contracts of single functions, and plain lemmas, on which the exact laws of this seat rest; each holds under the conditions that it states. -/
import Derived.Test.YtaopdhncapoefaaDoorS6
import Derived.Test.YtaopdhncapoefaaDoorSc
import Derived.Test.YtaopdhncapoefaaDoorPb
namespace Go.Proofs.YtaopdhncapoefaaDoor
set_option linter.unusedVariables false
open Go.RowKit

/-- a number and a bool handed back -/
def SaysIB (n : Int) (ok : Bool) (w : World) (e : Ending) (w' : World) : Prop := e = .returned (.tuple #[.int .i64 n, .bool ok]) ∧ Below w.heap.size w w'
theorem ret_ib {a c : Int} {b d : Bool} (h1 : a = c) (h2 : b = d) : Ending.returned (.tuple #[.int .i64 a, .bool b]) = .returned (.tuple #[.int .i64 c, .bool d]) := by rw [h1, h2]

def cbV (ss : List ByteArray) : Int := if validB ss then ((rs (wordsOf ss) ss.length : Nat) : Int) else 0

end Go.Proofs.YtaopdhncapoefaaDoor

/- Contracts of single functions, and plain lemmas, on which the exact laws of this seat rest; each holds under the conditions that it states. -/
namespace Go.Proofs.YtaopdhncapoefaaDoor
set_option linter.unusedVariables false
set_option linter.unusedSimpArgs false
open Go.RowKit

/-! ### a picture that is made of a function -/
theorem rowOf_size (f : Nat → Bool) (n : Nat) : (rowOf f n).size = n := by simp [rowOf, ByteArray.size, mkRow]
theorem rowOf_get (f : Nat → Bool) (n x : Nat) (h : x < (rowOf f n).size) : (rowOf f n)[x]'h = if f x = true then 35 else 46 := by
  have hx : x < n := by rwa [rowOf_size] at h
  have : (rowOf f n)[x]'h = (mkRow f n)[x]'(by rw [mkRow_len]; exact hx) := by
    simp [rowOf, ByteArray.getElem_eq_getElem_data]
  rw [this]
  simp [mkRow]
theorem mkPic_getD (wd h : Nat) (f : Nat → Nat → Bool) {y : Nat} (hy : y < h) : (mkPic wd h f).getD y ByteArray.empty = rowOf (f y) wd := by
  simp [mkPic, List.getD, hy]
theorem mkPic_row0 (wd h : Nat) (f : Nat → Nat → Bool) (hh : 1 ≤ h) : (row0 (mkPic wd h f)).size = wd := by
  show ((mkPic wd h f).getD 0 ByteArray.empty).size = wd
  rw [mkPic_getD wd h f (by omega), rowOf_size]
theorem mkPic_pix (wd h : Nat) (f : Nat → Nat → Bool) {y x : Nat} (hy : y < h) (hx : x < wd) : pixF (mkPic wd h f) y x = f y x := by
  unfold pixF
  rw [mkPic_getD wd h f hy, blackAt_eq _ _ (by rw [rowOf_size]; exact hx), rowOf_get]
  cases f y x <;> rfl
theorem mkPic_valid (wd h : Nat) (f : Nat → Nat → Bool) (hw : 1 ≤ wd ∧ wd ≤ 16) (hh : 1 ≤ h ∧ h ≤ 16) : validB (mkPic wd h f) = true := by
  unfold validB
  simp only [Bool.and_eq_true, decide_eq_true_eq, mkPic_len, mkPic_row0 wd h f hh.1]
  refine ⟨⟨⟨⟨hh.1, hh.2⟩, hw.1⟩, hw.2⟩, ?_⟩
  rw [List.all_eq_true]
  intro s hs
  obtain ⟨y, hy, rfl⟩ := List.mem_iff_getElem.1 hs
  rw [mkPic_len] at hy
  have e : (mkPic wd h f)[y] = rowOf (f y) wd := by simp [mkPic]
  rw [e]
  unfold rowB
  simp only [Bool.and_eq_true, decide_eq_true_eq]
  refine ⟨rowOf_size _ _, ?_⟩
  rw [List.all_eq_true]
  intro c hc
  have hc' : c ∈ mkRow (f y) wd := by simpa [rowOf] using hc
  obtain ⟨x, hx, rfl⟩ := List.mem_iff_getElem.1 hc'
  simp only [mkRow, List.getElem_map, List.getElem_range]
  cases f y x <;> decide
end Go.Proofs.YtaopdhncapoefaaDoor

/- Contracts of single functions, and plain lemmas, on which the exact laws of this seat rest; each holds under the conditions that it states. -/
namespace Go.Proofs.YtaopdhncapoefaaDoor
set_option linter.unusedVariables false
set_option linter.unusedSimpArgs false
open Go.RowKit

theorem bs3 {ss : List ByteArray} (V : VP ss) (h3 : (row0 ss).size = 3) (hl : ss.length = 3) (y : Nat) (hy : y < 3) : bs (wordsOf ss y) 16 = (if pixF ss y 0 = true then 1 else 0) + (if pixF ss y 1 = true then 1 else 0) + (if pixF ss y 2 = true then 1 else 0) := by
  rw [bs_row V y, h3]
  simp only [bs]
  rw [words_at V y 0 (by omega) (by omega), words_at V y 1 (by omega) (by omega), words_at V y 2 (by omega) (by omega)]
  omega
theorem near_count (p : Int → Int → Bool) (px py : Int) : rs (wordsOf (mkPic 3 3 (arF p true px py))) (mkPic 3 3 (arF p true px py)).length = cntF (rgV p px py) 8 := by
  have V := vp_of (mkPic_valid 3 3 (arF p true px py) ⟨by omega, by omega⟩ ⟨by omega, by omega⟩)
  have h3 := mkPic_row0 3 3 (arF p true px py) (by omega)
  have hl := mkPic_len 3 3 (arF p true px py)
  rw [hl]
  simp only [rs]
  rw [bs3 V h3 hl 0 (by omega), bs3 V h3 hl 1 (by omega), bs3 V h3 hl 2 (by omega)]
  simp only [mkPic_pix 3 3 (arF p true px py) (show 0 < 3 by omega) (show 0 < 3 by omega), mkPic_pix 3 3 (arF p true px py) (show 0 < 3 by omega) (show 1 < 3 by omega), mkPic_pix 3 3 (arF p true px py) (show 0 < 3 by omega) (show 2 < 3 by omega),
    mkPic_pix 3 3 (arF p true px py) (show 1 < 3 by omega) (show 0 < 3 by omega), mkPic_pix 3 3 (arF p true px py) (show 1 < 3 by omega) (show 1 < 3 by omega), mkPic_pix 3 3 (arF p true px py) (show 1 < 3 by omega) (show 2 < 3 by omega),
    mkPic_pix 3 3 (arF p true px py) (show 2 < 3 by omega) (show 0 < 3 by omega), mkPic_pix 3 3 (arF p true px py) (show 2 < 3 by omega) (show 1 < 3 by omega), mkPic_pix 3 3 (arF p true px py) (show 2 < 3 by omega) (show 2 < 3 by omega)]
  have e (y x : Nat) (a b : Int) (hx : px + ((x : Int) - 1) = a) (hy : py + ((y : Int) - 1) = b) (hc : (decide (x ≠ 1) || decide (y ≠ 1)) = true) : arF p true px py y x = p a b := by
    unfold arF
    rw [hc, hx, hy, Bool.true_and]
    cases p a b <;> rfl
  have e11 : arF p true px py 1 1 = false := by unfold arF; simp
  rw [e 0 0 (px + -1) (py + -1) (by omega) (by omega) (by decide), e 0 1 px (py + -1) (by omega) (by omega) (by decide), e 0 2 (px + 1) (py + -1) (by omega) (by omega) (by decide),
    e 1 0 (px + -1) py (by omega) (by omega) (by decide), e11, e 1 2 (px + 1) py (by omega) (by omega) (by decide),
    e 2 0 (px + -1) (py + 1) (by omega) (by omega) (by decide), e 2 1 px (py + 1) (by omega) (by omega) (by decide), e 2 2 (px + 1) (py + 1) (by omega) (by omega) (by decide)]
  simp only [cntF, rgV]
  generalize (if p (px + -1) (py + -1) = true then 1 else 0) = n1
  generalize (if p px (py + -1) = true then 1 else 0) = n2
  generalize (if p (px + 1) (py + -1) = true then 1 else 0) = n3
  generalize (if p (px + -1) py = true then 1 else 0) = n4
  generalize (if p (px + 1) py = true then 1 else 0) = n5
  generalize (if p (px + -1) (py + 1) = true then 1 else 0) = n6
  generalize (if p px (py + 1) = true then 1 else 0) = n7
  generalize (if p (px + 1) (py + 1) = true then 1 else 0) = n8
  simp
  omega

set_option maxHeartbeats 2000000 in
set_option maxRecDepth 100000 in
theorem l05Near_any (pb po : Nat) (ss : List ByteArray) (px py : Int) (w : World) (hx : -40 ≤ px ∧ px ≤ 40) (hy : -40 ≤ py ∧ py ≤ 40) (hpa : PicAt w pb po ss) :
    Calls Tryd.prog 46 #[.pointer (some ⟨pb, po, none⟩), .int .i64 px, .int .i64 py] w (fun e w' => e = .returned (.int .i64 ((cntF (rgV (pixI ss) px py) 8 : Nat) : Int)) ∧ Below w.heap.size w w') := by
  have C := Lib.hid (l05Around_any pb po ss px py true w hx hy hpa)
  have HN := Lib.hid (near_count (pixI ss) px py)
  have hval := mkPic_valid 3 3 (arF (pixI ss) true px py) ⟨by omega, by omega⟩ ⟨by omega, by omega⟩
  have HV := Lib.hid hval
  obtain ⟨Q, hQ⟩ : ∃ Q, mkPic 3 3 (arF (pixI ss) true px py) = Q := ⟨_, rfl⟩
  rw [hQ] at C HN HV
  clear hQ hval hpa
  go_enter Tryd.func46, Tryd.ntmps46
  go_wp2_with fail
  refine C.out.mono ?_
  rintro e w1 ⟨g, cap, rfl, hown, hb⟩
  have ba := Joins.below_alloc1 w1 (.cells #[.slice (some ⟨g, 0, none⟩) Q.length cap] 28)
  have hP : PicAt (w1.alloc (.cells #[.slice (some ⟨g, 0, none⟩) Q.length cap] 28)) w1.heap.size 0 Q := ⟨HV.out, _, cell_of_one (heap_alloc_last w1 _), hown.sl.below ba⟩
  have CC := Lib.hid (l01Count_any w1.heap.size 0 Q _ hP)
  have HB := Lib.hid (hb.alloc hb.size (.cells #[.slice (some ⟨g, 0, none⟩) Q.length cap] 28))
  clear hown hb ba hP
  go_wp2_with fail
  refine CC.out.mono ?_
  rintro e w2 ⟨rfl, rfl⟩
  rw [HN.out]
  go_wp2
  go_ret
  exact ⟨rfl, HB.out⟩
end Go.Proofs.YtaopdhncapoefaaDoor
