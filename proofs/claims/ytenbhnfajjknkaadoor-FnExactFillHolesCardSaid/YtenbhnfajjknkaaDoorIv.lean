/- Contracts of single functions, and plain lemmas, on which the exact laws of this seat rest; each holds under the conditions that it states. -/
import Derived.Test.YtenbhnfajjknkaaDoorMp
import Derived.Test.YtenbhnfajjknkaaDoorSp
import Derived.Test.YtenbhnfajjknkaaDoorPb
import Derived.Test.YtenbhnfajjknkaaDoorLs
import Derived.Test.YtenbhnfajjknkaaDoorSz
import Derived.Test.YtenbhnfajjknkaaDoorIs
namespace Go.Proofs.YtenbhnfajjknkaaDoor
set_option linter.unusedVariables false
open Go.RowKit

/-- a pixel changed -/
def setF (ss : List ByteArray) (q p : Nat) (bk : Bool) (y x : Nat) : Bool := if y = q ∧ x = p then bk else pixF ss y x
theorem setF_at (ss : List ByteArray) (wd h q p : Nat) (bk : Bool) (hq : q < h) (hp : p < wd) (y x : Nat) (hy : y < h) (hx : x < wd) :
    ((pixL ss wd (wd * h)).set (q * wd + p) bk).getD (y * wd + x) false = setF ss q p bk y x := by
  unfold setF
  have hat := pixL_at ss wd h y x hy hx
  have h3 : (q + 1) * wd ≤ h * wd := Nat.mul_le_mul_right _ hq
  rw [Nat.add_mul, Nat.one_mul, Nat.mul_comm h wd] at h3
  by_cases h : y = q ∧ x = p
  · obtain ⟨rfl, rfl⟩ := h
    rw [if_pos ⟨rfl, rfl⟩, List.getD_eq_getElem?_getD, List.getElem?_set_self (by rw [pixL_len]; omega)]
    rfl
  · rw [if_neg h, ← hat, List.getD_eq_getElem?_getD, List.getD_eq_getElem?_getD, List.getElem?_set_ne]
    intro e
    apply h
    have e1 : (q * wd + p) / wd = q := by rw [Nat.mul_comm, Nat.mul_add_div (by omega), Nat.div_eq_of_lt hp, Nat.add_zero]
    have e2 : (y * wd + x) / wd = y := by rw [Nat.mul_comm, Nat.mul_add_div (by omega), Nat.div_eq_of_lt hx, Nat.add_zero]
    have e3 : q = y := by rw [← e1, ← e2, e]
    subst e3
    exact ⟨rfl, by omega⟩

end Go.Proofs.YtenbhnfajjknkaaDoor

/- Contracts of single functions, and plain lemmas, on which the exact laws of this seat rest; each holds under the conditions that it states. -/
namespace Go.Proofs.YtenbhnfajjknkaaDoor
set_option linter.unusedVariables false
open Go.RowKit

/-- the first i are turned -/
def mixB (l : List Bool) (i : Nat) : List Bool := (List.range l.length).map fun j => if j < i then !l.getD j false else l.getD j false
theorem mixB_len (l : List Bool) (i : Nat) : (mixB l i).length = l.length := by simp [mixB]
theorem mixB_at (l : List Bool) (i j : Nat) (hj : j < l.length) : (mixB l i)[j]? = some (if j < i then !l.getD j false else l.getD j false) := by
  simp [mixB, hj]
theorem mixB_zero (l : List Bool) : mixB l 0 = l := by
  apply List.ext_getElem?
  intro j
  by_cases hj : j < l.length
  · rw [mixB_at l 0 j hj, if_neg (by omega), List.getD_eq_getElem?_getD, List.getElem?_eq_getElem hj]; rfl
  · rw [List.getElem?_eq_none (by rw [mixB_len]; omega), List.getElem?_eq_none (by omega)]
theorem mixB_set (l : List Bool) (i : Nat) (hi : i < l.length) : (mixB l i).set i (!l.getD i false) = mixB l (i + 1) := by
  apply List.ext_getElem?
  intro j
  by_cases hj : j < l.length
  · rw [mixB_at l (i + 1) j hj]
    by_cases h : i = j
    · subst h
      rw [List.getElem?_set_self (by rw [mixB_len]; exact hj), if_pos (by omega)]
    · rw [List.getElem?_set_ne h, mixB_at l i j hj]
      by_cases h2 : j < i
      · rw [if_pos h2, if_pos (by omega)]
      · rw [if_neg h2, if_neg (by omega)]
  · rw [List.getElem?_eq_none (by rw [List.length_set, mixB_len]; omega), List.getElem?_eq_none (by rw [mixB_len]; omega)]
theorem mixB_all (l : List Bool) (j : Nat) (hj : j < l.length) : (mixB l l.length).getD j false = !l.getD j false := by
  rw [List.getD_eq_getElem?_getD, mixB_at l _ j hj, if_pos hj]; rfl

def invF (ss : List ByteArray) (y x : Nat) : Bool := !pixF ss y x
theorem inv_at (ss : List ByteArray) (wd h y x : Nat) (hy : y < h) (hx : x < wd) : (mixB (pixL ss wd (wd * h)) (wd * h)).getD (y * wd + x) false = invF ss y x := by
  have h3 : (y + 1) * wd ≤ h * wd := Nat.mul_le_mul_right _ hy
  rw [Nat.add_mul, Nat.one_mul, Nat.mul_comm h wd] at h3
  have := mixB_all (pixL ss wd (wd * h)) (y * wd + x) (by rw [pixL_len]; omega)
  rw [pixL_len, pixL_at ss wd h y x hy hx] at this
  exact this

set_option maxHeartbeats 2000000 in
set_option maxRecDepth 100000 in
theorem l01Invert_any (pb po : Nat) (ss : List ByteArray) (w : World) (hpa : PicAt w pb po ss) :
    Calls Tryd.prog 102 #[.pointer (some ⟨pb, po, none⟩)] w (TookPic w (mkPic (row0 ss).size ss.length (invF ss))) := by
  obtain ⟨b0, off0, cap0, hcc, hst, V⟩ := hpa.open'
  have hw1 := V.w1
  have hw16 := V.w16
  have hn1 := V.n1
  have hn16 := V.n16
  have hlp : pb < w.heap.size := blk_lt hcc
  have hP0 : Hid ((w.alloc (.cells #[.slice none 0 0] 30)).heap[w.heap.size]? = some (.cells #[.slice none 0 0] 30 (0, 0))) := heap_alloc_last w _
  have CL : Hid (∀ W, PicAt W pb po ss → Calls Tryd.prog 113 #[.pointer (some ⟨pb, po, none⟩)] W (Listed ss W)) := fun W h => l01List_any _ _ ss W h
  have CW : Hid (∀ W, PicAt W pb po ss → Calls Tryd.prog 57 #[.pointer (some ⟨pb, po, none⟩)] W fun e w' => e = .returned (.int .i64 (row0 ss).size) ∧ W = w') := fun W h => l01Width_any _ _ ss W h
  have hmk : mkPic (row0 ss).size ss.length (fun y x => (mixB (pixL ss (row0 ss).size ((row0 ss).size * ss.length)) ((row0 ss).size * ss.length)).getD (y * (row0 ss).size + x) false) = mkPic (row0 ss).size ss.length (invF ss) :=
    mkPic_congr fun y hy x hx => inv_at ss _ _ y x hy hx
  have CM := Lib.hid (fun (lb cap : Nat) (W : World) (hB : Bools W lb 0 (mixB (pixL ss (row0 ss).size ((row0 ss).size * ss.length)) ((row0 ss).size * ss.length))) => l01Make_any lb 0 cap (row0 ss).size ss.length _ W ⟨hw1, hw16⟩ ⟨hn1, hn16⟩ (by rw [mixB_len, pixL_len]) hB)
  rw [hmk] at CM
  unfold Listed at CL
  have hNle : (row0 ss).size * ss.length ≤ 256 := Nat.mul_le_mul hw16 hn16
  have hll := pixL_len ss (row0 ss).size ((row0 ss).size * ss.length)
  obtain ⟨pic, hpic⟩ : ∃ x, mkPic (row0 ss).size ss.length (invF ss) = x := ⟨_, rfl⟩
  rw [hpic] at CM ⊢
  obtain ⟨N, hNN⟩ : ∃ k, (row0 ss).size * ss.length = k := ⟨_, rfl⟩
  rw [hNN] at CM CL hNle hll
  obtain ⟨l, hl⟩ : ∃ l, pixL ss (row0 ss).size N = l := ⟨_, rfl⟩
  rw [hl] at CM CL hll
  have HPA := Lib.hid hpa
  have HLL := Lib.hid hll
  clear hcc hst V hmk hpic hNN hl hpa hll
  go_enter Tryd.func102, Tryd.ntmps102
  go_wp2_with fail
  refine (CL.out _ (HPA.out.below (Joins.below_alloc1 w _))).mono ?_
  rintro e w1 ⟨g, cap, rfl, hown, hb1⟩
  have hg : w.heap.size + 1 ≤ g := by have := (hown.lt g rfl).1; simpa using this
  have B1 : Hid (Below (w.heap.size + 1) (w.alloc (.cells #[.slice none 0 0] 30)) w1) := by
    show Below _ _ _
    have := hb1; simpa using this
  have O1 : Hid (w1.ownsRow (w.heap.size + 1) 4 1 (.slice (some ⟨g, 0, none⟩) N cap) N (boolV (mixB l 0))) := by
    show World.ownsRow _ _ _ _ _ _ _
    rw [mixB_zero]; simpa using hown
  clear hb1 hown
  go_wp2
  go_loopw [9] (fun iv wr => ∃ i : Nat, i ≤ N ∧ iv = .int .i64 i ∧ wr.ownsRow (w.heap.size + 1) 4 1 (.slice (some ⟨g, 0, none⟩) N cap) N (boolV (mixB l i)) ∧ Below (w.heap.size + 1) (w.alloc (.cells #[.slice none 0 0] 30)) wr) (fun iv _ => N - (intOf iv).toNat)
  case atStart => exact ⟨0, Nat.zero_le _, rfl, O1.out, B1.out⟩
  case round =>
    clear O1 B1
    obtain ⟨i, hi, rfl, hown, hbel⟩ := hrel
    by_cases hlt : i < N
    · have kiN : (i : Int) < (N : Int) := by omega
      have hfz := hown.frozenAt i
      have hold := hown.cellAt i (by omega)
      have hil : i < l.length := by rw [HLL.out]; exact hlt
      rw [show (boolV (mixB l i))[i]? = some (.bool (l.getD i false)) from by unfold boolV; rw [List.getElem?_map, mixB_at l i i hil, if_neg (by omega)]; rfl] at hold
      have hst := (hown.stored i (.bool (!l.getD i false))).1
      rw [boolV_set, mixB_set l i hil] at hst
      have HS := Lib.hid hst
      have HB := Lib.hid hbel
      obtain ⟨bt, hbt⟩ : ∃ t, l.getD i false = t := ⟨_, rfl⟩
      rw [hbt] at hold HS
      clear hst hown hbel hbt hil
      go_wp2
      go_roundw
      case rel => exact ⟨i + 1, by omega, by go_num, HS.out, HB.out.setCell (by simpa using hg) _⟩
      case measure => simp [intOf]; omega
    · obtain rfl : i = N := by omega
      have HB : Hid (Bools wr g 0 (mixB l i)) := own_bools hown (by rw [mixB_len, HLL.out])
      have P1 := Lib.hid ((hbel.block w.heap.size (by simp)).trans hP0.out)
      have B2 : Hid (Below w.heap.size w wr) := (Joins.below_alloc1 w (.cells #[.slice none 0 0] 30)).trans (hbel.mono (by simp))
      have A2 := Lib.hid (HPA.out.below B2.out)
      clear hown hbel
      go_wp2_with fail
      refine (CW.out _ A2.out).mono ?_
      rintro e w' ⟨rfl, rfl⟩
      go_wp2_with fail
      refine (CM.out _ _ _ HB.out).mono ?_
      rintro e w4 ⟨g4, cap4, rfl, hown4, hb4⟩
      have hp2 := (hb4.block w.heap.size (Array.getElem?_eq_some_iff.1 P1.out).1).trans P1.out
      have hfr : w4.frozen? ⟨w.heap.size, 0, none⟩ = false := free_of_one hp2
      have hc2 : w4.cell? ⟨w.heap.size, 0, none⟩ = some (.slice none 0 0) := cell_of_one hp2
      have O2 := Lib.hid (own_set (u := .slice (some ⟨g4, 0, none⟩) pic.length cap4) hown4 hp2 (by decide))
      have P4 := Lib.hid hp2
      have B4 := Lib.hid (B2.out.trans (hb4.mono B2.out.size))
      have hs3 := B2.out.size
      clear hown4 hp2 hb4
      go_wp2_with fail
      refine bodyPost_ret (v := .agg #[.slice (some ⟨g4, 0, none⟩) pic.length cap4]) (by simp [results, Tryd.results102, go_sem, cell_of_one (one_setCell P4.out)]) rfl ⟨g4, cap4, rfl, Joins.ownsRow_le O2.out hs3, B4.out.setCell (by simp) _⟩
end Go.Proofs.YtenbhnfajjknkaaDoor
