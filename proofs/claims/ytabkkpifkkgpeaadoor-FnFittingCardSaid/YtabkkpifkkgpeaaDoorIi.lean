/- Contracts of single functions, and plain lemmas, on which the exact laws of this seat rest; each holds under the conditions that it states. -/
import Derived.Test.YtabkkpifkkgpeaaDoorMp
import Derived.Test.YtabkkpifkkgpeaaDoorSp
import Derived.Test.YtabkkpifkkgpeaaDoorLt
import Derived.Test.YtabkkpifkkgpeaaDoorSs
import Derived.Test.YtabkkpifkkgpeaaDoorMm
import Derived.Test.YtabkkpifkkgpeaaDoorSi
import Derived.Test.YtabkkpifkkgpeaaDoorPb
import Derived.Deep.RegionWith
namespace Go.Proofs.YtabkkpifkkgpeaaDoor
set_option linter.unusedVariables false
open Go.RowKit

/-- the first i are turned -/
def mixB (l : List Bool) (i : Nat) : List Bool := (List.range l.length).map fun j => if j < i then !l.getD j false else l.getD j false
theorem mixB_len (l : List Bool) (i : Nat) : (mixB l i).length = l.length := by simp [mixB]
theorem mixB_at (l : List Bool) (i j : Nat) (hj : j < l.length) : (mixB l i)[j]? = some (if j < i then !l.getD j false else l.getD j false) := by
  simp [mixB, hj]
theorem mixB_zero (l : List Bool) : mixB l 0 = l := by
  apply List.ext_getElem?
  intro j
  by_cases hj : j < l.length
  · rw [mixB_at l 0 j hj, if_neg (by omega), List.getD_eq_getElem?_getD, List.getElem?_eq_getElem hj]; rfl
  · rw [List.getElem?_eq_none (by rw [mixB_len]; omega), List.getElem?_eq_none (by omega)]
theorem mixB_set (l : List Bool) (i : Nat) (hi : i < l.length) : (mixB l i).set i (!l.getD i false) = mixB l (i + 1) := by
  apply List.ext_getElem?
  intro j
  by_cases hj : j < l.length
  · rw [mixB_at l (i + 1) j hj]
    by_cases h : i = j
    · subst h
      rw [List.getElem?_set_self (by rw [mixB_len]; exact hj), if_pos (by omega)]
    · rw [List.getElem?_set_ne h, mixB_at l i j hj]
      by_cases h2 : j < i
      · rw [if_pos h2, if_pos (by omega)]
      · rw [if_neg h2, if_neg (by omega)]
  · rw [List.getElem?_eq_none (by rw [List.length_set, mixB_len]; omega), List.getElem?_eq_none (by rw [mixB_len]; omega)]
theorem mixB_all (l : List Bool) (j : Nat) (hj : j < l.length) : (mixB l l.length).getD j false = !l.getD j false := by
  rw [List.getD_eq_getElem?_getD, mixB_at l _ j hj, if_pos hj]; rfl

def invF (ss : List ByteArray) (y x : Nat) : Bool := !pixF ss y x
theorem inv_at (ss : List ByteArray) (wd h y x : Nat) (hy : y < h) (hx : x < wd) : (mixB (pixL ss wd (wd * h)) (wd * h)).getD (y * wd + x) false = invF ss y x := by
  have h3 : (y + 1) * wd ≤ h * wd := Nat.mul_le_mul_right _ hy
  rw [Nat.add_mul, Nat.one_mul, Nat.mul_comm h wd] at h3
  have := mixB_all (pixL ss wd (wd * h)) (y * wd + x) (by rw [pixL_len]; omega)
  rw [pixL_len, pixL_at ss wd h y x hy hx] at this
  exact this

end Go.Proofs.YtabkkpifkkgpeaaDoor

/- Contracts of single functions, and plain lemmas, on which the exact laws of this seat rest; each holds under the conditions that it states. -/
namespace Go.Proofs.YtabkkpifkkgpeaaDoor
set_option linter.unusedVariables false
open Go.RowKit

/-- the first y words turned -/
def invG (g : Nat → Nat) (a y j : Nat) : Nat := if j < y then g j ^^^ (2 ^ a - 1) else g j
theorem inv_bits {ss : List ByteArray} (V : VP ss) (y x : Nat) (hy : y < ss.length) (hx : x < (row0 ss).size) :
    blackB (row0 ss).size ss.length (invG (wordsOf ss) (row0 ss).size ss.length) x y = invF ss y x := by
  have hh : hasB (row0 ss).size ss.length x y = true := by rw [hasB_insB]; exact in_range hx hy
  unfold blackB invF invG
  rw [hh, Bool.true_and, Int.toNat_natCast, Int.toNat_natCast, if_pos hy, Nat.testBit_xor, words_at V y x hy hx, Nat.testBit_two_pow_sub_one, decide_eq_true hx]
  simp
end Go.Proofs.YtabkkpifkkgpeaaDoor

/- Contracts of single functions, and plain lemmas, on which the exact laws of this seat rest; each holds under the conditions that it states. -/
namespace Go.Proofs.YtabkkpifkkgpeaaDoor
set_option linter.unusedVariables false
open Go.RowKit

theorem xor_bits (W m : Nat) (hW : W < 4294967296) (hm : m < 4294967296) : bits .xor .u32 (W : Int) (m : Int) = ((W ^^^ m : Nat) : Int) := u32_xor_nat W m hW hm

theorem inv_step (a b : Nat) (g : Nat → Nat) (w : Nat) (y : Nat) (hy : y < 16) : (mat a b (invG g w y)).setIfInBounds (2 + y) (.int .u32 ((g y ^^^ (2 ^ w - 1) : Nat) : Int)) = mat a b (invG g w (y + 1)) := by
  rw [mat_set a b _ y hy]
  congr 1
  funext j
  unfold invG
  by_cases h : j = y
  · subst h; rw [if_pos rfl, if_pos (by omega)]
  · rw [if_neg h]
    by_cases h2 : j < y
    · rw [if_pos h2, if_pos (by omega)]
    · rw [if_neg h2, if_neg (by omega)]
theorem inv_zero (g : Nat → Nat) (w : Nat) : invG g w 0 = g := by
  funext j; unfold invG; rw [if_neg (by omega)]
theorem inv_lt {g : Nat → Nat} (hg : ∀ j, g j < 4294967296) (w y j : Nat) (hw : w ≤ 16) : invG g w y j < 4294967296 := by
  have h : 2 ^ w ≤ 2 ^ 16 := Nat.pow_le_pow_right (by omega) hw
  unfold invG
  split
  · exact Nat.xor_lt_two_pow (n := 32) (hg j) (by omega)
  · exact hg j

set_option maxHeartbeats 4000000 in
set_option maxRecDepth 100000 in
theorem impl_Inv_yes (v : Value) (ss : List ByteArray) (w : World) (hN : ss.length ≤ maxLen) (hz : ∀ s ∈ ss, s.size ≤ maxLen) (hv : Sl w v ss) (he : ErrLen w) (hok : validB ss = true) :
    Calls Tryd.prog 32 #[.agg #[v]] w (SaysPic (mkPic (row0 ss).size ss.length (invF ss)) true w) := by
  have V := vp_of hok
  have hw16 := V.w16
  have hn16 := V.n16
  have hb0 : Below w.heap.size w ((w.alloc (.cells #[v] 42)).alloc (.cells #[.slice none 0 0] 42)) := Joins.below_alloc2 w _ _
  have hl1 : ((w.alloc (.cells #[v] 42)).alloc (.cells #[.slice none 0 0] 42)).heap[w.heap.size]? = some (.cells #[v] 42 (0, 0)) := by
    rw [Below.heap_alloc _ _ _ (by simp)]; exact heap_alloc_last w _
  have hl2 : ((w.alloc (.cells #[v] 42)).alloc (.cells #[.slice none 0 0] 42)).heap[w.heap.size + 1]? = some (.cells #[.slice none 0 0] 42 (0, 0)) := by
    have := heap_alloc_last (w.alloc (.cells #[v] 42)) (.cells #[.slice none 0 0] 42)
    simp only [World.size_alloc] at this
    exact this
  have L2 := Lib.hid hl2
  have hcv : ((w.alloc (.cells #[v] 42)).alloc (.cells #[.slice none 0 0] 42)).cell? ⟨w.heap.size, 0, none⟩ = some v := cell_of_one hl1
  have C := Lib.hid (matrixOf_any v ss _ hN hz (hv.below hb0) (he.below hb0))
  have hsz := matC_size ss
  have hone := matC_one ss
  have hMM := matC_yes hok
  unfold MatOf at C
  obtain ⟨M, hM⟩ : ∃ M, matC ss = M := ⟨_, rfl⟩
  rw [hM] at C hsz hone hMM
  have HI : Hid ((Tryd.prog.info? 96).map (·.size) = some M.size) := by show _ = _; rw [hsz]; exact infoM
  have HZ := Lib.hid (zeros_size.trans hsz.symm)
  have HO := Lib.hid hone
  have HMM := Lib.hid hMM
  have HPi : Hid (∀ W, Calls Tryd.prog 99 #[.agg (mat (row0 ss).size ss.length (invG (wordsOf ss) (row0 ss).size ss.length))] W (TookPic W (mkPic (row0 ss).size ss.length (invF ss)))) := fun W => by
    have := picture_any (mat (row0 ss).size ss.length (invG (wordsOf ss) (row0 ss).size ss.length)) _ _ _ W rfl hw16 hn16 (fun j => inv_lt (fun j => words_lt V j) _ _ j hw16)
    rwa [mkPic_congr fun y hy x hx => inv_bits V y x hy hx] at this
  have HG : Hid (∀ j, wordsOf ss j < 4294967296) := fun j => words_lt V j
  have HOk := Lib.hid hok
  obtain ⟨pic, hpic⟩ : ∃ x, mkPic (row0 ss).size ss.length (invF ss) = x := ⟨_, rfl⟩
  rw [hpic] at HPi ⊢
  obtain ⟨g, hg⟩ : ∃ g, wordsOf ss = g := ⟨_, rfl⟩
  rw [hg] at HPi HMM HG
  obtain ⟨a, ha⟩ : ∃ a, (row0 ss).size = a := ⟨_, rfl⟩
  obtain ⟨b, hbb⟩ : ∃ b, ss.length = b := ⟨_, rfl⟩
  rw [ha] at HPi HMM hw16
  rw [hbb] at HPi HMM hn16
  have CMk := Lib.hid (fun W => maskOf_any a W hw16)
  obtain ⟨mk, hmk⟩ : ∃ mk, 2 ^ a - 1 = mk := ⟨_, rfl⟩
  have hmk2 : mk < 4294967296 := by
    have h : 2 ^ a ≤ 2 ^ 16 := Nat.pow_le_pow_right (by omega) hw16
    omega
  have HMK := Lib.hid hmk
  rw [hmk] at CMk
  clear hb0 hl1 hl2 hok hM hsz hone hMM V hv he hpic hg ha hbb hmk
  go_enter Tryd.func32, Tryd.ntmps32
  go_wp2_with fail
  refine C.out.mono ?_
  rintro e w1 ⟨rfl, hb⟩
  rw [HOk.out]
  have B1 : Hid (Below w.heap.size w w1) := (Joins.below_alloc2 w _ _).trans (hb.mono (by simp; omega))
  have P1 := Lib.hid ((hb.block (w.heap.size + 1) (by simp)).trans L2.out)
  have hs1 := B1.out.size
  have hl1 : w.heap.size + 1 < w1.heap.size := (Array.getElem?_eq_some_iff.1 P1.out).1
  have cb : (w1.alloc (.cells M 96)).cell? ⟨w1.heap.size, 1, none⟩ = some (.int .i64 b) := by
    rw [Joins.cell_of_block (heap_alloc_last w1 _) 1, HMM.out]; rfl
  clear hb hcv
  go_wp2_with (refine wpList_store_new w1 rfl 96 _ _ rfl M rfl rfl 96 zeros HI.out HZ.out HO.out ?_)
  go_loopw [17] (fun yv wr => ∃ y : Nat, y ≤ b ∧ yv = .int .i64 y ∧ wr.heap[w1.heap.size]? = some (.cells (mat a b (invG g a y)) 96 (0, 0)) ∧ Below w1.heap.size w1 wr) (fun yv _ => b - (intOf yv).toNat)
  case atStart => exact ⟨0, Nat.zero_le _, rfl, by rw [inv_zero, ← HMM.out]; exact heap_alloc_last w1 _, Joins.below_alloc1 _ _⟩
  case round =>
    clear cb
    obtain ⟨y, hy, rfl, hm, hbel⟩ := hrel
    by_cases hlt : y < b
    · have kyb : (y : Int) < (b : Int) := by omega
      have ky16 : (y : Int) < 16 := by omega
      have c0 : wr.cell? ⟨w1.heap.size, 0, none⟩ = some (.int .i64 a) := by rw [Joins.cell_of_block hm 0]; rfl
      have cy : wr.cell? ⟨w1.heap.size, 2 + y, none⟩ = some (.int .u32 (g y)) := by
        rw [Joins.cell_of_block hm (2 + y)]
        have := mcells_word a b (fun j => ((invG g a y j : Nat) : Int)) y (by omega)
        unfold mat
        rw [this]
        unfold invG
        rw [if_neg (by omega)]
      have fz : wr.frozen? ⟨w1.heap.size, 2 + y, none⟩ = false := by simp [World.frozen?, hm]
      have kx := xor_bits (g y) mk (HG.out y) hmk2
      have hnx := Lib.heap_setCell_same (i := 2 + y) hm (.int .u32 ((g y ^^^ (2 ^ a - 1) : Nat) : Int))
      rw [inv_step a b g a y (by omega), HMK.out] at hnx
      have HX := Lib.hid hnx
      have HB := Lib.hid hbel
      clear hm hbel hnx
      go_wp2
      go_region_with (go_at_call 101; refine (CMk.out _).mono ?_; rintro e w' ⟨rfl, rfl⟩)
      all_goals go_wp2
      all_goals (refine ⟨⟨y + 1, by omega, by go_num, HX.out, by first | exact HB.out.setCell (p := ⟨w1.heap.size, 2 + y, none⟩) (Nat.le_refl _) _ | exact (HB.out.setCell (p := ⟨w1.heap.size, 2 + y, none⟩) (Nat.le_refl _) _).drew⟩, by simp [intOf]; omega⟩)
    · obtain rfl : y = b := by omega
      have M3 := Lib.hid hm
      have B3 : Hid (Below w.heap.size w wr) := B1.out.trans (hbel.mono hs1)
      have P3 := Lib.hid ((hbel.block (w.heap.size + 1) hl1).trans P1.out)
      obtain ⟨M2, hM2⟩ : ∃ M2, mat a y (invG g a y) = M2 := ⟨_, rfl⟩
      have hsz2 : M2.size = 18 := by rw [← hM2]; rfl
      have HI2 : Hid ((Tryd.prog.info? 96).map (·.size) = some M2.size) := by show _ = _; rw [hsz2]; exact infoM
      rw [hM2] at M3 HPi
      clear hm hbel hM2 hsz2
      go_wp2_with (refine wpList_load_row rfl 96 _ rfl w1.heap.size rfl 96 M2 (0, 0) _ M3.out Tryd.underlying96 rfl HI2.out ?_)
      refine (HPi.out _).mono ?_
      rintro e w4 ⟨g4, cap4, rfl, hown4, hb4⟩
      have hp2 := (hb4.block (w.heap.size + 1) (Array.getElem?_eq_some_iff.1 P3.out).1).trans P3.out
      have hfr : w4.frozen? ⟨w.heap.size + 1, 0, none⟩ = false := free_of_one hp2
      have hc2 : w4.cell? ⟨w.heap.size + 1, 0, none⟩ = some (.slice none 0 0) := cell_of_one hp2
      have O2 := Lib.hid (own_set (u := .slice (some ⟨g4, 0, none⟩) pic.length cap4) hown4 hp2 (by decide))
      have P4 := Lib.hid hp2
      have B4 := Lib.hid (B3.out.trans (hb4.mono B3.out.size))
      have hs3 := B3.out.size
      clear hown4 hp2 hb4
      go_wp2_with fail
      refine bodyPost_ret (v := .tuple #[.agg #[.slice (some ⟨g4, 0, none⟩) pic.length cap4], .bool true]) (by simp [results, Tryd.results32, go_sem, cell_of_one (one_setCell P4.out)]) rfl ⟨_, _, _, rfl, Joins.ownsRow_le O2.out hs3, B4.out.setCell (by simp) _⟩

set_option maxHeartbeats 2000000 in
set_option maxRecDepth 100000 in
theorem impl_Inv_no (v : Value) (ss : List ByteArray) (w : World) (hN : ss.length ≤ maxLen) (hz : ∀ s ∈ ss, s.size ≤ maxLen) (hv : Sl w v ss) (he : ErrLen w) (hok : validB ss = false) :
    Calls Tryd.prog 32 #[.agg #[v]] w (SaysPic [] false w) := by
  have hb0 : Below w.heap.size w ((w.alloc (.cells #[v] 42)).alloc (.cells #[.slice none 0 0] 42)) := Joins.below_alloc2 w _ _
  have hl1 : ((w.alloc (.cells #[v] 42)).alloc (.cells #[.slice none 0 0] 42)).heap[w.heap.size]? = some (.cells #[v] 42 (0, 0)) := by
    rw [Below.heap_alloc _ _ _ (by simp)]; exact heap_alloc_last w _
  have hl2 : ((w.alloc (.cells #[v] 42)).alloc (.cells #[.slice none 0 0] 42)).heap[w.heap.size + 1]? = some (.cells #[.slice none 0 0] 42 (0, 0)) := by
    have := heap_alloc_last (w.alloc (.cells #[v] 42)) (.cells #[.slice none 0 0] 42)
    simp only [World.size_alloc] at this
    exact this
  have L2 := Lib.hid hl2
  have hcv : ((w.alloc (.cells #[v] 42)).alloc (.cells #[.slice none 0 0] 42)).cell? ⟨w.heap.size, 0, none⟩ = some v := cell_of_one hl1
  have C := Lib.hid (matrixOf_any v ss _ hN hz (hv.below hb0) (he.below hb0))
  have hsz := matC_size ss
  have hone := matC_one ss
  unfold MatOf at C
  obtain ⟨M, hM⟩ : ∃ M, matC ss = M := ⟨_, rfl⟩
  rw [hM] at C hsz hone
  have HI : Hid ((Tryd.prog.info? 96).map (·.size) = some M.size) := by show _ = _; rw [hsz]; exact infoM
  have HZ := Lib.hid (zeros_size.trans hsz.symm)
  have HO := Lib.hid hone
  have HOk := Lib.hid hok
  clear hb0 hl1 hl2 hM hsz hone hv he hok
  go_enter Tryd.func32, Tryd.ntmps32
  go_wp2_with fail
  refine C.out.mono ?_
  rintro e w1 ⟨rfl, hb⟩
  rw [HOk.out]
  have B1 : Hid (Below w.heap.size w w1) := (Joins.below_alloc2 w _ _).trans (hb.mono (by simp; omega))
  have P1 := Lib.hid ((hb.block (w.heap.size + 1) (by simp)).trans L2.out)
  have hl1 : w.heap.size + 1 < w1.heap.size := (Array.getElem?_eq_some_iff.1 P1.out).1
  have Q1 := Lib.hid ((Below.heap_alloc w1 (.cells M 96) _ hl1).trans P1.out)
  have hfr : (w1.alloc (.cells M 96)).frozen? ⟨w.heap.size + 1, 0, none⟩ = false := free_of_one Q1.out
  have hc2 : (w1.alloc (.cells M 96)).cell? ⟨w.heap.size + 1, 0, none⟩ = some (.slice none 0 0) := cell_of_one Q1.out
  have HX := Lib.hid (after_alloc (M := M) (t2 := 96) (u := .slice none 0 0) P1.out B1.out (by omega))
  clear hb hcv
  go_wp2_with (refine wpList_store_new w1 rfl 96 _ _ rfl M rfl rfl 96 zeros HI.out HZ.out HO.out ?_)
  refine bodyPost_ret (v := .tuple #[.agg #[.slice none 0 0], .bool false]) (by simp [results, Tryd.results32, go_sem, HX.out.1]) rfl ⟨_, _, _, rfl, World.ownsRow_nil _ _ _ _, HX.out.2⟩
end Go.Proofs.YtabkkpifkkgpeaaDoor
