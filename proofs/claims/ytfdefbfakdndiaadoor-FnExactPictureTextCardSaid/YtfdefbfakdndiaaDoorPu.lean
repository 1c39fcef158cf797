/- Contracts of single functions, and plain lemmas, on which the exact laws of this seat rest; each holds under the conditions that it states. -/
import Derived.Test.YtfdefbfakdndiaaDoorPt
namespace Go.Proofs.YtfdefbfakdndiaaDoor
set_option linter.unusedVariables false
open Go.RowKit

/-- a string and a bool handed back -/
def SaysSB (s : ByteArray) (ok : Bool) (w : World) (e : Ending) (w' : World) : Prop := e = .returned (.tuple #[.string s, .bool ok]) ∧ Below w.heap.size w w'
theorem ret_sb {a c : ByteArray} {b d : Bool} (h1 : a = c) (h2 : b = d) : Ending.returned (.tuple #[.string a, .bool b]) = .returned (.tuple #[.string c, .bool d]) := by rw [h1, h2]

def ptV (ss : List ByteArray) : ByteArray := if validB ss then tx ss (ss.length - 1) else ⟨#[]⟩

/-- the pixels of a row give the row back -/
theorem rows_back {ss : List ByteArray} (V : VP ss) (y : Nat) (hy : y < ss.length) : rowOf (fun x => blackB (row0 ss).size ss.length (wordsOf ss) x y) (row0 ss).size = ss.getD y ByteArray.empty := by
  obtain ⟨h1, h2⟩ := V.rows y hy
  have hw : ∀ x, x < (row0 ss).size → blackB (row0 ss).size ss.length (wordsOf ss) x y = blackAt (ss.getD y ByteArray.empty) x := fun x hx => by
    rw [words_bit V]
    unfold pixI
    rw [in_range hx hy]
    simp
  obtain ⟨s, hs⟩ : ∃ s, ss.getD y ByteArray.empty = s := ⟨_, rfl⟩
  rw [hs] at h1 h2 hw ⊢
  unfold rowOf mkRow
  have hl : s.data.toList.length = (row0 ss).size := by rw [← h1]; simp
  have e : ((List.range (row0 ss).size).map fun x : Nat => if blackB (row0 ss).size ss.length (wordsOf ss) (x : Int) (y : Int) then (35 : UInt8) else 46) = s.data.toList := by
    apply List.ext_getElem
    · rw [hl]; simp
    · intro i i1 i2
      have hi : i < s.size := by rw [h1]; simpa using i1
      have hp := h2 i hi
      have hb := blackAt_eq s i hi
      rw [List.getElem_map, List.getElem_range, hw i (by simpa using i1), hb]
      have e2 : s.data.toList[i] = s[i] := rfl
      rw [e2]
      unfold pixB at hp
      rcases Bool.or_eq_true_iff.1 hp with h | h
      · rw [beq_iff_eq.1 h]; rfl
      · rw [beq_iff_eq.1 h]; rfl
  rw [e]

def bufL (ss : List ByteArray) : Nat → List UInt8
  | 0 => []
  | y + 1 => (tx ss y).data.toList
theorem bufL_zero (ss : List ByteArray) : (row0 ss).data.toList = bufL ss 1 := rfl
theorem bufL_step (ss : List ByteArray) (y : Nat) (h : 1 ≤ y) : bufL ss y ++ [47] ++ (ss.getD y ByteArray.empty).data.toList = bufL ss (y + 1) := by
  obtain ⟨j, rfl⟩ : ∃ j, y = j + 1 := ⟨y - 1, by omega⟩
  show _ = (tx ss j ++ ((⟨#[47]⟩ : ByteArray) ++ ss.getD (j + 1) ByteArray.empty)).data.toList
  simp [bufL]
theorem bufL_len {ss : List ByteArray} (V : VP ss) (y : Nat) (h : y ≤ ss.length) : (bufL ss y).length ≤ 300 := by
  cases y with
  | zero => simp [bufL]
  | succ k =>
    have h1 := tx_size V k (by omega)
    have h2 := V.n16
    show (tx ss k).data.toList.length ≤ 300
    have : (tx ss k).data.toList.length = (tx ss k).size := by simp
    omega

set_option maxHeartbeats 1000000 in
set_option maxRecDepth 100000 in
theorem spec_PText (v : Value) (ss : List ByteArray) (w : World) (hN : ss.length ≤ maxLen) (hz : ∀ s ∈ ss, s.size ≤ maxLen) (hv : Sl w v ss) :
    Calls Tryd.prog 36 #[.agg #[v]] w (SaysSB (ptV ss) (validB ss) w) := by
  have hb0 := Joins.below_alloc1 w (.cells #[v] 28)
  have hc0 : (w.alloc (.cells #[v] 28)).cell? ⟨w.heap.size, 0, none⟩ = some v := by rw [World.cell?_alloc_mark]; rfl
  have C := Lib.hid (l01Is_any w.heap.size 0 v ss (w.alloc (.cells #[v] 28)) hc0 (hv.below hb0) hN hz)
  cases hok : validB ss with
  | false =>
    have e1 : Hid (ptV ss = ⟨#[]⟩) := by show ptV ss = _; unfold ptV; rw [hok]; rfl
    have HOk := Lib.hid hok
    clear hok hv hc0 hb0
    go_enter Tryd.func36, Tryd.ntmps36
    go_wp2_with fail
    refine C.out.mono ?_
    rintro e w' ⟨rfl, hb⟩
    rw [HOk.out]
    have HB := Lib.hid hb
    clear hb
    go_wp2_with fail
    go_ret2
    exact ⟨ret_sb e1.out.symm rfl, (Joins.below_alloc1 w _).trans (HB.out.mono (by simp))⟩
  | true =>
    have hp : Hid (∀ W, Below (w.alloc (.cells #[v] 28)).heap.size (w.alloc (.cells #[v] 28)) W → PicAt W w.heap.size 0 ss) := fun W hb =>
      ⟨hok, v, cell_kept hb hc0, (hv.below hb0).below hb⟩
    have HOk := Lib.hid hok
    have e1 : Hid (ptV ss = tx ss (ss.length - 1)) := by show ptV ss = _; unfold ptV; rw [hok]; rfl
    clear hok hv hc0 hb0
    go_enter Tryd.func36, Tryd.ntmps36
    go_wp2_with fail
    refine C.out.mono ?_
    rintro e w' ⟨rfl, hb⟩
    rw [HOk.out]
    have HB := Lib.hid hb
    clear hb
    go_wp2_with fail
    refine (l01PText_any w.heap.size 0 ss _ (hp.out _ HB.out)).mono ?_
    rintro e w' ⟨rfl, rfl⟩
    go_wp2_with fail
    go_ret2
    exact ⟨ret_sb e1.out.symm rfl, (Joins.below_alloc1 w _).trans (HB.out.mono (by simp))⟩

set_option maxHeartbeats 4000000 in
set_option maxRecDepth 100000 in
theorem impl_PText (v : Value) (ss : List ByteArray) (w : World) (hN : ss.length ≤ maxLen) (hz : ∀ s ∈ ss, s.size ≤ maxLen) (hv : Sl w v ss) (he : ErrLen w) :
    Calls Tryd.prog 37 #[.agg #[v]] w (SaysSB (ptV ss) (validB ss) w) := by
  have hb0 := Joins.below_alloc1 w (.cells #[v] 28)
  have C := Lib.hid (matrixOf_any v ss (w.alloc (.cells #[v] 28)) hN hz (hv.below hb0) (he.below hb0))
  have hsz := matC_size ss
  have hone := matC_one ss
  unfold MatOf at C
  have hMM : validB ss = true → matC ss = mat (row0 ss).size ss.length (wordsOf ss) := matC_yes
  obtain ⟨M, hM⟩ : ∃ M, matC ss = M := ⟨_, rfl⟩
  rw [hM] at C hsz hone hMM
  have HI : Hid ((Tryd.prog.info? 70).map (·.size) = some M.size) := by show _ = _; rw [hsz]; exact infoM
  have HZ := Lib.hid (zeros_size.trans hsz.symm)
  have HO := Lib.hid hone
  clear hM hsz hone hb0 hv he
  cases hok : validB ss with
  | false =>
    have e1 : Hid (ptV ss = ⟨#[]⟩) := by show ptV ss = _; unfold ptV; rw [hok]; rfl
    have HOk := Lib.hid hok
    clear hok hMM
    go_enter Tryd.func37, Tryd.ntmps37
    go_wp2_with fail
    refine C.out.mono ?_
    rintro e w1 ⟨rfl, hb⟩
    rw [HOk.out]
    have HB := Lib.hid hb
    clear hb
    go_wp2_with (refine wpList_store_row rfl 70 _ _ rfl w1.heap.size M rfl rfl 70 zeros (heap_alloc_last w1 _) HI.out HZ.out HO.out ?_)
    go_ret2
    have h1 : Below w.heap.size w w1 := (Joins.below_alloc1 w _).trans (HB.out.mono (by simp))
    exact ⟨ret_sb e1.out.symm rfl, setRow_below (h1.alloc h1.size _) h1.size _⟩
  | true =>
    have V := vp_of hok
    have hMM := hMM hok
    have hw16 := V.w16
    have hn16 := V.n16
    have HT : Hid (∀ (y : Nat) W, y < ss.length → Calls Tryd.prog 77 #[.agg M, .int .i64 y] W (fun e w' => e = .returned (.string (ss.getD y ByteArray.empty)) ∧ Below W.heap.size W w')) := fun y W hy => by
      have := rowText_any M (row0 ss).size ss.length (wordsOf ss) (y : Int) W hMM hw16 hn16 (words_lt V)
      rwa [rows_back V y hy] at this
    have HL : Hid (∀ y, y ≤ ss.length → (bufL ss y).length ≤ 300) := fun y hy => bufL_len V y hy
    have HR : Hid (∀ y, y < ss.length → (ss.getD y ByteArray.empty).size ≤ 16) := fun y hy => by have := (V.rows y hy).1; omega
    have e1 : Hid (ptV ss = tx ss (ss.length - 1)) := by show ptV ss = _; unfold ptV; rw [hok]; rfl
    have hn1 := V.n1
    have HB0 := Lib.hid (bufL_zero ss)
    have HBs := Lib.hid (bufL_step ss)
    have HBe : Hid (∀ n, 1 ≤ n → (⟨(bufL ss n).toArray⟩ : ByteArray) = tx ss (n - 1)) := fun n hn => by
      obtain ⟨j, rfl⟩ : ∃ j, n = j + 1 := ⟨n - 1, by omega⟩
      show (⟨(tx ss j).data.toList.toArray⟩ : ByteArray) = tx ss j
      rw [Array.toArray_toList]
    have HOk := Lib.hid hok
    have hr0 : ss.getD 0 ByteArray.empty = row0 ss := rfl
    have HR0 := Lib.hid hr0
    obtain ⟨a, ha⟩ : ∃ a, (row0 ss).size = a := ⟨_, rfl⟩
    obtain ⟨n, hn⟩ : ∃ n, ss.length = n := ⟨_, rfl⟩
    rw [hn] at hMM HT HL HR e1 hn1 hn16
    have HMM := Lib.hid hMM
    clear hok V hMM hr0 ha hn
    go_enter Tryd.func37, Tryd.ntmps37
    go_wp2_with fail
    refine C.out.mono ?_
    rintro e w1 ⟨rfl, hb⟩
    rw [HOk.out]
    have HB : Hid (Below w.heap.size w w1) := (Joins.below_alloc1 w (.cells #[v] 28)).trans (hb.mono (by simp))
    have hs1 := HB.out.size
    have hl1 : ((w1.alloc (.cells M 70)).alloc (.cells #[.slice none 0 0, .int .i64 0, .int .i8 0] 98)).heap[w1.heap.size]? = some (.cells M 70 (0, 0)) := by
      rw [Below.heap_alloc _ _ _ (by simp)]; exact heap_alloc_last w1 _
    have c0 : ((w1.alloc (.cells M 70)).alloc (.cells #[.slice none 0 0, .int .i64 0, .int .i8 0] 98)).cell? ⟨w1.heap.size, 1, none⟩ = some (.int .i64 n) := by
      rw [Joins.cell_of_block hl1 1, HMM.out]; rfl
    have hI0 : Lib.IsBuffer 98 5 (w1.heap.size + 1) (w1.heap.size + 1) (Lib.byteCells (bufL ss 0)) ((w1.alloc (.cells M 70)).alloc (.cells #[.slice none 0 0, .int .i64 0, .int .i8 0] 98)) := by
      have := Lib.fresh_isBuffer 98 5 (w1.alloc (.cells M 70))
      simp only [World.size_alloc] at this
      exact this
    have L1 := Lib.hid hl1
    have I0 := Lib.hid hI0
    clear hb hl1 hI0
    go_wp2_with (refine wpList_store_new w1 rfl 70 _ _ rfl M rfl rfl 70 zeros HI.out HZ.out HO.out ?_)
    go_loopw [17] (fun yv wr => ∃ y : Nat, y ≤ n ∧ yv = .int .i64 y ∧ Lib.IsBuffer 98 5 (w1.heap.size + 1) (w1.heap.size + 1) (Lib.byteCells (bufL ss y)) wr ∧ wr.heap[w1.heap.size]? = some (.cells M 70 (0, 0)) ∧ Below w1.heap.size w1 wr) (fun yv _ => n - (intOf yv).toNat)
    case atStart => exact ⟨0, Nat.zero_le _, rfl, I0.out, L1.out, Joins.below_alloc2 _ _ _⟩
    case round =>
      clear c0
      obtain ⟨y, hy, rfl, hI, hl, hbel⟩ := hrel
      have hsz := hbel.size
      have hlt := hI.lt
      have hone : Hid (∀ v ∈ Lib.byteCells (bufL ss y), v.oneCell' = true) := Lib.byteCells_one _
      have hln : Hid ((Lib.byteCells (bufL ss y)).length ≤ 300) := by show _ ≤ _; rw [Lib.byteCells_length]; exact HL.out y hy
      have HI0 := Lib.hid hI
      have HLm := Lib.hid hl
      have HBe2 := Lib.hid hbel
      clear hI hl hbel
      by_cases hlt2 : y < n
      · have kx0 : (y : Int) < (n : Int) := by omega
        by_cases hy0 : 0 < y
        · have ky : (0 : Int) < (y : Int) := by omega
          have hstep := HBs.out y hy0
          have HSt := Lib.hid hstep
          have ht := HT.out y
          have hr := HR.out y hlt2
          obtain ⟨s, hs⟩ : ∃ s, ss.getD y ByteArray.empty = s := ⟨_, rfl⟩
          rw [hs] at ht HSt hr
          have HTy := Lib.hid (fun W => ht W hlt2)
          clear hstep ht hs
          go_wp2_with (refine (Tryd.Buffer_WriteByte_k _ _ _ _ wr HI0.out (by omega) hone.out (by have := hln.out; omega)).mono ?_; rintro e W2 ⟨rfl, hI2, hb2, hkept⟩; refine Hid.out ?_)
          refine Lib.hid ?_
          have S := Lib.hid (text_step HLm.out (by omega) HBe2.out hb2)
          have I2 : Hid (Lib.IsBuffer 98 5 (w1.heap.size + 1) (w1.heap.size + 1) (Lib.byteCells (bufL ss y ++ [47])) W2) := by
            show Lib.IsBuffer _ _ _ _ _ _
            rw [byteCells_snoc]; exact hI2
          have hs2 := S.out.2.size
          clear hI2 hb2 hkept
          go_wp2_with (first | (refine wpList_load_row rfl 70 _ rfl w1.heap.size rfl 70 M (0, 0) _ S.out.1 Tryd.underlying70 rfl HI.out ?_) | (refine (HTy.out _).mono ?_; rintro e W3 ⟨rfl, hb3⟩; refine Hid.out ?_))
          refine Lib.hid ?_
          have I3 := Lib.hid (I2.out.old hb3)
          have L3 := Lib.hid ((hb3.block w1.heap.size (by have := I2.out.lt; omega)).trans S.out.1)
          have B3 := Lib.hid (S.out.2.trans (hb3.mono hs2))
          have hs3 := B3.out.size
          have hlt3 := I3.out.lt
          clear hb3
          go_wp2_with (refine (Tryd.Buffer_WriteString_k _ _ _ _ W3 I3.out (by omega) (Lib.byteCells_one _) (by have := hln.out; rw [byteCells_snoc, List.length_append]; simp; omega)).mono ?_; rintro e W4 ⟨rfl, hI4, hb4, hkept⟩; refine Hid.out ?_)
          refine Lib.hid ?_
          have S4 := Lib.hid (text_step L3.out (by omega) B3.out hb4)
          have I4 : Hid (Lib.IsBuffer 98 5 (w1.heap.size + 1) (w1.heap.size + 1) (Lib.byteCells (bufL ss (y + 1))) W4) := by
            show Lib.IsBuffer _ _ _ _ _ _
            rw [← HSt.out, Lib.byteCells_append]; exact hI4
          clear hI4 hb4 hkept
          go_wp2
          go_roundw
          case rel => exact ⟨y + 1, by omega, by go_num, I4.out, S4.out.1, S4.out.2⟩
          case measure => simp [intOf]; omega
        · obtain rfl : y = 0 := by omega
          have ht := HT.out 0
          have hr := HR.out 0 hlt2
          rw [HR0.out] at ht hr
          have HSt := Lib.hid HB0.out
          obtain ⟨s, hs⟩ : ∃ s, row0 ss = s := ⟨_, rfl⟩
          rw [hs] at ht HSt hr
          have HTy := Lib.hid (fun W => ht W hlt2)
          clear ht hs
          have hln0 : Hid (Lib.byteCells (bufL ss 0) = []) := rfl
          go_wp2_with (first | (refine wpList_load_row rfl 70 _ rfl w1.heap.size rfl 70 M (0, 0) _ HLm.out Tryd.underlying70 rfl HI.out ?_) | (refine (HTy.out _).mono ?_; rintro e W3 ⟨rfl, hb3⟩; refine Hid.out ?_))
          refine Lib.hid ?_
          have I3 := Lib.hid (HI0.out.old hb3)
          have L3 := Lib.hid ((hb3.block w1.heap.size (by omega)).trans HLm.out)
          have B3 := Lib.hid (HBe2.out.trans (hb3.mono hsz))
          have hs3 := B3.out.size
          have hlt3 := I3.out.lt
          clear hb3
          go_wp2_with (refine (Tryd.Buffer_WriteString_k _ _ _ _ W3 I3.out (by omega) (Lib.byteCells_one _) (by have := hln.out; omega)).mono ?_; rintro e W4 ⟨rfl, hI4, hb4, hkept⟩; refine Hid.out ?_)
          refine Lib.hid ?_
          have S4 := Lib.hid (text_step L3.out (by omega) B3.out hb4)
          have I4 : Hid (Lib.IsBuffer 98 5 (w1.heap.size + 1) (w1.heap.size + 1) (Lib.byteCells (bufL ss (0 + 1))) W4) := by
            show Lib.IsBuffer _ _ _ _ _ _
            rw [← HSt.out]; rw [hln0.out, List.nil_append] at hI4; exact hI4
          clear hI4 hb4 hkept
          go_wp2
          go_roundw
          case rel => exact ⟨0 + 1, by omega, by go_num, I4.out, S4.out.1, S4.out.2⟩
          case measure => simp [intOf]; omega
      · obtain rfl : y = n := by omega
        go_wp2_with (refine (Tryd.Buffer_String _ _ (bufL ss y) wr HI0.out).mono ?_; rintro e W2 ⟨rfl, m, rfl⟩)
        go_wp2
        go_ret2
        exact ⟨ret_sb ((HBe.out y hn1).trans e1.out.symm) rfl, (HB.out.trans (HBe2.out.mono hs1)).trans ⟨rfl, rfl, rfl, Nat.le_refl _, fun _ _ => rfl⟩⟩
end Go.Proofs.YtfdefbfakdndiaaDoor
