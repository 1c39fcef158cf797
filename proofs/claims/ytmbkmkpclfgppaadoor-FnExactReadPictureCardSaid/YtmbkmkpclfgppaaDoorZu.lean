/- Contracts of single functions, and plain lemmas, on which the exact laws of this seat rest; each holds under the conditions that it states. -/
import Derived.Test.YtmbkmkpclfgppaaDoorZt
namespace Go.Proofs.YtmbkmkpclfgppaaDoor
set_option linter.unusedVariables false
set_option linter.unusedSimpArgs false
open Go.RowKit

/-! ### the pixels give the picture back -/
theorem bit_back {ss : List ByteArray} (V : VP ss) (x y : Nat) (hx : x < (row0 ss).size) (hy : y < ss.length) : blackB (row0 ss).size ss.length (wordsOf ss) x y = blackAt (ss.getD y ByteArray.empty) x := by
  unfold blackB
  have h : hasB (row0 ss).size ss.length (x : Int) (y : Int) = true := by
    unfold hasB
    simp only [Bool.and_eq_true, decide_eq_true_eq]
    refine ⟨⟨⟨?_, ?_⟩, ?_⟩, ?_⟩ <;> omega
  rw [h, Bool.true_and, Int.toNat_natCast, Int.toNat_natCast]
  unfold wordsOf rowWord
  rw [if_pos hy, wordF_bit, (V.rows y hy).1, show decide (x < (row0 ss).size) = true from decide_eq_true hx, Bool.true_and]
theorem words_ltR {ss : List ByteArray} (V : VP ss) (j : Nat) : wordsOf ss j < 4294967296 := by
  unfold wordsOf
  split
  · rename_i h
    have h1 := wordF_lt (blackAt (ss.getD j ByteArray.empty)) (ss.getD j ByteArray.empty).size
    have h3 : (ss.getD j ByteArray.empty).size ≤ 16 := by rw [(V.rows j h).1]; exact V.w16
    have h2 : 2 ^ (ss.getD j ByteArray.empty).size ≤ 2 ^ 16 := Nat.pow_le_pow_right (by omega) h3
    unfold rowWord
    omega
  · omega
theorem row_back {ss : List ByteArray} (V : VP ss) (y : Nat) (hy : y < ss.length) : rowOf (fun x => blackB (row0 ss).size ss.length (wordsOf ss) x y) (row0 ss).size = ss.getD y ByteArray.empty := by
  obtain ⟨h1, h2⟩ := V.rows y hy
  have hw : ∀ x : Nat, x < (row0 ss).size → blackB (row0 ss).size ss.length (wordsOf ss) x y = blackAt (ss.getD y ByteArray.empty) x := fun x hx => bit_back V x y hx hy
  obtain ⟨s, hs⟩ : ∃ s, ss.getD y ByteArray.empty = s := ⟨_, rfl⟩
  rw [hs] at h1 h2 hw ⊢
  unfold rowOf mkRow
  have hl : s.data.toList.length = (row0 ss).size := by rw [← h1]; simp
  have e : ((List.range (row0 ss).size).map fun x : Nat => if blackB (row0 ss).size ss.length (wordsOf ss) (x : Int) (y : Int) then (35 : UInt8) else 46) = s.data.toList := by
    apply List.ext_getElem
    · rw [hl]; simp
    · intro i i1 i2
      have hi : i < s.size := by rw [h1]; simpa using i1
      have hp := h2 i hi
      have hb := blackAt_eq s i hi
      rw [List.getElem_map, List.getElem_range, hw i (by simpa using i1), hb]
      have e2 : s.data.toList[i] = s[i] := rfl
      rw [e2]
      unfold pixB at hp
      rcases Bool.or_eq_true_iff.1 hp with h | h
      · rw [beq_iff_eq.1 h]; rfl
      · rw [beq_iff_eq.1 h]; rfl
  rw [e]
theorem pic_back {ss : List ByteArray} (V : VP ss) : mkPic (row0 ss).size ss.length (fun y x => blackB (row0 ss).size ss.length (wordsOf ss) x y) = ss := by
  unfold mkPic
  apply List.ext_getElem
  · simp
  · intro i i1 i2
    rw [List.getElem_map, List.getElem_range, row_back V i i2, List.getD_eq_getElem?_getD, List.getElem?_eq_getElem i2]
    rfl

theorem own_formR {w : World} {base n s : Nat} {e : TypeId} {v : Value} {xs : List Value} (h : w.ownsRow base e s v n xs) : ∃ ao cap, v = .slice ao n cap := by
  rcases h.2 with ⟨hv, hn⟩ | ⟨g, cap, cur, hv, _⟩
  · subst hn; exact ⟨_, _, hv⟩
  · exact ⟨_, _, hv⟩
theorem l01Cut_formP (s : ByteArray) (w : World) (hs : s.size ≤ 1048576) : Calls Tryd.prog 16 #[.string s, .int .u8 47] w (fun e w' => ∃ ao cap, e = .returned (.slice ao (piecesP s).length cap) ∧ OwnP w' w.heap.size (.slice ao (piecesP s).length cap) (piecesP s) ∧ Below w.heap.size w w') :=
  (l01Cut_anyP s w hs).mono fun e w' ⟨v, he, ho, hb⟩ => by
    obtain ⟨ao, cap, rfl⟩ := own_formR ho
    exact ⟨ao, cap, he, ho, hb⟩

/-- the picture that a text has -/
def readPic (s : ByteArray) : List ByteArray := if validB (piecesP s) then piecesP s else []
theorem readPic_yes {s : ByteArray} (h : validB (piecesP s) = true) : readPic s = piecesP s := by unfold readPic; rw [if_pos h]
theorem readPic_no {s : ByteArray} (h : validB (piecesP s) = false) : readPic s = [] := by unfold readPic; rw [h]; rfl

set_option maxHeartbeats 1000000 in
set_option maxRecDepth 100000 in
theorem l01Read_any (s : ByteArray) (w : World) (hs : s.size ≤ 1048576) : Calls Tryd.prog 9 #[.string s] w (SaysPic (readPic s) (validB (piecesP s)) w) := by
  have C := Lib.hid (fun W => l01Cut_formP s W hs)
  obtain ⟨hz, hN⟩ := piece_sizeP hs
  have D := Lib.hid (fun pb v W hp hv => l01Is_any pb 0 v (piecesP s) W hp hv (by unfold maxLen; omega) (fun p hp => by unfold maxLen; have := hz p hp; omega))
  have RY := Lib.hid (@readPic_yes s)
  have RN := Lib.hid (@readPic_no s)
  obtain ⟨R, hR⟩ : ∃ R, readPic s = R := ⟨_, rfl⟩
  rw [hR] at RY RN ⊢
  obtain ⟨P, hP⟩ : ∃ P, piecesP s = P := ⟨_, rfl⟩
  rw [hP] at C D RY RN ⊢
  obtain ⟨n, hn⟩ : ∃ n, P.length = n := ⟨_, rfl⟩
  obtain ⟨ok, hok⟩ : ∃ b, validB P = b := ⟨_, rfl⟩
  rw [hn] at C
  rw [hok] at D RY RN ⊢
  have hP0 : Hid ((w.alloc (.cells #[.slice none 0 0] 24)).heap[w.heap.size]? = some (.cells #[.slice none 0 0] 24 (0, 0))) := heap_alloc_last w _
  have HW0 : Hid (w.heap.size < (w.alloc (.cells #[.slice none 0 0] 24)).heap.size) := by show _ < _; simp
  have B0 := Lib.hid (Joins.below_alloc1 w (.cells #[.slice none 0 0] 24))
  clear hz hN hR hP hn hs hok
  go_enter Tryd.func9, Tryd.ntmps9
  go_wp2_with fail
  refine (C.out _).mono ?_
  rintro e w1 ⟨ao, cap, rfl, ho, hb1⟩
  have HB := Lib.hid (B0.out.trans (hb1.mono (Nat.le_of_lt HW0.out)))
  have HP := Lib.hid ((hb1.block w.heap.size HW0.out).trans hP0.out)
  have HO : Hid (OwnP w1 w.heap.size (.slice ao n cap) P) := OwnP.mono ho (Nat.le_of_lt HW0.out)
  have hs1 := HB.out.size
  have hl1 : w.heap.size < w1.heap.size := Nat.lt_of_lt_of_le HW0.out hb1.size
  clear ho hb1
  go_wp2_with fail
  have ha1 : (w1.alloc (.cells #[.slice ao n cap] 24)).cell? ⟨w1.heap.size, 0, none⟩ = some (.slice ao n cap) := cell_of_one (heap_alloc_last w1 _)
  have OA := Lib.hid (World.ownsRow.alloc HO.out (.cells #[.slice ao n cap] 24))
  have hPA : (w1.alloc (.cells #[.slice ao n cap] 24)).heap[w.heap.size]? = some (.cells #[.slice none 0 0] 24 (0, 0)) := by
    rw [Below.heap_alloc _ _ _ hl1]; exact HP.out
  have HBA := Lib.hid (HB.out.alloc hs1 (.cells #[.slice ao n cap] 24))
  have HA1 := Lib.hid ha1
  have HPA := Lib.hid hPA
  have hs2 : (w1.alloc (.cells #[.slice ao n cap] 24)).heap.size = w1.heap.size + 1 := by simp
  obtain ⟨W1, hW1⟩ : ∃ W, w1.alloc (.cells #[.slice ao n cap] 24) = W := ⟨_, rfl⟩
  rw [hW1] at OA HBA HA1 HPA hs2 ⊢
  clear ha1 hPA hW1
  refine (D.out _ _ _ HA1.out (OwnP.sl OA.out)).mono ?_
  rintro e w2 ⟨rfl, hb2⟩
  have P2 := Lib.hid ((hb2.block w.heap.size (by omega)).trans HPA.out)
  have B2 := Lib.hid (HBA.out.trans (hb2.mono (by omega)))
  have O2 := Lib.hid (OwnP.below OA.out hb2)
  have c2 := cell_kept hb2 HA1.out
  clear hb2
  cases ok with
  | false =>
    have hfr : w2.frozen? ⟨w.heap.size, 0, none⟩ = false := free_of_one P2.out
    have hc2 : w2.cell? ⟨w.heap.size, 0, none⟩ = some (.slice none 0 0) := cell_of_one P2.out
    obtain rfl := RN.out rfl
    clear c2
    go_wp2_with fail
    exact bodyPost_ret (v := .tuple #[.agg #[.slice none 0 0], .bool false]) (by simp [results, Tryd.results9, go_sem, cell_of_one (one_setCell P2.out)]) rfl ⟨_, _, _, rfl, World.ownsRow_nil _ _ _ _, B2.out.setCell (by simp) _⟩
  | true =>
    have hfr : w2.frozen? ⟨w.heap.size, 0, none⟩ = false := free_of_one P2.out
    have hc2 : w2.cell? ⟨w.heap.size, 0, none⟩ = some (.slice none 0 0) := cell_of_one P2.out
    obtain rfl := RY.out rfl
    have O3 := Lib.hid (own_set (u := .slice ao n cap) O2.out P2.out (by decide))
    go_wp2_with fail
    exact bodyPost_ret (v := .tuple #[.agg #[.slice ao n cap], .bool true]) (by simp [results, Tryd.results9, go_sem, cell_of_one (one_setCell P2.out)]) rfl ⟨_, _, _, rfl, O3.out, B2.out.setCell (by simp) _⟩

set_option maxHeartbeats 1000000 in
set_option maxRecDepth 100000 in
theorem spec_ReadPicture (s : ByteArray) (w : World) (hs : s.size ≤ 1048576) : Calls Tryd.prog 4 #[.string s] w (SaysPic (readPic s) (validB (piecesP s)) w) := by
  have C := Lib.hid (fun W => l01Read_any s W hs)
  obtain ⟨R, hR⟩ : ∃ R, readPic s = R := ⟨_, rfl⟩
  rw [hR] at C ⊢
  obtain ⟨ok, hok⟩ : ∃ b, validB (piecesP s) = b := ⟨_, rfl⟩
  rw [hok] at C ⊢
  have hP0 : Hid ((w.alloc (.cells #[.slice none 0 0] 24)).heap[w.heap.size]? = some (.cells #[.slice none 0 0] 24 (0, 0))) := heap_alloc_last w _
  have HW0 : Hid (w.heap.size < (w.alloc (.cells #[.slice none 0 0] 24)).heap.size) := by show _ < _; simp
  have B0 := Lib.hid (Joins.below_alloc1 w (.cells #[.slice none 0 0] 24))
  clear hR hok hs
  go_enter Tryd.func4, Tryd.ntmps4
  go_wp2_with fail
  refine (C.out _).mono ?_
  rintro e w2 ⟨ao, n, cap, rfl, ho, hb2⟩
  have P2 := Lib.hid ((hb2.block w.heap.size HW0.out).trans hP0.out)
  have B2 := Lib.hid (B0.out.trans (hb2.mono (Nat.le_of_lt HW0.out)))
  have O2 : Hid (OwnP w2 w.heap.size (.slice ao n cap) R) := OwnP.mono ho (Nat.le_of_lt HW0.out)
  clear ho hb2
  have hfr : w2.frozen? ⟨w.heap.size, 0, none⟩ = false := free_of_one P2.out
  have hc2 : w2.cell? ⟨w.heap.size, 0, none⟩ = some (.slice none 0 0) := cell_of_one P2.out
  have O3 := Lib.hid (own_set (u := .slice ao n cap) O2.out P2.out (by decide))
  go_wp2_with fail
  exact bodyPost_ret (v := .tuple #[.agg #[.slice ao n cap], .bool ok]) (by simp [results, Tryd.results4, go_sem, cell_of_one (one_setCell P2.out)]) rfl ⟨_, _, _, rfl, O3.out, B2.out.setCell (by simp) _⟩
end Go.Proofs.YtmbkmkpclfgppaaDoor
