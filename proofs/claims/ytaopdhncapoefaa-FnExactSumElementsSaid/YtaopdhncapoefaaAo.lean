/- Contracts of single functions, and plain lemmas, on which the exact laws of this seat rest; each holds under the conditions that it states. -/
import Derived.Test.YtaopdhncapoefaaAn
import Derived.Test.YtaopdhncapoefaaQh
import Derived.Deep.RegionHeld3
namespace Go.Proofs.Ytaopdhncapoefaa
set_option linter.unusedVariables false
set_option linter.unusedSimpArgs false
open Go.RowKit

/-- a copy of an element -/
def TookEl (w : World) (xs : List (Int × Int)) (e : Ending) (w' : World) : Prop := ∃ g cap, e = .returned (.agg #[.slice (some ⟨g, 0, none⟩) xs.length cap]) ∧ OwnS w' w.heap.size (.slice (some ⟨g, 0, none⟩) xs.length cap) xs ∧ Below w.heap.size w w'

theorem toElement_any (v : Value) (xs : List (Int × Int)) (w : World) (hN : xs.length ≤ 1048576) (hv : SlA w v xs) :
    Calls Try.prog 8 #[.agg #[v]] w (TookEl w xs) := by
  have HB0 := Lib.hid (Joins.below_alloc3 w (.cells #[v] 24) (.cells #[.slice none 0 0] 28) (.cells #[.slice none 0 0] 28))
  have h3 := heap_alloc_last ((w.alloc (.cells #[v] 24)).alloc (.cells #[.slice none 0 0] 28)) (.cells #[.slice none 0 0] 28)
  have h2 : (((w.alloc (.cells #[v] 24)).alloc (.cells #[.slice none 0 0] 28)).alloc (.cells #[.slice none 0 0] 28)).heap[w.heap.size + 1]? = some (.cells #[.slice none 0 0] 28 (0, 0)) := by
    rw [Below.heap_alloc _ _ _ (by simp)]
    have := heap_alloc_last (w.alloc (.cells #[v] 24)) (.cells #[.slice none 0 0] 28)
    rwa [World.size_alloc] at this
  simp only [World.size_alloc] at h3
  have H2 := Lib.hid h2
  have H3 := Lib.hid h3
  have C := Lib.hid (toSpotS_sl v xs _ hN (hv.below HB0.out))
  have hs0 : (((w.alloc (.cells #[v] 24)).alloc (.cells #[.slice none 0 0] 28)).alloc (.cells #[.slice none 0 0] 28)).heap.size = w.heap.size + 1 + 1 + 1 := by simp
  clear h2 h3 hv
  go_enter Try.func8, Try.ntmps8
  go_wp2_with fail
  refine C.out.mono ?_
  rintro e w1 ⟨rfl, hown, hb⟩
  rw [hs0] at hown hb ⊢
  have P2 := Lib.hid ((hb.block (w.heap.size + 1) (by omega)).trans H2.out)
  have P3 := Lib.hid ((hb.block (w.heap.size + 1 + 1) (by omega)).trans H3.out)
  have B1 := Lib.hid (HB0.out.trans (hb.mono (by omega)))
  have O1 := Lib.hid hown
  have c2 := cell_of_one P2.out
  have c3 := cell_of_one P3.out
  have f2 := free_of_one P2.out
  have f3 := free_of_one P3.out
  have l2 := (Array.getElem?_eq_some_iff.1 P2.out).1
  have l3 := (Array.getElem?_eq_some_iff.1 P3.out).1
  have P2' : Hid ((w1.setCell ⟨w.heap.size + 1 + 1, 0, none⟩ (.slice (some ⟨w.heap.size + 1 + 1 + 1, 0, none⟩) xs.length xs.length)).heap[w.heap.size + 1]? = some (.cells #[.slice none 0 0] 28 (0, 0))) := (Below.heap_setCell _ _ _ _ (by simp)).trans P2.out
  have O2 := Lib.hid (own_set (u := .slice (some ⟨w.heap.size + 1 + 1 + 1, 0, none⟩) xs.length xs.length) (own_set (u := .slice (some ⟨w.heap.size + 1 + 1 + 1, 0, none⟩) xs.length xs.length) O1.out P3.out (by decide)) P2'.out (by decide))
  have B2 := Lib.hid ((B1.out.setCell (p := ⟨w.heap.size + 1 + 1, 0, none⟩) (by simp; omega) (.slice (some ⟨w.heap.size + 1 + 1 + 1, 0, none⟩) xs.length xs.length)).setCell (p := ⟨w.heap.size + 1, 0, none⟩) (by simp) (.slice (some ⟨w.heap.size + 1 + 1 + 1, 0, none⟩) xs.length xs.length))
  clear hown hb
  go_wp2_with fail
  exact bodyPost_ret (results_cell1 (p := 2) (ty := 28) Try.results8 _ _ (w.heap.size + 1) 28 #[.slice (some ⟨w.heap.size + 1 + 1 + 1, 0, none⟩) xs.length xs.length] (0, 0) _ rfl (one_setCell P2'.out) Try.underlying28 rfl infoEl) rfl ⟨_, _, rfl, Joins.ownsRow_le O2.out (by omega), B2.out⟩

theorem szElement_any (v : Value) (xs : List (Int × Int)) (left : Int) (w : World) (h0 : 0 ≤ left) (h1 : left ≤ 1048576) (hN : xs.length ≤ maxLen) (hv : SlA w v xs) :
    Calls Try.prog 6 #[.agg #[v], .int .i64 left] w (fun e w' => ∃ r : Int, e = .returned (.int .i64 r) ∧ r ≤ left ∧ -1 ≤ r ∧ (0 ≤ r → (xs.length : Int) ≤ left) ∧ Below w.heap.size w w') := by
  obtain ⟨ao, cap, rfl⟩ : ∃ ao cap, v = .slice ao xs.length cap := by
    rcases hv with ⟨ao, cap, rfl, rfl⟩ | ⟨b, off, cap, rfl, _⟩
    · exact ⟨_, _, rfl⟩
    · exact ⟨_, _, rfl⟩
  have C := Lib.hid (fun W => szSpotS_any ao xs.length cap left W h0 h1 hN)
  clear hv hN
  go_enter Try.func6, Try.ntmps6
  go_wp2_with fail
  refine (C.out _).mono ?_
  rintro e w' ⟨r, rfl, h2, h3, h4, rfl⟩
  by_cases hr : r < 0
  · go_wp2_with fail
    go_ret
    exact ⟨_, rfl, by omega, by omega, fun h => absurd h (by decide), Joins.below_alloc1 w _⟩
  · go_wp2_with fail
    go_ret
    exact ⟨_, rfl, by omega, by omega, h4, Joins.below_alloc1 w _⟩

end Go.Proofs.Ytaopdhncapoefaa
