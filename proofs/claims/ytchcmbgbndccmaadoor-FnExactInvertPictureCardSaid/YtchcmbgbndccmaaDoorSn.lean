/- Contracts of single functions, and plain lemmas, on which the exact laws of this seat rest; each holds under the conditions that it states. -/
import Derived.Test.YtchcmbgbndccmaaDoorSi
namespace Go.Proofs.YtchcmbgbndccmaaDoor
set_option linter.unusedVariables false
open Go.RowKit

theorem after_alloc {w w1 : World} {M : Array Value} {P : Nat} {t t2 : TypeId} {x u : Value} (hP : w1.heap[P]? = some (.cells #[x] t (0, 0))) (hb : Below w.heap.size w w1) (hw : w.heap.size ≤ P) :
    ((w1.setCell ⟨P, 0, none⟩ u).alloc (.cells M t2)).cell? ⟨P, 0, none⟩ = some u ∧ Below w.heap.size w ((w1.setCell ⟨P, 0, none⟩ u).alloc (.cells M t2)) := by
  have hl := (Array.getElem?_eq_some_iff.1 hP).1
  have hss : (w1.setCell ⟨P, 0, none⟩ u).heap.size = w1.heap.size := by simp [World.setCell]
  exact ⟨cell_of_one ((Below.heap_alloc _ _ P (by rw [hss]; exact hl)).trans (one_setCell hP)), (hb.setCell (p := ⟨P, 0, none⟩) hw u).alloc (by rw [hss]; exact hb.size) _⟩

set_option maxHeartbeats 2000000 in
set_option maxRecDepth 100000 in
theorem impl_Set_no (v : Value) (ss : List ByteArray) (x y : Int) (bk : Bool) (w : World) (hN : ss.length ≤ maxLen) (hz : ∀ s ∈ ss, s.size ≤ maxLen) (hv : Sl w v ss) (he : ErrLen w) (hno : pixOk ss x y = false) :
    Calls Tryd.prog 27 #[.agg #[v], .int .i64 x, .int .i64 y, .bool bk] w (SaysPic [] false w) := by
  have hb0 : Below w.heap.size w ((w.alloc (.cells #[v] 27)).alloc (.cells #[.slice none 0 0] 27)) := Joins.below_alloc2 w _ _
  have hl1 : ((w.alloc (.cells #[v] 27)).alloc (.cells #[.slice none 0 0] 27)).heap[w.heap.size]? = some (.cells #[v] 27 (0, 0)) := by
    rw [Below.heap_alloc _ _ _ (by simp)]; exact heap_alloc_last w _
  have hl2 : ((w.alloc (.cells #[v] 27)).alloc (.cells #[.slice none 0 0] 27)).heap[w.heap.size + 1]? = some (.cells #[.slice none 0 0] 27 (0, 0)) := by
    have := heap_alloc_last (w.alloc (.cells #[v] 27)) (.cells #[.slice none 0 0] 27)
    simp only [World.size_alloc] at this
    exact this
  have L2 := Lib.hid hl2
  have hcv : ((w.alloc (.cells #[v] 27)).alloc (.cells #[.slice none 0 0] 27)).cell? ⟨w.heap.size, 0, none⟩ = some v := cell_of_one hl1
  have C := Lib.hid (matrixOf_any v ss _ hN hz (hv.below hb0) (he.below hb0))
  have hsz := matC_size ss
  have hone := matC_one ss
  have hMM : validB ss = true → matC ss = mat (row0 ss).size ss.length (wordsOf ss) := matC_yes
  unfold MatOf at C
  obtain ⟨M, hM⟩ : ∃ M, matC ss = M := ⟨_, rfl⟩
  rw [hM] at C hsz hone hMM
  have HI : Hid ((Tryd.prog.info? 71).map (·.size) = some M.size) := by show _ = _; rw [hsz]; exact infoM
  have HZ := Lib.hid (zeros_size.trans hsz.symm)
  have HO := Lib.hid hone
  clear hb0 hl1 hl2 hM hsz hone hv he
  cases hok : validB ss with
  | false =>
    have HOk := Lib.hid hok
    clear hok hno hMM
    go_enter Tryd.func27, Tryd.ntmps27
    go_wp2_with fail
    refine C.out.mono ?_
    rintro e w1 ⟨rfl, hb⟩
    rw [HOk.out]
    have B1 : Hid (Below w.heap.size w w1) := (Joins.below_alloc2 w _ _).trans (hb.mono (by simp; omega))
    have P1 := Lib.hid ((hb.block (w.heap.size + 1) (by simp)).trans L2.out)
    have hl1 : w.heap.size + 1 < w1.heap.size := (Array.getElem?_eq_some_iff.1 P1.out).1
    have Q1 := Lib.hid ((Below.heap_alloc w1 (.cells M 71) _ hl1).trans P1.out)
    have hfr : (w1.alloc (.cells M 71)).frozen? ⟨w.heap.size + 1, 0, none⟩ = false := free_of_one Q1.out
    have hc2 : (w1.alloc (.cells M 71)).cell? ⟨w.heap.size + 1, 0, none⟩ = some (.slice none 0 0) := cell_of_one Q1.out
    have HX := Lib.hid (after_alloc (M := M) (t2 := 71) (u := .slice none 0 0) P1.out B1.out (by omega))
    clear hb hcv
    go_wp2_with (refine wpList_store_new w1 rfl 71 _ _ rfl M rfl rfl 71 zeros HI.out HZ.out HO.out ?_)
    refine bodyPost_ret (v := .tuple #[.agg #[.slice none 0 0], .bool false]) (by simp [results, Tryd.results27, go_sem, HX.out.1]) rfl ⟨_, _, _, rfl, World.ownsRow_nil _ _ _ _, HX.out.2⟩
  | true =>
    have hin : insB (row0 ss).size ss.length x y = false := by unfold pixOk at hno; rw [hok] at hno; simpa using hno
    have HH : Hid (∀ W, Calls Tryd.prog 63 #[.agg M, .int .i64 x, .int .i64 y] W (SaysB false W)) := fun W => by
      have := has_any M (row0 ss).size ss.length (fun j => (wordsOf ss j : Int)) x y W ⟨hMM hok⟩
      rwa [hasB_insB, hin] at this
    have HOk := Lib.hid hok
    clear hok hno hMM hin
    go_enter Tryd.func27, Tryd.ntmps27
    go_wp2_with fail
    refine C.out.mono ?_
    rintro e w1 ⟨rfl, hb⟩
    rw [HOk.out]
    have B1 : Hid (Below w.heap.size w w1) := (Joins.below_alloc2 w _ _).trans (hb.mono (by simp; omega))
    have P1 := Lib.hid ((hb.block (w.heap.size + 1) (by simp)).trans L2.out)
    have hs1 := B1.out.size
    have hl1 : w.heap.size + 1 < w1.heap.size := (Array.getElem?_eq_some_iff.1 P1.out).1
    clear hb hcv
    go_wp2_with (first | (refine wpList_store_new w1 rfl 71 _ _ rfl M rfl rfl 71 zeros HI.out HZ.out HO.out ?_) | (refine wpList_load_row_g rfl 71 _ rfl w1.heap.size rfl 71 M (0, 0) _ (heap_alloc_last w1 _) Tryd.underlying71 rfl HI.out ?_))
    refine (HH.out _).mono ?_
    rintro e w2 ⟨rfl, hb2⟩
    have B2 : Hid (Below w.heap.size w w2) := (B1.out.alloc hs1 (.cells M 71)).trans (hb2.mono (by simp; omega))
    have P2 := Lib.hid ((hb2.block (w.heap.size + 1) (by simp; omega)).trans ((Below.heap_alloc w1 (.cells M 71) _ hl1).trans P1.out))
    have hfr : w2.frozen? ⟨w.heap.size + 1, 0, none⟩ = false := free_of_one P2.out
    have hc2 : w2.cell? ⟨w.heap.size + 1, 0, none⟩ = some (.slice none 0 0) := cell_of_one P2.out
    clear hb2
    go_wp2_with fail
    refine bodyPost_ret (v := .tuple #[.agg #[.slice none 0 0], .bool false]) (by simp [results, Tryd.results27, go_sem, cell_of_one (one_setCell P2.out)]) rfl ⟨_, _, _, rfl, World.ownsRow_nil _ _ _ _, B2.out.setCell (by simp) _⟩
end Go.Proofs.YtchcmbgbndccmaaDoor
