/- Contracts of single functions, and plain lemmas, on which the exact laws of this seat rest; each holds under the conditions that it states. -/
import Derived.Test.YtakaglbbcaplhaaDoorDB
import Derived.Test.YtakaglbbcaplhaaDoorR2
namespace Go.Proofs.YtakaglbbcaplhaaDoor
set_option linter.unusedVariables false
set_option linter.unusedSimpArgs false
open Go.RowKit

set_option maxHeartbeats 2000000 in
set_option maxRecDepth 100000 in
theorem reqBlack_yes (v : Value) (ss : List ByteArray) (w : World) (hN : ss.length ≤ maxLen) (hz : ∀ s ∈ ss, s.size ≤ maxLen) (hv : Sl w v ss) (he : ErrLen w) (hok : validB ss = true) (hbl : 0 < (bl ss).length) :
    Calls Tryd.prog 105 #[.agg #[v]] w (fun e w' => e = .returned (.agg (matC ss)) ∧ Below w.heap.size w w') := by
  have hb0 := Joins.below_alloc2 w (.cells #[v] 29) (.cells zeros 73)
  have hR0 := heap_alloc2_new w (.cells #[v] 29) (.cells zeros 73)
  have hc0 : ((w.alloc (.cells #[v] 29)).alloc (.cells zeros 73)).cell? ⟨w.heap.size, 0, none⟩ = some v := cell_of_one (t := 29) (by rw [Below.heap_alloc _ _ _ (by simp)]; exact heap_alloc_last w _)
  have C := Lib.hid (reqMat_yes v ss ((w.alloc (.cells #[v] 29)).alloc (.cells zeros 73)) hN hz (hv.below hb0) (he.below hb0) hok)
  have hle := bl_len ss hok
  have CB : Hid (∀ W, Calls Tryd.prog 108 #[.agg (matC ss)] W (fun e w' => ∃ ao cap, e = .returned (.slice ao (bl ss).length cap) ∧ Below W.heap.size W w')) := fun W => (blacks_any ss W hok).mono fun e w' ⟨ao, n, cap, he, hO, hb⟩ => by
    obtain ⟨ao', cap', hh⟩ : ∃ ao' cap', Value.slice ao n cap = .slice ao' (bl ss).length cap' := by
      rcases (OwnS.sl hO) with ⟨ao, cap, h1, h2⟩ | ⟨b, cap, h1, h2⟩
      · have h2' : bl ss = [] := h2
        rw [h2'] at hbl
        exact absurd hbl (by simp)
      · exact ⟨_, _, h1⟩
    exact ⟨ao', cap', by rw [he, hh], hb⟩
  have hsz := matC_size ss
  have hone := matC_one ss
  obtain ⟨M, hM⟩ : ∃ M, matC ss = M := ⟨_, rfl⟩
  rw [hM] at C CB hsz hone ⊢
  have HI : Hid ((Tryd.prog.info? 73).map (·.size) = some M.size) := by show _ = _; rw [hsz]; exact infoM
  have HZ := Lib.hid (zeros_size.trans hsz.symm)
  have HO := Lib.hid hone
  have HR0 := Lib.hid hR0
  have HB0 := Lib.hid hb0
  obtain ⟨n, hn⟩ : ∃ n, (bl ss).length = n := ⟨_, rfl⟩
  rw [hn] at CB hbl hle
  clear hM hsz hone hb0 hv he hR0 hok hn
  go_enter Tryd.func105, Tryd.ntmps105
  go_wp2_with fail
  refine C.out.mono ?_
  rintro e w1 ⟨rfl, hb⟩
  have hB1 := HB0.out.trans (hb.mono (by simp; omega))
  have hs1 := hB1.size
  have HR1 := Lib.hid ((hb.block (w.heap.size + 1) (by simp)).trans HR0.out)
  have hl1 : w.heap.size + 1 < w1.heap.size := by have := hb.size; simp at this; omega
  have HB1 := Lib.hid hB1
  have HM1 : Hid ((w1.alloc (.cells M 73)).heap[w1.heap.size]? = some (.cells M 73 (0, 0))) := heap_alloc_last w1 _
  have HR2 : Hid ((w1.alloc (.cells M 73)).heap[w.heap.size + 1]? = some (.cells zeros 73 (0, 0))) := (Below.heap_alloc _ _ _ hl1).trans HR1.out
  have HBA : Hid (Below w.heap.size w (w1.alloc (.cells M 73))) := hB1.alloc hs1 _
  clear hb hB1 hc0
  go_wp2_with (refine wpList_store_new w1 rfl 73 _ _ rfl M rfl rfl 73 zeros HI.out HZ.out HO.out ?_; refine Hid.out ?_)
  obtain ⟨W2, hW2⟩ : ∃ W2, w1.alloc (.cells M 73) = W2 := ⟨_, rfl⟩
  obtain ⟨m1, hm1⟩ : ∃ m1, w1.heap.size = m1 := ⟨_, rfl⟩
  rw [hW2] at HM1 HR2 HBA ⊢
  rw [hm1] at HM1 ⊢
  clear hW2 hm1 HR1 HB1 hs1 hl1
  refine Lib.hid ?_
  go_wp2_with (first | (refine wpList_load_row rfl 73 _ rfl m1 rfl 73 M (0, 0) _ HM1.out Tryd.underlying73 rfl HI.out ?_))
  refine (CB.out _).mono ?_
  rintro e w3 ⟨ao, cap, rfl, hb3⟩
  have HM3 := Lib.hid ((hb3.block _ (Array.getElem?_eq_some_iff.1 HM1.out).1).trans HM1.out)
  have HR3 := Lib.hid ((hb3.block _ (Array.getElem?_eq_some_iff.1 HR2.out).1).trans HR2.out)
  have HB3 := Lib.hid (HBA.out.trans (hb3.mono HBA.out.size))
  clear hb3 HM1 HR2 HBA CB
  go_wp2_with fail
  refine (require_yes _).mono ?_
  rintro e w4 ⟨rfl, rfl⟩
  go_wp2_with (first | (refine wpList_load_row rfl 73 _ rfl m1 rfl 73 M (0, 0) _ HM3.out Tryd.underlying73 rfl HI.out ?_) | (refine wpList_store_row rfl 73 _ _ rfl (w.heap.size + 1) M rfl rfl 73 zeros HR3.out HI.out HZ.out HO.out ?_))
  exact bodyPost_ret (results_cell1 (p := 2) (ty := 73) Tryd.results105 _ _ (w.heap.size + 1) 73 M (0, 0) _ rfl (setRow_heap _ _ _ _ _ _ HR3.out) Tryd.underlying73 rfl HI.out) rfl ⟨rfl, setRow_below HB3.out (by omega) _⟩

set_option maxHeartbeats 2000000 in
set_option maxRecDepth 100000 in
theorem reqBlack_no (v : Value) (ss : List ByteArray) (w : World) (hN : ss.length ≤ maxLen) (hz : ∀ s ∈ ss, s.size ≤ maxLen) (hv : Sl w v ss) (he : ErrLen w) (hn : NoRes w) (hno : ¬ (validB ss = true ∧ 0 < (bl ss).length)) :
    Calls Tryd.prog 105 #[.agg #[v]] w (fun e w' => (∃ T x, e = .panicked [{ v := .iface T x, recovered := false }]) ∧ Below w.heap.size w w') := by
  have hb0 := Joins.below_alloc2 w (.cells #[v] 29) (.cells zeros 73)
  have hc0 : ((w.alloc (.cells #[v] 29)).alloc (.cells zeros 73)).cell? ⟨w.heap.size, 0, none⟩ = some v := cell_of_one (t := 29) (by rw [Below.heap_alloc _ _ _ (by simp)]; exact heap_alloc_last w _)
  cases hok : validB ss with
  | false =>
    have C := Lib.hid (reqMat_no v ss ((w.alloc (.cells #[v] 29)).alloc (.cells zeros 73)) hN hz (hv.below hb0) (he.below hb0) (hn.below hb0) hok)
    have HB0 := Lib.hid hb0
    clear hb0 hv he hn hno hok
    go_enter Tryd.func105, Tryd.ntmps105
    go_wp2_with fail
    refine C.out.mono ?_
    rintro e w1 ⟨⟨T, x, rfl⟩, hb⟩
    have HB := Lib.hid (HB0.out.trans (hb.mono (by simp; omega)))
    clear hb
    go_wp2
    exact ⟨rfl, ⟨T, x, rfl⟩, HB.out⟩
  | true =>
    have hbl : (bl ss).length = 0 := by
      rcases Nat.eq_zero_or_pos (bl ss).length with h | h
      · exact h
      · exact absurd ⟨hok, h⟩ hno
    have C := Lib.hid (reqMat_yes v ss ((w.alloc (.cells #[v] 29)).alloc (.cells zeros 73)) hN hz (hv.below hb0) (he.below hb0) hok)
    have CB : Hid (∀ W, Calls Tryd.prog 108 #[.agg (matC ss)] W (fun e w' => ∃ ao cap, e = .returned (.slice ao 0 cap) ∧ Below W.heap.size W w')) := fun W => (blacks_any ss W hok).mono fun e w' ⟨ao, n, cap, he, hO, hb⟩ => by
      obtain ⟨ao', cap', hh⟩ : ∃ ao' cap', Value.slice ao n cap = .slice ao' 0 cap' := by
        rcases (OwnS.sl hO) with ⟨ao, cap, h1, h2⟩ | ⟨b, cap, h1, h2, h3⟩
        · exact ⟨_, _, h1⟩
        · have h2' : 0 < (bl ss).length := h2
          omega
      exact ⟨ao', cap', by rw [he, hh], hb⟩
    have HN : Hid (∀ W, Below w.heap.size w W → NoRes W) := fun W hb => hn.below hb
    have hsz := matC_size ss
    have hone := matC_one ss
    obtain ⟨M, hM⟩ : ∃ M, matC ss = M := ⟨_, rfl⟩
    rw [hM] at C CB hsz hone
    have HI : Hid ((Tryd.prog.info? 73).map (·.size) = some M.size) := by show _ = _; rw [hsz]; exact infoM
    have HZ := Lib.hid (zeros_size.trans hsz.symm)
    have HO := Lib.hid hone
    have HB0 := Lib.hid hb0
    clear hM hsz hone hb0 hv he hn hno hok hbl
    go_enter Tryd.func105, Tryd.ntmps105
    go_wp2_with fail
    refine C.out.mono ?_
    rintro e w1 ⟨rfl, hb⟩
    have hB1 := HB0.out.trans (hb.mono (by simp; omega))
    have hs1 := hB1.size
    have HM1 : Hid ((w1.alloc (.cells M 73)).heap[w1.heap.size]? = some (.cells M 73 (0, 0))) := heap_alloc_last w1 _
    have HBA : Hid (Below w.heap.size w (w1.alloc (.cells M 73))) := hB1.alloc hs1 _
    clear hb hB1 hc0
    go_wp2_with (refine wpList_store_new w1 rfl 73 _ _ rfl M rfl rfl 73 zeros HI.out HZ.out HO.out ?_; refine Hid.out ?_)
    obtain ⟨W2, hW2⟩ : ∃ W2, w1.alloc (.cells M 73) = W2 := ⟨_, rfl⟩
    obtain ⟨m1, hm1⟩ : ∃ m1, w1.heap.size = m1 := ⟨_, rfl⟩
    rw [hW2] at HM1 HBA ⊢
    rw [hm1] at HM1 ⊢
    clear hW2 hm1 hs1
    refine Lib.hid ?_
    go_wp2_with (first | (refine wpList_load_row rfl 73 _ rfl m1 rfl 73 M (0, 0) _ HM1.out Tryd.underlying73 rfl HI.out ?_))
    refine (CB.out _).mono ?_
    rintro e w3 ⟨ao, cap, rfl, hb3⟩
    have HB3 := Lib.hid (HBA.out.trans (hb3.mono HBA.out.size))
    clear hb3 HM1 HBA CB
    go_wp2_with fail
    refine (require_no _ (HN.out _ HB3.out)).mono ?_
    rintro e w4 ⟨T, x, rfl, rfl⟩
    go_wp2
    exact ⟨rfl, ⟨T, x, rfl⟩, HB3.out⟩
end Go.Proofs.YtakaglbbcaplhaaDoor
