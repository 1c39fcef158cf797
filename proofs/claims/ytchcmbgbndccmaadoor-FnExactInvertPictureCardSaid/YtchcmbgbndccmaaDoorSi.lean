/- Contracts of single functions, and plain lemmas, on which the exact laws of this seat rest; each holds under the conditions that it states. -/
import Derived.Test.YtchcmbgbndccmaaDoorSt
namespace Go.Proofs.YtchcmbgbndccmaaDoor
set_option linter.unusedVariables false
open Go.RowKit

theorem in_range {a b x y : Nat} (hx : x < a) (hy : y < b) : insB a b x y = true := by
  unfold insB inB
  simp only [Bool.and_eq_true, decide_eq_true_eq]
  omega

theorem words_at {ss : List ByteArray} (V : VP ss) (y x : Nat) (hy : y < ss.length) (hx : x < (row0 ss).size) : (wordsOf ss y).testBit x = pixF ss y x := by
  have h0 := words_bit V (x : Int) (y : Int)
  have hh : hasB (row0 ss).size ss.length x y = true := by rw [hasB_insB]; exact in_range hx hy
  unfold blackB pixI at h0
  rw [hh, in_range hx hy] at h0
  simpa [pixF] using h0

theorem set_bits {ss : List ByteArray} (V : VP ss) (q p : Nat) (bk : Bool) (hp : p < 16) (y x : Nat) (hy : y < ss.length) (hx : x < (row0 ss).size) :
    blackB (row0 ss).size ss.length (updG (wordsOf ss) q p bk) x y = setF ss q p bk y x := by
  have hh : hasB (row0 ss).size ss.length x y = true := by rw [hasB_insB]; exact in_range hx hy
  have hw := V.w16
  unfold blackB setF updG
  rw [hh, Bool.true_and, Int.toNat_natCast, Int.toNat_natCast]
  by_cases h : y = q
  · subst h
    rw [if_pos rfl, upd_bit _ p x bk hp (by omega), words_at V y x hy hx]
    by_cases h2 : x = p <;> simp [h2]
  · rw [if_neg h, if_neg (fun e => h e.1), words_at V y x hy hx]

theorem upd_all {g : Nat → Nat} (hg : ∀ j, g j < 4294967296) (q p : Nat) (bk : Bool) (hp : p < 16) (j : Nat) : updG g q p bk j < 4294967296 := by
  unfold updG
  split
  · exact upd_lt _ p bk (hg q) hp
  · exact hg j


set_option maxHeartbeats 2000000 in
set_option maxRecDepth 100000 in
theorem impl_Set_yes (v : Value) (ss : List ByteArray) (p q : Nat) (bk : Bool) (w : World) (hN : ss.length ≤ maxLen) (hz : ∀ s ∈ ss, s.size ≤ maxLen) (hv : Sl w v ss) (he : ErrLen w) (hok : validB ss = true) (hp : p < (row0 ss).size) (hq : q < ss.length) :
    Calls Tryd.prog 27 #[.agg #[v], .int .i64 p, .int .i64 q, .bool bk] w (SaysPic (mkPic (row0 ss).size ss.length (setF ss q p bk)) true w) := by
  have V := vp_of hok
  have hw16 := V.w16
  have hn16 := V.n16
  have hb0 : Below w.heap.size w ((w.alloc (.cells #[v] 27)).alloc (.cells #[.slice none 0 0] 27)) := Joins.below_alloc2 w _ _
  have hl1 : ((w.alloc (.cells #[v] 27)).alloc (.cells #[.slice none 0 0] 27)).heap[w.heap.size]? = some (.cells #[v] 27 (0, 0)) := by
    rw [Below.heap_alloc _ _ _ (by simp)]; exact heap_alloc_last w _
  have hl2 : ((w.alloc (.cells #[v] 27)).alloc (.cells #[.slice none 0 0] 27)).heap[w.heap.size + 1]? = some (.cells #[.slice none 0 0] 27 (0, 0)) := by
    have := heap_alloc_last (w.alloc (.cells #[v] 27)) (.cells #[.slice none 0 0] 27)
    simp only [World.size_alloc] at this
    exact this
  have L2 := Lib.hid hl2
  have hcv : ((w.alloc (.cells #[v] 27)).alloc (.cells #[.slice none 0 0] 27)).cell? ⟨w.heap.size, 0, none⟩ = some v := cell_of_one hl1
  have C := Lib.hid (matrixOf_any v ss _ hN hz (hv.below hb0) (he.below hb0))
  have hsz := matC_size ss
  have hone := matC_one ss
  have hMM := matC_yes hok
  unfold MatOf at C
  obtain ⟨M, hM⟩ : ∃ M, matC ss = M := ⟨_, rfl⟩
  rw [hM] at C hsz hone hMM
  have HI : Hid ((Tryd.prog.info? 71).map (·.size) = some M.size) := by show _ = _; rw [hsz]; exact infoM
  have HZ := Lib.hid (zeros_size.trans hsz.symm)
  have HO := Lib.hid hone
  have HH : Hid (∀ W, Calls Tryd.prog 63 #[.agg M, .int .i64 p, .int .i64 q] W (SaysB true W)) := fun W => by
    have := has_any M (row0 ss).size ss.length (fun j => (wordsOf ss j : Int)) p q W ⟨hMM⟩
    rwa [hasB_insB, in_range hp hq] at this
  have HS : Hid (∀ (mb : Nat) W, W.heap[mb]? = some (.cells M 71 (0, 0)) → Calls Tryd.prog 68 #[.pointer (some ⟨mb, 0, none⟩), .int .i64 p, .int .i64 q, .bool bk] W (Setted W mb (row0 ss).size ss.length (wordsOf ss) q p bk)) := fun mb W hm =>
    set_any mb _ _ (wordsOf ss) p q bk W (by rw [hm, hMM]) (by omega) (by omega) (words_lt V q)
  have HPi : Hid (∀ W, Calls Tryd.prog 58 #[.agg (mat (row0 ss).size ss.length (updG (wordsOf ss) q p bk))] W (TookPic W (mkPic (row0 ss).size ss.length (setF ss q p bk)))) := fun W => by
    have := picture_any (mat (row0 ss).size ss.length (updG (wordsOf ss) q p bk)) _ _ _ W rfl hw16 hn16 (fun j => upd_all (fun j => words_lt V j) q p bk (by omega) j)
    rwa [mkPic_congr fun y hy x hx => set_bits V q p bk (by omega) y x hy hx] at this
  unfold Setted at HS
  have hsz2 : (mat (row0 ss).size ss.length (updG (wordsOf ss) q p bk)).size = 18 := rfl
  obtain ⟨M2, hM2⟩ : ∃ M2, mat (row0 ss).size ss.length (updG (wordsOf ss) q p bk) = M2 := ⟨_, rfl⟩
  rw [hM2] at HS HPi hsz2
  have HI2 : Hid ((Tryd.prog.info? 71).map (·.size) = some M2.size) := by show _ = _; rw [hsz2]; exact infoM
  obtain ⟨pic, hpic⟩ : ∃ x, mkPic (row0 ss).size ss.length (setF ss q p bk) = x := ⟨_, rfl⟩
  rw [hpic] at HPi ⊢
  have HOk := Lib.hid hok
  clear hb0 hl1 hl2 hok hM hsz hone hMM V hv he hM2 hsz2 hpic hp hq hw16 hn16
  go_enter Tryd.func27, Tryd.ntmps27
  go_wp2_with fail
  refine C.out.mono ?_
  rintro e w1 ⟨rfl, hb⟩
  rw [HOk.out]
  have B1 : Hid (Below w.heap.size w w1) := (Joins.below_alloc2 w _ _).trans (hb.mono (by simp; omega))
  have P1 := Lib.hid ((hb.block (w.heap.size + 1) (by simp)).trans L2.out)
  have hs1 := B1.out.size
  have hl1 : w.heap.size + 1 < w1.heap.size := (Array.getElem?_eq_some_iff.1 P1.out).1
  clear hb hcv
  go_wp2_with (first | (refine wpList_store_new w1 rfl 71 _ _ rfl M rfl rfl 71 zeros HI.out HZ.out HO.out ?_) | (refine wpList_load_row_g rfl 71 _ rfl w1.heap.size rfl 71 M (0, 0) _ (heap_alloc_last w1 _) Tryd.underlying71 rfl HI.out ?_))
  refine (HH.out _).mono ?_
  rintro e w2 ⟨rfl, hb2⟩
  have M1 := Lib.hid ((hb2.block w1.heap.size (by simp)).trans (heap_alloc_last w1 (.cells M 71)))
  have B2 : Hid (Below w.heap.size w w2) := (B1.out.alloc hs1 (.cells M 71)).trans (hb2.mono (by simp; omega))
  have P2 := Lib.hid ((hb2.block (w.heap.size + 1) (by simp; omega)).trans ((Below.heap_alloc w1 (.cells M 71) _ hl1).trans P1.out))
  clear hb2
  go_wp2_with fail
  refine (HS.out _ _ M1.out).mono ?_
  rintro e w3 ⟨rfl, hm3, hb3⟩
  have M3 := Lib.hid hm3
  have B3 : Hid (Below w.heap.size w w3) := B2.out.trans (hb3.mono hs1)
  have P3 := Lib.hid ((hb3.block (w.heap.size + 1) hl1).trans P2.out)
  clear hm3 hb3
  go_wp2_with (refine wpList_load_row rfl 71 _ rfl w1.heap.size rfl 71 M2 (0, 0) _ M3.out Tryd.underlying71 rfl HI2.out ?_)
  refine (HPi.out _).mono ?_
  rintro e w4 ⟨g4, cap4, rfl, hown4, hb4⟩
  have hp2 := (hb4.block (w.heap.size + 1) (Array.getElem?_eq_some_iff.1 P3.out).1).trans P3.out
  have hfr : w4.frozen? ⟨w.heap.size + 1, 0, none⟩ = false := free_of_one hp2
  have hc2 : w4.cell? ⟨w.heap.size + 1, 0, none⟩ = some (.slice none 0 0) := cell_of_one hp2
  have O2 := Lib.hid (own_set (u := .slice (some ⟨g4, 0, none⟩) pic.length cap4) hown4 hp2 (by decide))
  have P4 := Lib.hid hp2
  have B4 := Lib.hid (B3.out.trans (hb4.mono B3.out.size))
  have hs3 := B3.out.size
  clear hown4 hp2 hb4
  go_wp2_with fail
  refine bodyPost_ret (v := .tuple #[.agg #[.slice (some ⟨g4, 0, none⟩) pic.length cap4], .bool true]) (by simp [results, Tryd.results27, go_sem, cell_of_one (one_setCell P4.out)]) rfl ⟨_, _, _, rfl, Joins.ownsRow_le O2.out hs3, B4.out.setCell (by simp) _⟩
end Go.Proofs.YtchcmbgbndccmaaDoor
