/- Contracts of single functions, and plain lemmas, on which the exact laws of this seat rest; each holds under the conditions that it states. -/
import Derived.Test.YtenbhnfajjknkaaDoorB4
import Derived.Test.YtenbhnfajjknkaaDoorL12
namespace Go.Proofs.YtenbhnfajjknkaaDoor
set_option linter.unusedVariables false
set_option linter.unusedSimpArgs false
open Go.RowKit

theorem fit_any (ss : List ByteArray) (xs : List (Int × Int)) (X Y : Int) : (!anyF (fun i => !fitP ss xs X Y i) xs.length) = fitB ss xs X Y := by
  unfold anyF fitB
  rw [List.all_eq_not_any_not]

end Go.Proofs.YtenbhnfajjknkaaDoor

/- Contracts of single functions, and plain lemmas, on which the exact laws of this seat rest; each holds under the conditions that it states. -/
namespace Go.Proofs.YtenbhnfajjknkaaDoor
set_option linter.unusedVariables false
set_option linter.unusedSimpArgs false
open Go.RowKit

theorem built_pl0 : Tryd.prog.built 68 [] = some zerosP := by kernel_rfl
/-- the plane of a picture, if element and picture are ones -/
def plOk (ss : List ByteArray) (xs : List (Int × Int)) : Array Value := if pxOk ss xs then pl (row0 ss).size ss.length (plOf (wordsOf ss) ss.length) else zerosP
theorem plOk_yes {ss : List ByteArray} {xs : List (Int × Int)} (h : pxOk ss xs = true) : plOk ss xs = pl (row0 ss).size ss.length (plOf (wordsOf ss) ss.length) := by unfold plOk; rw [if_pos h]
theorem plOk_no {ss : List ByteArray} {xs : List (Int × Int)} (h : pxOk ss xs = false) : plOk ss xs = zerosP := by unfold plOk; rw [h]; rfl

set_option maxHeartbeats 4000000 in
set_option maxRecDepth 100000 in
theorem planeWith_any (B : Nat) (u v : Value) (ss : List ByteArray) (xs : List (Int × Int)) (w : World) (hN : ss.length ≤ maxLen) (hz : ∀ s ∈ ss, s.size ≤ maxLen) (hu : Sl w u ss) (hM : xs.length ≤ 1048576) (hwf : ∀ p ∈ xs, (Lit.int .i64 p.1).wf = true ∧ (Lit.int .i64 p.2).wf = true) (hv : SlS w v xs) (he : ErrLen w) (hB : w.heap[B]? = some (.cells #[v] 36 (0, 0))) :
    Calls Tryd.prog 61 #[.agg #[u], .slice (some ⟨B, 0, none⟩) 1 1] w fun e w' => e = .returned (.tuple #[.agg (plOk ss xs), .bool (pxOk ss xs)]) ∧ Below w.heap.size w w' := by
  obtain ⟨W0, hW0⟩ : ∃ W0, ((w.alloc (.cells #[u] 30)).alloc (.cells #[.int .i64 0, .int .i64 0, .int .u32 0, .int .u32 0, .int .u32 0, .int .u32 0, .int .u32 0, .int .u32 0, .int .u32 0, .int .u32 0, .int .u32 0, .int .u32 0, .int .u32 0, .int .u32 0, .int .u32 0, .int .u32 0, .int .u32 0, .int .u32 0, .int .u32 0, .int .u32 0, .int .u32 0, .int .u32 0, .int .u32 0, .int .u32 0, .int .u32 0, .int .u32 0] 68)) = W0 := ⟨_, rfl⟩
  have hzP : zerosP = #[.int .i64 0, .int .i64 0, .int .u32 0, .int .u32 0, .int .u32 0, .int .u32 0, .int .u32 0, .int .u32 0, .int .u32 0, .int .u32 0, .int .u32 0, .int .u32 0, .int .u32 0, .int .u32 0, .int .u32 0, .int .u32 0, .int .u32 0, .int .u32 0, .int .u32 0, .int .u32 0, .int .u32 0, .int .u32 0, .int .u32 0, .int .u32 0, .int .u32 0, .int .u32 0] := rfl
  have hw0 : W0.heap.size = w.heap.size + 1 + 1 := by rw [← hW0]; simp
  have hb0 : Below w.heap.size w W0 := by rw [← hW0]; exact Joins.below_alloc2 _ _ _
  have hp0 : W0.heap[w.heap.size]? = some (.cells #[u] 30 (0, 0)) := by
    rw [← hW0, Below.heap_alloc _ _ _ (by simp)]; exact heap_alloc_last w _
  have hr0 : W0.heap[w.heap.size + 1]? = some (.cells zerosP 68 (0, 0)) := by
    rw [← hW0, hzP]
    exact heap_alloc2_new _ _ _
  have C := Lib.hid (matrixOf_any u ss W0 hN hz (hu.below hb0) (he.below hb0))
  have hsz := matC_size ss
  have hone := matC_one ss
  unfold MatOf at C
  have hlB := (Array.getElem?_eq_some_iff.1 hB).1
  have HBe : Hid (∀ W, Below W0.heap.size W0 W → W.heap[B]? = some (.cells #[v] 36 (0, 0))) := fun W hb => (hb.block _ (Nat.lt_of_lt_of_le hlB hb0.size)).trans ((hb0.block _ hlB).trans hB)
  have HR : Hid (∀ W, Below W0.heap.size W0 W → W.heap[w.heap.size + 1]? = some (.cells zerosP 68 (0, 0))) := fun W hb => (hb.block _ (by omega)).trans hr0
  have CV : Hid (∀ W, Below W0.heap.size W0 W → Calls Tryd.prog 89 #[.agg #[v]] W (SaysB (elB xs) W)) := fun W hb => impl_ValidElement v xs W hM hwf ((hv.below hb0).below hb)
  have CP : Hid (validB ss = true → elB xs = true → ∀ W, Calls Tryd.prog 75 #[.agg (matC ss)] W fun e w' => e = .returned (.agg (plOk ss xs)) ∧ Below W.heap.size W w') := fun h1 h2 W => by
    have V := vp_of h1
    rw [matC_yes h1, plOk_yes (by unfold pxOk; rw [h1, h2]; rfl)]
    exact planeOf_any _ _ _ W V.w16 V.n16 (words_small V)
  have HNo : Hid (pxOk ss xs = false → plOk ss xs = zerosP) := plOk_no
  have HOk : Hid (pxOk ss xs = (validB ss && elB xs)) := rfl
  have HQ : Hid ((plOk ss xs).size = 26 ∧ (plOk ss xs).all (·.oneCell') = true) := by
    show _ ∧ _
    unfold plOk; split
    · exact ⟨pl_size _ _ _, pl_one _ _ _⟩
    · exact ⟨rfl, pcells_one _ _ _⟩
  obtain ⟨Q, hQ⟩ : ∃ Q, plOk ss xs = Q := ⟨_, rfl⟩
  rw [hQ] at CP HNo HQ ⊢
  obtain ⟨ok, hok⟩ : ∃ r, pxOk ss xs = r := ⟨_, rfl⟩
  rw [hok] at HNo HOk ⊢
  have HI4 : Hid ((Tryd.prog.info? 68).map (·.size) = some Q.size) := by show _ = _; rw [HQ.out.1]; exact infoPl
  have HI5 : Hid (zerosP.size = Q.size) := by show _ = _; rw [HQ.out.1]; rfl
  have HI6 : Hid (Q.all (·.oneCell') = true) := HQ.out.2
  have HI7 : Hid ((Tryd.prog.info? 68).map (·.size) = some zerosP.size) := infoPl
  have HI8 : Hid (zerosP.all (·.oneCell') = true) := pcells_one _ _ _
  obtain ⟨M, hMe⟩ : ∃ M, matC ss = M := ⟨_, rfl⟩
  rw [hMe] at C hsz hone CP
  have HI : Hid ((Tryd.prog.info? 99).map (·.size) = some M.size) := by show _ = _; rw [hsz]; exact infoM
  have HZ := Lib.hid (zeros_size.trans hsz.symm)
  have HO := Lib.hid hone
  have HW0 := Lib.hid hW0
  have HB0 := Lib.hid hb0
  have HS0 := Lib.hid hw0
  have c0 : W0.cell? ⟨w.heap.size, 0, none⟩ = some u := cell_of_one hp0
  have HBl : Hid (Tryd.prog.built 68 [] = some zerosP) := built_pl0
  obtain ⟨ao, cap, rfl, _⟩ := sl_form hv
  have hvi : ((Value.slice ao xs.length cap).oneCell') = true := rfl
  clear hW0 hzP hb0 hp0 hr0 hu hv hwf he hMe hsz hone hN hz hM hB hlB hQ hok HQ hw0
  go_enter Tryd.func61, Tryd.ntmps61
  go_upto_region 1 with fail
  rw [HW0.out]
  go_wp2_with fail
  refine C.out.mono ?_
  rintro e w1 ⟨rfl, hb1⟩
  have hs1 := hb1.size
  have M2 := Lib.hid (heap_alloc_last w1 (.cells M 99))
  have B2 := Lib.hid (hb1.alloc hs1 (.cells M 99))
  have hl2 : w1.heap.size < (w1.alloc (.cells M 99)).heap.size := by simp
  clear hb1
  obtain ⟨W4, hW4⟩ : ∃ W4, w1.alloc (.cells M 99) = W4 := ⟨_, rfl⟩
  rw [hW4] at M2 B2 hl2
  have HW4 := Lib.hid hW4
  have HBe4 := HBe.out W4 B2.out
  have hcB : W4.cell? ⟨B, 0, none⟩ = some (.slice ao xs.length cap) := cell_of_one HBe4
  clear hW4
  go_upto_region 3 with (refine wpList_store_new w1 rfl 99 _ _ rfl M rfl rfl 99 zeros HI.out HZ.out HO.out ?_; rw [HW4.out])
  have B5 := Lib.hid (B2.out.alloc B2.out.size (.cells #[.slice ao xs.length cap] 36))
  have M5 := Lib.hid (((Below.refl _ _).alloc (Nat.le_refl _) (.cells #[.slice ao xs.length cap] 36)).block _ hl2 |>.trans M2.out)
  have RES : ∀ W, Below W0.heap.size W0 W → w.heap.size + 1 < W.heap.size := fun W hb => by have := hb.size; have := HS0.out; omega
  cases h1 : validB ss with
  | false =>
    rw [h1] at HOk
    have HF : Hid (ok = false) := HOk.out
    have HRr := Lib.hid (HR.out _ B5.out)
    have HBb := Lib.hid (HB0.out.trans (B5.out.mono HB0.out.size))
    have HEq := Lib.hid (HNo.out HF.out)
    clear CP CV HNo HOk HBe HR
    refine wp_loop_rounds 2 ?_; rw [rounds_succ]
    go_wp2_with fail
    rw [rounds_succ]
    go_wp2_with (first | (refine wpList_build_as rfl 68 _ rfl [] zerosP rfl HBl.out ?_) | (refine wpList_store_row rfl 68 _ _ rfl (w.heap.size + 1) zerosP rfl rfl 68 zerosP HRr.out HI7.out rfl HI8.out ?_))
    exact bodyPost_ret (results_cell_tmp Tryd.results61 _ _ (w.heap.size + 1) 68 zerosP (0, 0) _ rfl (setRow_heap _ _ _ _ _ _ HRr.out) Tryd.underlying68 rfl HI7.out) rfl ⟨by rw [HEq.out, HF.out]; rfl, setRow_below HBb.out (by omega) _⟩
  | true =>
    rw [h1] at HOk CP
    refine wp_loop_rounds 2 ?_; rw [rounds_succ]
    go_wp2_with fail
    refine (CV.out _ B5.out).mono ?_
    rintro e w6 ⟨rfl, hb6⟩
    have B6 := Lib.hid (B5.out.trans (hb6.mono B5.out.size))
    have M6 := Lib.hid ((hb6.block _ (Array.getElem?_eq_some_iff.1 M5.out).1).trans M5.out)
    clear hb6
    cases h2 : elB xs with
    | false =>
      rw [h2] at HOk
      have HF : Hid (ok = false) := HOk.out
      have HRr := Lib.hid (HR.out _ B6.out)
      have HBb := Lib.hid (HB0.out.trans (B6.out.mono HB0.out.size))
      have HEq := Lib.hid (HNo.out HF.out)
      clear CP CV HNo HOk HBe HR
      go_wp2_with fail
      rw [rounds_succ]
      go_wp2_with (first | (refine wpList_build_as rfl 68 _ rfl [] zerosP rfl HBl.out ?_) | (refine wpList_store_row rfl 68 _ _ rfl (w.heap.size + 1) zerosP rfl rfl 68 zerosP HRr.out HI7.out rfl HI8.out ?_))
      exact bodyPost_ret (results_cell_tmp Tryd.results61 _ _ (w.heap.size + 1) 68 zerosP (0, 0) _ rfl (setRow_heap _ _ _ _ _ _ HRr.out) Tryd.underlying68 rfl HI7.out) rfl ⟨by rw [HEq.out, HF.out]; rfl, setRow_below HBb.out (by omega) _⟩
    | true =>
      rw [h2] at HOk
      have HT : Hid (ok = true) := HOk.out
      have CPl := Lib.hid (CP.out trivial h2)
      clear CP CV HNo HOk HBe
      go_wp2_with fail
      rw [rounds_succ]
      go_wp2_with (refine wpList_load_row rfl 99 _ rfl w1.heap.size rfl 99 M (0, 0) _ M6.out Tryd.underlying99 rfl HI.out ?_)
      refine (CPl.out _).mono ?_
      rintro e w7 ⟨rfl, hb7⟩
      have B7 := B6.out.trans (hb7.mono B6.out.size)
      have HRr := Lib.hid (HR.out _ B7)
      have HBb := Lib.hid (HB0.out.trans (B7.mono HB0.out.size))
      clear B7 hb7
      go_wp2_with (refine wpList_store_row rfl 68 _ _ rfl (w.heap.size + 1) Q rfl rfl 68 zerosP HRr.out HI4.out HI5.out HI6.out ?_)
      exact bodyPost_ret (results_cell_tmp Tryd.results61 _ _ (w.heap.size + 1) 68 Q (0, 0) _ rfl (setRow_heap _ _ _ _ _ _ HRr.out) Tryd.underlying68 rfl HI4.out) rfl ⟨by rw [HT.out]; rfl, setRow_below HBb.out (by omega) _⟩
end Go.Proofs.YtenbhnfajjknkaaDoor
