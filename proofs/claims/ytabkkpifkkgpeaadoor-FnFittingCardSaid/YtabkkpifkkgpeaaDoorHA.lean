/- Contracts of single functions, and plain lemmas, on which the exact laws of this seat rest; each holds under the conditions that it states. -/
import Derived.Test.YtabkkpifkkgpeaaDoorL14
namespace Go.Proofs.YtabkkpifkkgpeaaDoor
set_option linter.unusedVariables false
set_option linter.unusedSimpArgs false
open Go.RowKit
attribute [local go_sem] Oper.semAt_some

set_option maxHeartbeats 4000000 in
set_option maxRecDepth 100000 in
theorem grown_any81 (a b : Nat) (g : Nat → Nat) (v : Value) (xs : List (Int × Int)) (w : World) (hg : PlW g) (hv : SlS w v xs) (hcap : ∀ ao n c, v = .slice ao n c → n ≤ c) (h1 : 0 < xs.length) (h2 : xs.length ≤ 81) (h3 : ∀ o ∈ xs, (-4 ≤ o.1 ∧ o.1 ≤ 4) ∧ (-4 ≤ o.2 ∧ o.2 ≤ 4)) :
    Calls Tryd.prog 81 #[.agg (pl a b g), .agg #[v]] w fun e w' => e = .returned (.agg (pl a b (grG g xs))) ∧ Below w.heap.size w w' := by
  obtain ⟨NX, hNX⟩ : ∃ P, pl a b (grG g xs) = P := ⟨_, rfl⟩
  have HI4 : Hid ((Tryd.prog.info? 113).map (·.size) = some NX.size) := by show _ = _; rw [← hNX]; exact infoPl
  have HI5 : Hid (zerosP.size = NX.size) := by show _ = _; rw [← hNX]; rfl
  have HI6 : Hid (NX.all (·.oneCell') = true) := by show _ = _; rw [← hNX]; exact pl_one _ _ _
  obtain ⟨M, hM⟩ : ∃ M, pl a b g = M := ⟨_, rfl⟩
  have HI : Hid ((Tryd.prog.info? 113).map (·.size) = some M.size) := by show _ = _; rw [← hM]; exact infoPl
  rw [hM, hNX]
  have CAl : Hid (∀ W, SlS W v xs → Calls Tryd.prog 135 #[.agg M, .agg #[v], .func (.func 85) #[.int .i64 1] #[]] W fun e w' => e = .returned (.agg NX) ∧ Below W.heap.size W w') := fun W h => by
    rw [← hM, ← hNX]
    exact movedAll_any 1 a b g v xs W (by omega) hg h hcap h1 h2 h3
  obtain ⟨W0, hW0⟩ : ∃ W0, ((w.alloc (.cells M 113)).alloc (.cells #[v] 46)).alloc (.cells #[.int .i64 0, .int .i64 0, .int .u32 0, .int .u32 0, .int .u32 0, .int .u32 0, .int .u32 0, .int .u32 0, .int .u32 0, .int .u32 0, .int .u32 0, .int .u32 0, .int .u32 0, .int .u32 0, .int .u32 0, .int .u32 0, .int .u32 0, .int .u32 0, .int .u32 0, .int .u32 0, .int .u32 0, .int .u32 0, .int .u32 0, .int .u32 0, .int .u32 0, .int .u32 0] 113) = W0 := ⟨_, rfl⟩
  have hz : zerosP = #[.int .i64 0, .int .i64 0, .int .u32 0, .int .u32 0, .int .u32 0, .int .u32 0, .int .u32 0, .int .u32 0, .int .u32 0, .int .u32 0, .int .u32 0, .int .u32 0, .int .u32 0, .int .u32 0, .int .u32 0, .int .u32 0, .int .u32 0, .int .u32 0, .int .u32 0, .int .u32 0, .int .u32 0, .int .u32 0, .int .u32 0, .int .u32 0, .int .u32 0, .int .u32 0] := rfl
  have hw0 : W0.heap.size = w.heap.size + 1 + 1 + 1 := by rw [← hW0]; simp
  have hb0 : Below w.heap.size w W0 := by rw [← hW0]; exact Joins.below_alloc3 _ _ _ _
  have hq0 : W0.heap[w.heap.size]? = some (.cells M 113 (0, 0)) := by
    rw [← hW0, Below.heap_alloc _ _ _ (by simp; omega), Below.heap_alloc _ _ _ (by simp)]; exact heap_alloc_last w _
  have he0 : W0.heap[w.heap.size + 1]? = some (.cells #[v] 46 (0, 0)) := by
    rw [← hW0, Below.heap_alloc _ _ _ (by simp)]
    exact heap_alloc2_new _ _ _
  have hr0 : W0.heap[w.heap.size + 1 + 1]? = some (.cells zerosP 113 (0, 0)) := by
    rw [← hW0, hz]
    have := heap_alloc_last ((w.alloc (.cells M 113)).alloc (.cells #[v] 46)) (.cells #[.int .i64 0, .int .i64 0, .int .u32 0, .int .u32 0, .int .u32 0, .int .u32 0, .int .u32 0, .int .u32 0, .int .u32 0, .int .u32 0, .int .u32 0, .int .u32 0, .int .u32 0, .int .u32 0, .int .u32 0, .int .u32 0, .int .u32 0, .int .u32 0, .int .u32 0, .int .u32 0, .int .u32 0, .int .u32 0, .int .u32 0, .int .u32 0, .int .u32 0, .int .u32 0] 113)
    simpa only [World.size_alloc] using this
  have HW0 := Lib.hid hW0
  have HB0 := Lib.hid hb0
  have HS0 : Hid (∀ W, Below W0.heap.size W0 W → W.heap[w.heap.size]? = some (.cells M 113 (0, 0))) := fun W hb => (hb.block _ (Array.getElem?_eq_some_iff.1 hq0).1).trans hq0
  have HE0 : Hid (∀ W, Below W0.heap.size W0 W → W.cell? ⟨w.heap.size + 1, 0, none⟩ = some v) := fun W hb => cell_kept hb (cell_of_one he0)
  have HR0 : Hid (∀ W, Below W0.heap.size W0 W → W.heap[w.heap.size + 1 + 1]? = some (.cells zerosP 113 (0, 0))) := fun W hb => (hb.block _ (Array.getElem?_eq_some_iff.1 hr0).1).trans hr0
  have HV0 : Hid (∀ W, Below W0.heap.size W0 W → SlS W v xs) := fun W hb => (hv.below hb0).below hb
  have qM := HS0.out W0 (Below.refl _ _)
  have qe := HE0.out W0 (Below.refl _ _)
  have qR := HR0.out W0 (Below.refl _ _)
  have HMx := Lib.hid qM
  have hmf : ∀ (fn : Fn) (first cap : Array Value) (w : World), (Instr.makeFunc fn first cap).run Tryd.prog w = .ok (.func fn first cap) w := fun _ _ _ _ => rfl
  clear hM hNX hW0 hz hw0 hb0 hq0 he0 hr0 hv hg h1 h2 h3 hcap qM qR
  go_enter Tryd.func81, Tryd.ntmps81
  go_upto_region 1 with fail
  rw [HW0.out]
  go_wp2_with (refine wpList_load_row rfl 113 _ rfl w.heap.size rfl 113 M (0, 0) _ HMx.out Tryd.underlying113 rfl HI.out ?_)
  refine (CAl.out _ (HV0.out _ (Below.refl _ _))).mono ?_
  rintro e w2 ⟨rfl, hb2⟩
  have HRp := Lib.hid (HR0.out w2 hb2)
  have HBp := Lib.hid (HB0.out.trans (hb2.mono HB0.out.size))
  clear hb2
  go_wp2_with (refine wpList_store_row rfl 113 _ _ rfl (w.heap.size + 1 + 1) NX rfl rfl 113 zerosP HRp.out HI4.out HI5.out HI6.out ?_)
  exact bodyPost_ret (results_cell1 (p := 4) (ty := 113) Tryd.results81 _ _ (w.heap.size + 1 + 1) 113 NX (0, 0) _ rfl (setRow_heap _ _ _ _ _ _ HRp.out) Tryd.underlying113 rfl HI4.out) rfl ⟨rfl, setRow_below HBp.out (by omega) _⟩


/-- .. of a picture and two elements -/
def pxOk2 (ss : List ByteArray) (xs ys : List (Int × Int)) : Bool := validB ss && elB xs && elB ys
def plOk2 (ss : List ByteArray) (xs ys : List (Int × Int)) : Array Value := if pxOk2 ss xs ys then pl (row0 ss).size ss.length (plOf (wordsOf ss) ss.length) else zerosP
theorem plOk2_yes {ss : List ByteArray} {xs ys : List (Int × Int)} (h : pxOk2 ss xs ys = true) : plOk2 ss xs ys = pl (row0 ss).size ss.length (plOf (wordsOf ss) ss.length) := by unfold plOk2; rw [if_pos h]
theorem plOk2_no {ss : List ByteArray} {xs ys : List (Int × Int)} (h : pxOk2 ss xs ys = false) : plOk2 ss xs ys = zerosP := by unfold plOk2; rw [h]; rfl
/-- .. of a picture alone -/
def plOk0 (ss : List ByteArray) : Array Value := if validB ss then pl (row0 ss).size ss.length (plOf (wordsOf ss) ss.length) else zerosP
theorem plOk0_yes {ss : List ByteArray} (h : validB ss = true) : plOk0 ss = pl (row0 ss).size ss.length (plOf (wordsOf ss) ss.length) := by unfold plOk0; rw [if_pos h]
theorem plOk0_no {ss : List ByteArray} (h : validB ss = false) : plOk0 ss = zerosP := by unfold plOk0; rw [h]; rfl

set_option maxHeartbeats 4000000 in
set_option maxRecDepth 100000 in
theorem planeWith_any0 (u : Value) (ss : List ByteArray) (w : World) (hN : ss.length ≤ maxLen) (hz : ∀ s ∈ ss, s.size ≤ maxLen) (hu : Sl w u ss) (he : ErrLen w) :
    Calls Tryd.prog 82 #[.agg #[u], .slice none 0 0] w fun e w' => e = .returned (.tuple #[.agg (plOk0 ss), .bool (validB ss)]) ∧ Below w.heap.size w w' := by
  obtain ⟨W0, hW0⟩ : ∃ W0, ((w.alloc (.cells #[u] 42)).alloc (.cells #[.int .i64 0, .int .i64 0, .int .u32 0, .int .u32 0, .int .u32 0, .int .u32 0, .int .u32 0, .int .u32 0, .int .u32 0, .int .u32 0, .int .u32 0, .int .u32 0, .int .u32 0, .int .u32 0, .int .u32 0, .int .u32 0, .int .u32 0, .int .u32 0, .int .u32 0, .int .u32 0, .int .u32 0, .int .u32 0, .int .u32 0, .int .u32 0, .int .u32 0, .int .u32 0] 113)) = W0 := ⟨_, rfl⟩
  have hzP : zerosP = #[.int .i64 0, .int .i64 0, .int .u32 0, .int .u32 0, .int .u32 0, .int .u32 0, .int .u32 0, .int .u32 0, .int .u32 0, .int .u32 0, .int .u32 0, .int .u32 0, .int .u32 0, .int .u32 0, .int .u32 0, .int .u32 0, .int .u32 0, .int .u32 0, .int .u32 0, .int .u32 0, .int .u32 0, .int .u32 0, .int .u32 0, .int .u32 0, .int .u32 0, .int .u32 0] := rfl
  have hw0 : W0.heap.size = w.heap.size + 1 + 1 := by rw [← hW0]; simp
  have hb0 : Below w.heap.size w W0 := by rw [← hW0]; exact Joins.below_alloc2 _ _ _
  have hp0 : W0.heap[w.heap.size]? = some (.cells #[u] 42 (0, 0)) := by
    rw [← hW0, Below.heap_alloc _ _ _ (by simp)]; exact heap_alloc_last w _
  have hr0 : W0.heap[w.heap.size + 1]? = some (.cells zerosP 113 (0, 0)) := by
    rw [← hW0, hzP]
    exact heap_alloc2_new _ _ _
  have C := Lib.hid (matrixOf_any u ss W0 hN hz (hu.below hb0) (he.below hb0))
  have hsz := matC_size ss
  have hone := matC_one ss
  unfold MatOf at C
  have HR : Hid (∀ W, Below W0.heap.size W0 W → W.heap[w.heap.size + 1]? = some (.cells zerosP 113 (0, 0))) := fun W hb => (hb.block _ (by omega)).trans hr0
  have CP : Hid (validB ss = true → ∀ W, Calls Tryd.prog 136 #[.agg (matC ss)] W fun e w' => e = .returned (.agg (plOk0 ss)) ∧ Below W.heap.size W w')   := fun h1 W => by
    have V := vp_of h1
    rw [matC_yes h1, plOk0_yes h1]
    exact planeOf_any _ _ _ W V.w16 V.n16 (words_small V)
  have HNo : Hid (validB ss = false → plOk0 ss = zerosP) := plOk0_no
  have HQ : Hid ((plOk0 ss).size = 26 ∧ (plOk0 ss).all (·.oneCell') = true) := by
    show _ ∧ _
    unfold plOk0; split
    · exact ⟨pl_size _ _ _, pl_one _ _ _⟩
    · exact ⟨rfl, pcells_one _ _ _⟩
  obtain ⟨Q, hQ⟩ : ∃ Q, plOk0 ss = Q := ⟨_, rfl⟩
  rw [hQ] at CP HNo HQ ⊢
  have HI4 : Hid ((Tryd.prog.info? 113).map (·.size) = some Q.size) := by show _ = _; rw [HQ.out.1]; exact infoPl
  have HI5 : Hid (zerosP.size = Q.size) := by show _ = _; rw [HQ.out.1]; rfl
  have HI6 : Hid (Q.all (·.oneCell') = true) := HQ.out.2
  have HI7 : Hid ((Tryd.prog.info? 113).map (·.size) = some zerosP.size) := infoPl
  have HI8 : Hid (zerosP.all (·.oneCell') = true) := pcells_one _ _ _
  obtain ⟨M, hMe⟩ : ∃ M, matC ss = M := ⟨_, rfl⟩
  rw [hMe] at C hsz hone CP
  have HI : Hid ((Tryd.prog.info? 96).map (·.size) = some M.size) := by show _ = _; rw [hsz]; exact infoM
  have HZ := Lib.hid (zeros_size.trans hsz.symm)
  have HO := Lib.hid hone
  have HW0 := Lib.hid hW0
  have HB0 := Lib.hid hb0
  have HS0 := Lib.hid hw0
  have c0 : W0.cell? ⟨w.heap.size, 0, none⟩ = some u := cell_of_one hp0
  have HBl : Hid (Tryd.prog.built 113 [] = some zerosP) := built_pl0
  clear hW0 hzP hb0 hp0 hr0 hu he hMe hsz hone hN hz hQ HQ hw0
  go_enter Tryd.func82, Tryd.ntmps82
  go_upto_region 1 with fail
  rw [HW0.out]
  go_wp2_with fail
  refine C.out.mono ?_
  rintro e w1 ⟨rfl, hb1⟩
  have hs1 := hb1.size
  have M2 := Lib.hid (heap_alloc_last w1 (.cells M 96))
  have B2 := Lib.hid (hb1.alloc hs1 (.cells M 96))
  have hl2 : w1.heap.size < (w1.alloc (.cells M 96)).heap.size := by simp
  clear hb1
  obtain ⟨W4, hW4⟩ : ∃ W4, w1.alloc (.cells M 96) = W4 := ⟨_, rfl⟩
  rw [hW4] at M2 B2 hl2
  have HW4 := Lib.hid hW4
  clear hW4
  go_upto_region 3 with (refine wpList_store_new w1 rfl 96 _ _ rfl M rfl rfl 96 zeros HI.out HZ.out HO.out ?_; rw [HW4.out])
  have RES : ∀ W, Below W0.heap.size W0 W → w.heap.size + 1 < W.heap.size := fun W hb => by have := hb.size; have := HS0.out; omega
  cases h1 : validB ss with
  | false =>
    rw [h1] at HNo
    have HRr := Lib.hid (HR.out _ B2.out)
    have HBb := Lib.hid (HB0.out.trans (B2.out.mono HB0.out.size))
    have HEq := Lib.hid (HNo.out rfl)
    clear CP HNo HR
    refine wp_loop_rounds 1 ?_; rw [rounds_succ]
    go_wp2_with (first | (refine wpList_build_as rfl 113 _ rfl [] zerosP rfl HBl.out ?_) | (refine wpList_store_row rfl 113 _ _ rfl (w.heap.size + 1) zerosP rfl rfl 113 zerosP HRr.out HI7.out rfl HI8.out ?_))
    exact bodyPost_ret (results_cell_tmp Tryd.results82 _ _ (w.heap.size + 1) 113 zerosP (0, 0) _ rfl (setRow_heap _ _ _ _ _ _ HRr.out) Tryd.underlying113 rfl HI7.out) rfl ⟨by rw [HEq.out, h1]; rfl, setRow_below HBb.out (by omega) _⟩
  | true =>
    rw [h1] at CP
    have CPl := Lib.hid (CP.out rfl)
    clear CP HNo
    refine wp_loop_rounds 1 ?_; rw [rounds_succ]
    go_wp2_with (refine wpList_load_row rfl 96 _ rfl w1.heap.size rfl 96 M (0, 0) _ M2.out Tryd.underlying96 rfl HI.out ?_)
    refine (CPl.out _).mono ?_
    rintro e w7 ⟨rfl, hb7⟩
    have B7 := B2.out.trans (hb7.mono B2.out.size)
    have HRr := Lib.hid (HR.out _ B7)
    have HBb := Lib.hid (HB0.out.trans (B7.mono HB0.out.size))
    clear B7 hb7
    go_wp2_with (refine wpList_store_row rfl 113 _ _ rfl (w.heap.size + 1) Q rfl rfl 113 zerosP HRr.out HI4.out HI5.out HI6.out ?_)
    exact bodyPost_ret (results_cell_tmp Tryd.results82 _ _ (w.heap.size + 1) 113 Q (0, 0) _ rfl (setRow_heap _ _ _ _ _ _ HRr.out) Tryd.underlying113 rfl HI4.out) rfl ⟨by rw [h1]; rfl, setRow_below HBb.out (by omega) _⟩

set_option maxHeartbeats 4000000 in
set_option maxRecDepth 100000 in
theorem planeWith_any2 (B : Nat) (u v v2 : Value) (ss : List ByteArray) (xs ys : List (Int × Int)) (w : World) (hN : ss.length ≤ maxLen) (hz : ∀ s ∈ ss, s.size ≤ maxLen) (hu : Sl w u ss) (hM : xs.length ≤ 1048576) (hwf : ∀ p ∈ xs, (Lit.int .i64 p.1).wf = true ∧ (Lit.int .i64 p.2).wf = true) (hv : SlS w v xs) (hM2 : ys.length ≤ 1048576) (hwf2 : ∀ p ∈ ys, (Lit.int .i64 p.1).wf = true ∧ (Lit.int .i64 p.2).wf = true) (hv2 : SlS w v2 ys) (he : ErrLen w) (hB : w.heap[B]? = some (.cells #[v, v2] 46 (0, 0))) :
    Calls Tryd.prog 82 #[.agg #[u], .slice (some ⟨B, 0, none⟩) 2 2] w fun e w' => e = .returned (.tuple #[.agg (plOk2 ss xs ys), .bool (pxOk2 ss xs ys)]) ∧ Below w.heap.size w w' := by
  obtain ⟨W0, hW0⟩ : ∃ W0, ((w.alloc (.cells #[u] 42)).alloc (.cells #[.int .i64 0, .int .i64 0, .int .u32 0, .int .u32 0, .int .u32 0, .int .u32 0, .int .u32 0, .int .u32 0, .int .u32 0, .int .u32 0, .int .u32 0, .int .u32 0, .int .u32 0, .int .u32 0, .int .u32 0, .int .u32 0, .int .u32 0, .int .u32 0, .int .u32 0, .int .u32 0, .int .u32 0, .int .u32 0, .int .u32 0, .int .u32 0, .int .u32 0, .int .u32 0] 113)) = W0 := ⟨_, rfl⟩
  have hzP : zerosP = #[.int .i64 0, .int .i64 0, .int .u32 0, .int .u32 0, .int .u32 0, .int .u32 0, .int .u32 0, .int .u32 0, .int .u32 0, .int .u32 0, .int .u32 0, .int .u32 0, .int .u32 0, .int .u32 0, .int .u32 0, .int .u32 0, .int .u32 0, .int .u32 0, .int .u32 0, .int .u32 0, .int .u32 0, .int .u32 0, .int .u32 0, .int .u32 0, .int .u32 0, .int .u32 0] := rfl
  have hw0 : W0.heap.size = w.heap.size + 1 + 1 := by rw [← hW0]; simp
  have hb0 : Below w.heap.size w W0 := by rw [← hW0]; exact Joins.below_alloc2 _ _ _
  have hp0 : W0.heap[w.heap.size]? = some (.cells #[u] 42 (0, 0)) := by
    rw [← hW0, Below.heap_alloc _ _ _ (by simp)]; exact heap_alloc_last w _
  have hr0 : W0.heap[w.heap.size + 1]? = some (.cells zerosP 113 (0, 0)) := by
    rw [← hW0, hzP]
    exact heap_alloc2_new _ _ _
  have C := Lib.hid (matrixOf_any u ss W0 hN hz (hu.below hb0) (he.below hb0))
  have hsz := matC_size ss
  have hone := matC_one ss
  unfold MatOf at C
  have hlB := (Array.getElem?_eq_some_iff.1 hB).1
  have HBe : Hid (∀ W, Below W0.heap.size W0 W → W.heap[B]? = some (.cells #[v, v2] 46 (0, 0))) := fun W hb => (hb.block _ (Nat.lt_of_lt_of_le hlB hb0.size)).trans ((hb0.block _ hlB).trans hB)
  have HR : Hid (∀ W, Below W0.heap.size W0 W → W.heap[w.heap.size + 1]? = some (.cells zerosP 113 (0, 0))) := fun W hb => (hb.block _ (by omega)).trans hr0
  have CV : Hid (∀ W, Below W0.heap.size W0 W → Calls Tryd.prog 25 #[.agg #[v]] W (SaysB (elB xs) W)) := fun W hb => impl_ValidElement v xs W hM hwf ((hv.below hb0).below hb)
  have CV2 : Hid (∀ W, Below W0.heap.size W0 W → Calls Tryd.prog 25 #[.agg #[v2]] W (SaysB (elB ys) W)) := fun W hb => impl_ValidElement v2 ys W hM2 hwf2 ((hv2.below hb0).below hb)
  have CP : Hid (validB ss = true → elB xs = true → elB ys = true → ∀ W, Calls Tryd.prog 136 #[.agg (matC ss)] W fun e w' => e = .returned (.agg (plOk2 ss xs ys)) ∧ Below W.heap.size W w') := fun h1 h2 h3 W => by
    have V := vp_of h1
    rw [matC_yes h1, plOk2_yes (by unfold pxOk2; rw [h1, h2, h3]; rfl)]
    exact planeOf_any _ _ _ W V.w16 V.n16 (words_small V)
  have HNo : Hid (pxOk2 ss xs ys = false → plOk2 ss xs ys = zerosP) := plOk2_no
  have HOk : Hid (pxOk2 ss xs ys = (validB ss && elB xs && elB ys)) := rfl
  have HQ : Hid ((plOk2 ss xs ys).size = 26 ∧ (plOk2 ss xs ys).all (·.oneCell') = true) := by
    show _ ∧ _
    unfold plOk2; split
    · exact ⟨pl_size _ _ _, pl_one _ _ _⟩
    · exact ⟨rfl, pcells_one _ _ _⟩
  obtain ⟨Q, hQ⟩ : ∃ Q, plOk2 ss xs ys = Q := ⟨_, rfl⟩
  rw [hQ] at CP HNo HQ ⊢
  obtain ⟨ok, hok⟩ : ∃ r, pxOk2 ss xs ys = r := ⟨_, rfl⟩
  rw [hok] at HNo HOk ⊢
  have HI4 : Hid ((Tryd.prog.info? 113).map (·.size) = some Q.size) := by show _ = _; rw [HQ.out.1]; exact infoPl
  have HI5 : Hid (zerosP.size = Q.size) := by show _ = _; rw [HQ.out.1]; rfl
  have HI6 : Hid (Q.all (·.oneCell') = true) := HQ.out.2
  have HI7 : Hid ((Tryd.prog.info? 113).map (·.size) = some zerosP.size) := infoPl
  have HI8 : Hid (zerosP.all (·.oneCell') = true) := pcells_one _ _ _
  obtain ⟨M, hMe⟩ : ∃ M, matC ss = M := ⟨_, rfl⟩
  rw [hMe] at C hsz hone CP
  have HI : Hid ((Tryd.prog.info? 96).map (·.size) = some M.size) := by show _ = _; rw [hsz]; exact infoM
  have HZ := Lib.hid (zeros_size.trans hsz.symm)
  have HO := Lib.hid hone
  have HW0 := Lib.hid hW0
  have HB0 := Lib.hid hb0
  have HS0 := Lib.hid hw0
  have c0 : W0.cell? ⟨w.heap.size, 0, none⟩ = some u := cell_of_one hp0
  have HBl : Hid (Tryd.prog.built 113 [] = some zerosP) := built_pl0
  obtain ⟨ao, cap, rfl, _⟩ := sl_form hv
  obtain ⟨ao2, cap2, rfl, _⟩ := sl_form hv2
  have hvi : ((Value.slice ao xs.length cap).oneCell') = true := rfl
  have hvi2 : ((Value.slice ao2 ys.length cap2).oneCell') = true := rfl
  have HBc : Hid (∀ W, Below W0.heap.size W0 W → W.cell? ⟨B, 0, none⟩ = some (.slice ao xs.length cap) ∧ W.cell? ⟨B, 1, none⟩ = some (.slice ao2 ys.length cap2)) := fun W hb => ⟨(Joins.cell_of_block (HBe.out W hb) 0).trans rfl, (Joins.cell_of_block (HBe.out W hb) 1).trans rfl⟩
  clear hW0 hzP hb0 hp0 hr0 hu hv hwf hv2 hwf2 hM2 he HBe hMe hsz hone hN hz hM hB hlB hQ hok HQ hw0
  go_enter Tryd.func82, Tryd.ntmps82
  go_upto_region 1 with fail
  rw [HW0.out]
  go_wp2_with fail
  refine C.out.mono ?_
  rintro e w1 ⟨rfl, hb1⟩
  have hs1 := hb1.size
  have M2 := Lib.hid (heap_alloc_last w1 (.cells M 96))
  have B2 := Lib.hid (hb1.alloc hs1 (.cells M 96))
  have hl2 : w1.heap.size < (w1.alloc (.cells M 96)).heap.size := by simp
  clear hb1
  obtain ⟨W4, hW4⟩ : ∃ W4, w1.alloc (.cells M 96) = W4 := ⟨_, rfl⟩
  rw [hW4] at M2 B2 hl2
  have HW4 := Lib.hid hW4
  have hcB := (HBc.out W4 B2.out).1
  clear hW4
  go_upto_region 3 with (refine wpList_store_new w1 rfl 96 _ _ rfl M rfl rfl 96 zeros HI.out HZ.out HO.out ?_; rw [HW4.out])
  have B5 := Lib.hid (B2.out.alloc B2.out.size (.cells #[.slice ao xs.length cap] 46))
  have M5 := Lib.hid (((Below.refl _ _).alloc (Nat.le_refl _) (.cells #[.slice ao xs.length cap] 46)).block _ hl2 |>.trans M2.out)
  have RES : ∀ W, Below W0.heap.size W0 W → w.heap.size + 1 < W.heap.size := fun W hb => by have := hb.size; have := HS0.out; omega
  cases h1 : validB ss with
  | false =>
    rw [h1] at HOk
    have HF : Hid (ok = false) := HOk.out
    have hc2 := (HBc.out _ B5.out).2
    have B7 := Lib.hid (B5.out.alloc B5.out.size (.cells #[.slice ao2 ys.length cap2] 46))
    have HRr := Lib.hid (HR.out _ B7.out)
    have HBb := Lib.hid (HB0.out.trans (B7.out.mono HB0.out.size))
    have HEq := Lib.hid (HNo.out HF.out)
    clear CP CV CV2 HNo HOk HBc HR
    refine wp_loop_rounds 3 ?_; rw [rounds_succ]
    go_wp2_with fail
    rw [rounds_succ]
    go_wp2_with fail
    rw [rounds_succ]
    go_wp2_with (first | (refine wpList_build_as rfl 113 _ rfl [] zerosP rfl HBl.out ?_) | (refine wpList_store_row rfl 113 _ _ rfl (w.heap.size + 1) zerosP rfl rfl 113 zerosP HRr.out HI7.out rfl HI8.out ?_))
    exact bodyPost_ret (results_cell_tmp Tryd.results82 _ _ (w.heap.size + 1) 113 zerosP (0, 0) _ rfl (setRow_heap _ _ _ _ _ _ HRr.out) Tryd.underlying113 rfl HI7.out) rfl ⟨by rw [HEq.out, HF.out]; rfl, setRow_below HBb.out (by omega) _⟩
  | true =>
    rw [h1] at HOk CP
    refine wp_loop_rounds 3 ?_; rw [rounds_succ]
    go_wp2_with fail
    refine (CV.out _ B5.out).mono ?_
    rintro e w6 ⟨rfl, hb6⟩
    have B6 := Lib.hid (B5.out.trans (hb6.mono B5.out.size))
    have M6 := Lib.hid ((hb6.block _ (Array.getElem?_eq_some_iff.1 M5.out).1).trans M5.out)
    have hc2 := (HBc.out _ B6.out).2
    have B7 := Lib.hid (B6.out.alloc B6.out.size (.cells #[.slice ao2 ys.length cap2] 46))
    have M7 := Lib.hid (((Joins.below_alloc1 w6 (.cells #[.slice ao2 ys.length cap2] 46)).block _ (Array.getElem?_eq_some_iff.1 M6.out).1).trans M6.out)
    clear hb6
    cases h2 : elB xs with
    | false =>
      rw [h2] at HOk
      have HF : Hid (ok = false) := HOk.out
      have HRr := Lib.hid (HR.out _ B7.out)
      have HBb := Lib.hid (HB0.out.trans (B7.out.mono HB0.out.size))
      have HEq := Lib.hid (HNo.out HF.out)
      clear CP CV CV2 HNo HOk HBc HR
      go_wp2_with fail
      rw [rounds_succ]
      go_wp2_with fail
      rw [rounds_succ]
      go_wp2_with (first | (refine wpList_build_as rfl 113 _ rfl [] zerosP rfl HBl.out ?_) | (refine wpList_store_row rfl 113 _ _ rfl (w.heap.size + 1) zerosP rfl rfl 113 zerosP HRr.out HI7.out rfl HI8.out ?_))
      exact bodyPost_ret (results_cell_tmp Tryd.results82 _ _ (w.heap.size + 1) 113 zerosP (0, 0) _ rfl (setRow_heap _ _ _ _ _ _ HRr.out) Tryd.underlying113 rfl HI7.out) rfl ⟨by rw [HEq.out, HF.out]; rfl, setRow_below HBb.out (by omega) _⟩
    | true =>
      rw [h2] at HOk CP
      go_wp2_with fail
      rw [rounds_succ]
      go_wp2_with fail
      refine (CV2.out _ B7.out).mono ?_
      rintro e w8 ⟨rfl, hb8⟩
      have B8 := Lib.hid (B7.out.trans (hb8.mono B7.out.size))
      have M8 := Lib.hid ((hb8.block _ (Array.getElem?_eq_some_iff.1 M7.out).1).trans M7.out)
      clear hb8
      cases h3 : elB ys with
      | false =>
        rw [h3] at HOk
        have HF : Hid (ok = false) := HOk.out
        have HRr := Lib.hid (HR.out _ B8.out)
        have HBb := Lib.hid (HB0.out.trans (B8.out.mono HB0.out.size))
        have HEq := Lib.hid (HNo.out HF.out)
        clear CP CV CV2 HNo HOk HBc HR
        go_wp2_with fail
        rw [rounds_succ]
        go_wp2_with (first | (refine wpList_build_as rfl 113 _ rfl [] zerosP rfl HBl.out ?_) | (refine wpList_store_row rfl 113 _ _ rfl (w.heap.size + 1) zerosP rfl rfl 113 zerosP HRr.out HI7.out rfl HI8.out ?_))
        exact bodyPost_ret (results_cell_tmp Tryd.results82 _ _ (w.heap.size + 1) 113 zerosP (0, 0) _ rfl (setRow_heap _ _ _ _ _ _ HRr.out) Tryd.underlying113 rfl HI7.out) rfl ⟨by rw [HEq.out, HF.out]; rfl, setRow_below HBb.out (by omega) _⟩
      | true =>
        rw [h3] at HOk CP
        have HT : Hid (ok = true) := HOk.out
        have CPl := Lib.hid (CP.out (by trivial) (by trivial) (by first | exact h3 | trivial | rfl))
        clear CP CV CV2 HNo HOk HBc
        go_wp2_with fail
        rw [rounds_succ]
        go_wp2_with (refine wpList_load_row rfl 96 _ rfl w1.heap.size rfl 96 M (0, 0) _ M8.out Tryd.underlying96 rfl HI.out ?_)
        refine (CPl.out _).mono ?_
        rintro e w9 ⟨rfl, hb9⟩
        have B9 := B8.out.trans (hb9.mono B8.out.size)
        have HRr := Lib.hid (HR.out _ B9)
        have HBb := Lib.hid (HB0.out.trans (B9.mono HB0.out.size))
        clear B9 hb9
        go_wp2_with (refine wpList_store_row rfl 113 _ _ rfl (w.heap.size + 1) Q rfl rfl 113 zerosP HRr.out HI4.out HI5.out HI6.out ?_)
        exact bodyPost_ret (results_cell_tmp Tryd.results82 _ _ (w.heap.size + 1) 113 Q (0, 0) _ rfl (setRow_heap _ _ _ _ _ _ HRr.out) Tryd.underlying113 rfl HI4.out) rfl ⟨by rw [HT.out]; rfl, setRow_below HBb.out (by omega) _⟩
end Go.Proofs.YtabkkpifkkgpeaaDoor
