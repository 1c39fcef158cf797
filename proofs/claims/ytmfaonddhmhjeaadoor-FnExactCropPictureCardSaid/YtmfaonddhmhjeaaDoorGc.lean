/- Contracts of single functions, and plain lemmas, on which the exact laws of this seat rest; each holds under the conditions that it states. -/
import Derived.Test.YtmfaonddhmhjeaaDoorGb
import Derived.Test.YtmfaonddhmhjeaaDoorFc
import Derived.Deep.RegionWith
namespace Go.Proofs.YtmfaonddhmhjeaaDoor
set_option linter.unusedVariables false
set_option linter.unusedSimpArgs false
open Go.RowKit

/-- the word of a part of a row -/
def cropW (W x wd : Nat) : Nat := (W / 2 ^ x) &&& (2 ^ wd - 1)
def cropG (g : Nat → Nat) (x y wd k : Nat) (j : Nat) : Nat := if j < k then cropW (g (y + j)) x wd else 0
theorem cropG_zero (g : Nat → Nat) (x y wd : Nat) : cropG g x y wd 0 = fun _ => 0 := by
  funext j; unfold cropG; rw [if_neg (by omega)]
theorem cropG_step (a b : Nat) (g : Nat → Nat) (x y wd k : Nat) (hk : k < 16) : (mat a b (cropG g x y wd k)).setIfInBounds (2 + k) (.int .u32 ((cropW (g (y + k)) x wd : Nat) : Int)) = mat a b (cropG g x y wd (k + 1)) := by
  rw [mat_set a b _ k hk]
  congr 1
  funext j
  unfold cropG
  by_cases h : j = k
  · subst h; rw [if_pos rfl, if_pos (by omega)]
  · rw [if_neg h]
    by_cases h2 : j < k
    · rw [if_pos h2, if_pos (by omega)]
    · rw [if_neg h2, if_neg (by omega)]
theorem cropW_lt (W x wd : Nat) (h : wd ≤ 16) : cropW W x wd < 4294967296 := by
  have h2 : 2 ^ wd ≤ 2 ^ 16 := Nat.pow_le_pow_right (by omega) h
  unfold cropW
  exact Nat.lt_of_le_of_lt Nat.and_le_right (by omega)
theorem cropG_lt (g : Nat → Nat) (x y wd k j : Nat) (h : wd ≤ 16) : cropG g x y wd k j < 4294967296 := by
  unfold cropG
  split
  · exact cropW_lt _ _ _ h
  · omega
theorem crop_bits (W x wd : Nat) (hW : W < 4294967296) (h : wd ≤ 16) : bits .and .u32 ((W : Int) / (2 : Int) ^ x) ((2 ^ wd - 1 : Nat) : Int) = ((cropW W x wd : Nat) : Int) := by
  have h2 : 2 ^ wd ≤ 2 ^ 16 := Nat.pow_le_pow_right (by omega) h
  have e : (W : Int) / (2 : Int) ^ x = ((W / 2 ^ x : Nat) : Int) := by rw [Int.natCast_ediv, Int.natCast_pow]; rfl
  rw [e]
  exact u32_and_nat _ _ (Nat.lt_of_le_of_lt (Nat.div_le_self _ _) hW) (by omega)
theorem cropW_bit (W x wd i : Nat) (hi : i < wd) : (cropW W x wd).testBit i = W.testBit (x + i) := by
  unfold cropW
  rw [Nat.testBit_and, Nat.testBit_two_pow_sub_one, decide_eq_true hi, Bool.and_true, Nat.testBit_div_two_pow, Nat.add_comm]
theorem crop_row {s : ByteArray} {x wd : Nat} (hx : x + wd ≤ s.size) (hp : ∀ (i : Nat) (hi : i < s.size), pixB (s[i]'hi) = true) : rowOf (fun i => blackAt s (x + i)) wd = cropRow s x wd := by
  unfold rowOf cropRow
  apply WideShapes.bytes_inj
  have hl : (s.extract x (x + wd)).data.toList.length = wd := by
    rw [Array.length_toList]
    show (s.extract x (x + wd)).size = wd
    rw [ByteArray.size_extract]; omega
  apply List.ext_getElem?
  intro i
  by_cases hi : i < wd
  · have h1 : (mkRow (fun i => blackAt s (x + i)) wd)[i]? = some (if blackAt s (x + i) then 35 else 46) := by unfold mkRow; simp [hi]
    have h3 : (s.extract x (x + wd)).data.toList[i]? = some (s[x + i]'(by omega)) := by
      rw [List.getElem?_eq_getElem (by omega), Array.getElem_toList]
      show some ((s.extract x (x + wd))[i]'(by rw [ByteArray.size_extract]; omega)) = _
      rw [ByteArray.getElem_extract]
    rw [h3]
    show (mkRow (fun i => blackAt s (x + i)) wd).toArray.toList[i]? = _
    rw [List.toList_toArray, h1]
    congr 1
    have hb := blackAt_eq s (x + i) (by omega)
    have hpx := hp (x + i) (by omega)
    unfold pixB at hpx
    rcases Bool.or_eq_true_iff.1 hpx with h | h
    · have e := beq_iff_eq.1 h
      rw [e] at hb ⊢
      rw [hb]; rfl
    · have e := beq_iff_eq.1 h
      rw [e] at hb ⊢
      rw [hb]; rfl
  · have h1 : (s.extract x (x + wd)).data.toList[i]? = none := List.getElem?_eq_none (by omega)
    rw [h1]
    show (mkRow (fun i => blackAt s (x + i)) wd).toArray.toList[i]? = _
    rw [List.toList_toArray, List.getElem?_eq_none (by rw [mkRow_len]; omega)]
theorem crop_pic {ss : List ByteArray} (V : VP ss) (x y wd hh : Nat) (hx : x + wd ≤ (row0 ss).size) (hy : y + hh ≤ ss.length) :
    mkPic wd hh (fun j i => blackB wd hh (cropG (wordsOf ss) x y wd hh) i j) = cropRows ss x y wd hh := by
  have e : mkPic wd hh (fun j i => blackB wd hh (cropG (wordsOf ss) x y wd hh) i j) = mkPic wd hh (fun j i => blackAt (ss.getD (y + j) ByteArray.empty) (x + i)) := mkPic_congr fun j hj i hi => by
    have hh' : hasB wd hh i j = true := by rw [hasB_insB]; exact in_range hi hj
    unfold blackB
    rw [hh', Bool.true_and, Int.toNat_natCast, Int.toNat_natCast]
    unfold cropG
    rw [if_pos hj, cropW_bit _ _ _ _ hi]
    exact words_at V (y + j) (x + i) (by omega) (by omega)
  rw [e]
  unfold mkPic cropRows
  refine List.map_congr_left fun j hj => ?_
  rw [List.mem_range] at hj
  have hr := V.rows (y + j) (by omega)
  exact crop_row (by omega) hr.2

set_option maxHeartbeats 4000000 in
set_option maxRecDepth 100000 in
theorem impl_Crop_yes (v : Value) (ss : List ByteArray) (x y wd hh : Nat) (w : World) (hN : ss.length ≤ maxLen) (hz : ∀ s ∈ ss, s.size ≤ maxLen) (hv : Sl w v ss) (he : ErrLen w) (hok : validB ss = true) (hw1 : 1 ≤ wd) (hh1 : 1 ≤ hh) (hx : x + wd ≤ (row0 ss).size) (hy : y + hh ≤ ss.length) :
    Calls Tryd.prog 20 #[.agg #[v], .agg #[.int .i64 x, .int .i64 y], .int .i64 wd, .int .i64 hh] w (SaysPic (cropRows ss x y wd hh) true w) := by
  have V := vp_of hok
  have hw16 := V.w16
  have hn16 := V.n16
  obtain ⟨W0, hW0, hb0, hl0, hp0, hp1, hp2⟩ := begin3 w v x y
  have hcv : W0.cell? ⟨w.heap.size, 0, none⟩ = some v := cell_of_one hp0
  have C := Lib.hid (matrixOf_any v ss _ hN hz (hv.below hb0) (he.below hb0))
  have hsz := matC_size ss
  have hone := matC_one ss
  have hMM := matC_yes hok
  unfold MatOf at C
  obtain ⟨M, hM⟩ : ∃ M, matC ss = M := ⟨_, rfl⟩
  rw [hM] at C hsz hone hMM
  have HI : Hid ((Tryd.prog.info? 66).map (·.size) = some M.size) := by show _ = _; rw [hsz]; exact infoM
  have HZ := Lib.hid (zeros_size.trans hsz.symm)
  have HO := Lib.hid hone
  have hB := Lib.hid (fun W => blankMatrix_yes (wd : Int) (hh : Int) W (by omega) (by omega))
  unfold RetMat at hB
  have HMM2 : Hid (mcells (wd : Int) (hh : Int) (fun _ => 0) = mat wd hh (fun _ => 0)) := rfl
  have hsz2 := mcells_size (wd : Int) (hh : Int) (fun _ => 0)
  have hone2 := mcells_one (wd : Int) (hh : Int) (fun _ => 0)
  obtain ⟨M2, hM2⟩ : ∃ M, mcells (wd : Int) (hh : Int) (fun _ => 0) = M := ⟨_, rfl⟩
  rw [hM2] at hB HMM2 hsz2 hone2
  have HI2 : Hid ((Tryd.prog.info? 66).map (·.size) = some M2.size) := by show _ = _; rw [hsz2]; exact infoM
  have HZ2 := Lib.hid (zeros_size.trans hsz2.symm)
  have HO2 := Lib.hid hone2
  have HH : Hid (∀ W, Calls Tryd.prog 38 #[.agg M, .int .i64 x, .int .i64 y] W (SaysB true W)) := fun W => by
    have := has_any M (row0 ss).size ss.length (fun j => (wordsOf ss j : Int)) x y W ⟨hMM⟩
    rwa [has_at (by omega) (by omega)] at this
  have HH2 : Hid (∀ W, Calls Tryd.prog 38 #[.agg M, .int .i64 ((x : Int) + (wd : Int) - 1), .int .i64 ((y : Int) + (hh : Int) - 1)] W (SaysB true W)) := fun W => by
    have := has_any M (row0 ss).size ss.length (fun j => (wordsOf ss j : Int)) ((x : Int) + (wd : Int) - 1) ((y : Int) + (hh : Int) - 1) W ⟨hMM⟩
    have e : hasB (row0 ss).size ss.length ((x : Int) + (wd : Int) - 1) ((y : Int) + (hh : Int) - 1) = true := by
      unfold hasB; simp only [Bool.and_eq_true, decide_eq_true_eq]; omega
    rwa [e] at this
  have HG : Hid (∀ j, wordsOf ss j < 4294967296) := fun j => words_lt V j
  have HPi : Hid (∀ W, Calls Tryd.prog 40 #[.agg (mat wd hh (cropG (wordsOf ss) x y wd hh))] W (TookPic W (cropRows ss x y wd hh))) := fun W => by
    have := picture_any (mat wd hh (cropG (wordsOf ss) x y wd hh)) wd hh _ W rfl (by omega) (by omega) (fun j => cropG_lt _ _ _ _ _ _ (by omega))
    rwa [crop_pic V x y wd hh hx hy] at this
  have CMk := Lib.hid (fun W => maskOf_any wd W (by omega))
  obtain ⟨mk, hmk⟩ : ∃ mk, 2 ^ wd - 1 = mk := ⟨_, rfl⟩
  have HK : Hid (∀ W : Nat, W < 4294967296 → bits .and .u32 ((W : Int) / (2 : Int) ^ x) ((mk : Nat) : Int) = ((cropW W x wd : Nat) : Int)) := fun W hW => by
    have := crop_bits W x wd hW (by omega)
    rwa [hmk] at this
  rw [hmk] at CMk
  have HOk := Lib.hid hok
  obtain ⟨pic, hpic⟩ : ∃ p, cropRows ss x y wd hh = p := ⟨_, rfl⟩
  rw [hpic] at HPi ⊢
  obtain ⟨g, hg⟩ : ∃ g, wordsOf ss = g := ⟨_, rfl⟩
  rw [hg] at HPi HG hMM
  obtain ⟨a, ha⟩ : ∃ a, (row0 ss).size = a := ⟨_, rfl⟩
  obtain ⟨b, hbb⟩ : ∃ a, ss.length = a := ⟨_, rfl⟩
  rw [ha] at hMM hx hw16
  rw [hbb] at hMM hy hn16
  have HMM := Lib.hid hMM
  have HW := Lib.hid hW0
  have B0 := Lib.hid hb0
  have P0 := Lib.hid hp2
  have S0 := Lib.hid hp1
  clear hW0 hb0 hp0 hp1 hp2 ha hbb hpic hok V hv hmk hM hM2 hsz hsz2 hone hone2 hMM hg he
  go_enter Tryd.func20, Tryd.ntmps20
  go_wp2_with fail
  rw [HW.out]
  refine C.out.mono ?_
  rintro e w1 ⟨rfl, hb⟩
  rw [HOk.out]
  have B1 : Hid (Below w.heap.size w w1) := B0.out.trans (hb.mono B0.out.size)
  have P1 := Lib.hid ((hb.block _ hl0).trans P0.out)
  have S1 := Lib.hid ((hb.block (w.heap.size + 1) (by omega)).trans S0.out)
  have hs1 := B1.out.size
  have l1 : w.heap.size + 2 < w1.heap.size := Nat.lt_of_lt_of_le hl0 hb.size
  clear hb hcv
  go_wp2_with (refine wpList_store_new w1 rfl 66 _ _ rfl M rfl rfl 66 zeros HI.out HZ.out HO.out ?_)
  refine (hB.out _).mono ?_
  rintro e w2 ⟨rfl, hb⟩
  have l2 : w1.heap.size + 1 ≤ w2.heap.size := by have := hb.size; simpa using this
  have Ma := Lib.hid ((Below.heap_alloc w2 (.cells M2 66) w1.heap.size (by omega)).trans ((hb.block w1.heap.size (by simp)).trans (heap_alloc_last w1 (.cells M 66))))
  have Mb := Lib.hid (heap_alloc_last w2 (.cells M2 66))
  have Pa := Lib.hid ((Below.heap_alloc w2 (.cells M2 66) (w.heap.size + 1 + 1) (by omega)).trans ((hb.block (w.heap.size + 1 + 1) (by simp; omega)).trans ((Below.heap_alloc w1 (.cells M 66) _ (by omega)).trans P1.out)))
  have hSa := (Below.heap_alloc w2 (.cells M2 66) (w.heap.size + 1) (by omega)).trans ((hb.block (w.heap.size + 1) (by simp; omega)).trans ((Below.heap_alloc w1 (.cells M 66) _ (by omega)).trans S1.out))
  have Sa := Lib.hid hSa
  have B2 : Hid (Below w.heap.size w (w2.alloc (.cells M2 66))) := ((B1.out.alloc hs1 _).trans (hb.mono (by simp; omega))).alloc (by omega) _
  have hx1 : (w2.alloc (.cells M2 66)).cell? ⟨w.heap.size + 1, 0, none⟩ = some (.int .i64 x) := (Joins.cell_of_block hSa 0).trans rfl
  have hy1 : (w2.alloc (.cells M2 66)).cell? ⟨w.heap.size + 1, 1, none⟩ = some (.int .i64 y) := (Joins.cell_of_block hSa 1).trans rfl
  clear hb hSa
  go_wp2_with (first | (refine wpList_store_new w2 rfl 66 _ _ rfl M2 rfl rfl 66 zeros HI2.out HZ2.out HO2.out ?_) | (refine wpList_load_row_g rfl 66 _ rfl w1.heap.size rfl 66 M (0, 0) _ Ma.out Tryd.underlying66 rfl HI.out ?_))
  refine (HH.out _).mono ?_
  rintro e w3 ⟨rfl, hb⟩
  have Ma3 := Lib.hid ((hb.block _ (by simp; omega)).trans Ma.out)
  have Mb3 := Lib.hid ((hb.block _ (by simp)).trans Mb.out)
  have Pa3 := Lib.hid ((hb.block _ (by simp; omega)).trans Pa.out)
  have hSa := (hb.block _ (by simp; omega)).trans Sa.out
  have Sa3 := Lib.hid hSa
  have B3 : Hid (Below w.heap.size w w3) := B2.out.trans (hb.mono (by simp; omega))
  have hx3 : w3.cell? ⟨w.heap.size + 1, 0, none⟩ = some (.int .i64 x) := (Joins.cell_of_block hSa 0).trans rfl
  have hy3 : w3.cell? ⟨w.heap.size + 1, 1, none⟩ = some (.int .i64 y) := (Joins.cell_of_block hSa 1).trans rfl
  have l3 : w2.heap.size + 1 ≤ w3.heap.size := by have := hb.size; simpa using this
  clear hb hSa hx1 hy1
  go_wp2_with (refine wpList_load_row_g rfl 66 _ rfl w1.heap.size rfl 66 M (0, 0) _ Ma3.out Tryd.underlying66 rfl HI.out ?_)
  refine (HH2.out _).mono ?_
  rintro e w4 ⟨rfl, hb⟩
  have Ma4 := Lib.hid ((hb.block _ (by omega)).trans Ma3.out)
  have Mb4 := Lib.hid ((hb.block _ (by omega)).trans Mb3.out)
  have Pa4 := Lib.hid ((hb.block _ (by omega)).trans Pa3.out)
  have Sa4 := Lib.hid ((hb.block _ (by omega)).trans Sa3.out)
  have B4 : Hid (Below w.heap.size w w4) := B3.out.trans (hb.mono B3.out.size)
  have l4 : w3.heap.size ≤ w4.heap.size := hb.size
  clear hb hx3 hy3
  go_wp2_with fail
  go_loopw [58] (fun kv wr => ∃ k : Nat, k ≤ hh ∧ kv = .int .i64 k ∧ wr.heap[w2.heap.size]? = some (.cells (mat wd hh (cropG g x y wd k)) 66 (0, 0)) ∧ wr.heap[w1.heap.size]? = some (.cells M 66 (0, 0)) ∧ wr.heap[w.heap.size + 1]? = some (.cells #[.int .i64 x, .int .i64 y] 42 (0, 0)) ∧ wr.heap[w.heap.size + 1 + 1]? = some (.cells #[.slice none 0 0] 26 (0, 0)) ∧ Below w.heap.size w wr) (fun kv _ => hh - (intOf kv).toNat)
  case atStart => exact ⟨0, Nat.zero_le _, rfl, by rw [cropG_zero, ← HMM2.out]; exact Mb4.out, Ma4.out, Sa4.out, Pa4.out, B4.out⟩
  case round =>
    obtain ⟨k, hk, rfl, hm2, hm1, hsp, hpp, hbel⟩ := hrel
    by_cases hlt : k < hh
    · have cx : wr.cell? ⟨w.heap.size + 1, 0, none⟩ = some (.int .i64 x) := (Joins.cell_of_block hsp 0).trans rfl
      have cy : wr.cell? ⟨w.heap.size + 1, 1, none⟩ = some (.int .i64 y) := (Joins.cell_of_block hsp 1).trans rfl
      have cg : wr.cell? ⟨w1.heap.size, 2 + (y + k), none⟩ = some (.int .u32 (g (y + k))) := by
        rw [Joins.cell_of_block hm1 (2 + (y + k)), HMM.out]; exact mcells_word _ _ _ (y + k) (by omega)
      have ck : wr.cell? ⟨w2.heap.size, 2 + k, none⟩ = some (.int .u32 (cropG g x y wd k k)) := by
        rw [Joins.cell_of_block hm2 (2 + k)]; exact mcells_word _ _ _ k (by omega)
      have fk : wr.frozen? ⟨w2.heap.size, 2 + k, none⟩ = false := Joins.unfrozen_of_block hm2 _
      have hnx := Lib.heap_setCell_same (i := 2 + k) hm2 (.int .u32 ((cropW (g (y + k)) x wd : Nat) : Int))
      rw [cropG_step wd hh g x y wd k (by omega)] at hnx
      have H2 := Lib.hid hnx
      have H1 := Lib.hid ((Below.heap_setCell wr ⟨w2.heap.size, 2 + k, none⟩ (.int .u32 ((cropW (g (y + k)) x wd : Nat) : Int)) w1.heap.size (by simp; omega)).trans hm1)
      have HSp := Lib.hid ((Below.heap_setCell wr ⟨w2.heap.size, 2 + k, none⟩ (.int .u32 ((cropW (g (y + k)) x wd : Nat) : Int)) (w.heap.size + 1) (by simp; omega)).trans hsp)
      have HPp := Lib.hid ((Below.heap_setCell wr ⟨w2.heap.size, 2 + k, none⟩ (.int .u32 ((cropW (g (y + k)) x wd : Nat) : Int)) (w.heap.size + 1 + 1) (by simp; omega)).trans hpp)
      have HB := Lib.hid (hbel.setCell (p := ⟨w2.heap.size, 2 + k, none⟩) (by simp; omega) (.int .u32 ((cropW (g (y + k)) x wd : Nat) : Int)))
      have kx := HK.out (g (y + k)) (HG.out _)
      obtain ⟨q, hq⟩ : ∃ q, y + k = q := ⟨_, rfl⟩
      rw [hq] at cg kx H2 H1 HSp HPp HB
      have k1 : IntKind.i64.wrap ((y : Int) + (k : Int)) = (y : Int) + (k : Int) := IntWalk.i64_in _ (by omega)
      have k2 : (0 : Int) ≤ (y : Int) + (k : Int) := by omega
      have k3 : (y : Int) + (k : Int) < 16 := by omega
      have k4 : ((y : Int) + (k : Int)).toNat = q := by omega
      have k5 : (k : Int) < 16 := by omega
      have k6 : (0 : Int) ≤ (k : Int) := by omega
      have k7 : (k : Int) < (hh : Int) := by omega
      clear hm2 hm1 hsp hpp hbel hnx hq
      go_wp2
      go_region_with (go_at_call 52; refine (CMk.out _).mono ?_; rintro e w' ⟨rfl, rfl⟩)
      all_goals go_wp2
      all_goals (refine ⟨⟨k + 1, by omega, by go_num, H2.out, H1.out, HSp.out, HPp.out, by first | exact HB.out | exact HB.out.drew⟩, by simp [intOf]; omega⟩)
    · obtain rfl : k = hh := by omega
      obtain ⟨M3, hM3⟩ : ∃ M3, mat wd k (cropG g x y wd k) = M3 := ⟨_, rfl⟩
      have hsz3 : M3.size = 18 := by rw [← hM3]; rfl
      have HI3 : Hid ((Tryd.prog.info? 66).map (·.size) = some M3.size) := by show _ = _; rw [hsz3]; exact infoM
      rw [hM3] at hm2 HPi
      have M4 := Lib.hid hm2
      have P4 := Lib.hid hpp
      have B5 := Lib.hid hbel
      clear hm2 hm1 hsp hpp hbel hM3 hsz3
      go_wp2_with (refine wpList_load_row rfl 66 _ rfl w2.heap.size rfl 66 M3 (0, 0) _ M4.out Tryd.underlying66 rfl HI3.out ?_)
      refine (HPi.out _).mono ?_
      rintro e w5 ⟨g4, cap4, rfl, hown4, hb4⟩
      have hp5 := (hb4.block _ (Array.getElem?_eq_some_iff.1 P4.out).1).trans P4.out
      have hfr : w5.frozen? ⟨w.heap.size + 1 + 1, 0, none⟩ = false := free_of_one hp5
      have hc2 : w5.cell? ⟨w.heap.size + 1 + 1, 0, none⟩ = some (.slice none 0 0) := cell_of_one hp5
      have O2 := Lib.hid (own_set (u := .slice (some ⟨g4, 0, none⟩) pic.length cap4) hown4 hp5 (by decide))
      have P5 := Lib.hid hp5
      have B6 := Lib.hid (B5.out.trans (hb4.mono B5.out.size))
      have hs3 := B5.out.size
      clear hown4 hp5 hb4
      go_wp2_with fail
      refine bodyPost_ret (v := .tuple #[.agg #[.slice (some ⟨g4, 0, none⟩) pic.length cap4], .bool true]) (by simp [results, Tryd.results20, go_sem, cell_of_one (one_setCell P5.out)]) rfl ⟨_, _, _, rfl, Joins.ownsRow_le O2.out hs3, B6.out.setCell (by simp; omega) _⟩
end Go.Proofs.YtmfaonddhmhjeaaDoor
