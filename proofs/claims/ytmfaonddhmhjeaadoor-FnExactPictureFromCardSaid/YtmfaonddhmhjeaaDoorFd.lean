/- Contracts of single functions, and plain lemmas, on which the exact laws of this seat rest; each holds under the conditions that it states. -/
import Derived.Test.YtmfaonddhmhjeaaDoorFb
import Derived.Test.YtmfaonddhmhjeaaDoorFc
namespace Go.Proofs.YtmfaonddhmhjeaaDoor
set_option linter.unusedVariables false
set_option linter.unusedSimpArgs false
open Go.RowKit

set_option maxHeartbeats 4000000 in
set_option maxRecDepth 100000 in
theorem impl_From_no (wd h b n cap : Nat) (xs : List (Int × Int)) (w : World) (hw : 1 ≤ wd ∧ wd ≤ 16) (hh : 1 ≤ h ∧ h ≤ 16) (hn : xs.length = n) (hN : n ≤ 1048576) (hv : Spots w b xs) (hin : ¬ InP wd h xs) :
    Calls Tryd.prog 10 #[.int .i64 wd, .int .i64 h, .slice (some ⟨b, 0, none⟩) n cap] w (SaysPic [] false w) := by
  have hM := Lib.hid (fun W => blankMatrix_yes (wd : Int) (h : Int) W (by omega) (by omega))
  have hsz := mcells_size (wd : Int) (h : Int) (fun _ => 0)
  have hone := mcells_one (wd : Int) (h : Int) (fun _ => 0)
  unfold RetMat at hM
  have HMM : Hid (mcells (wd : Int) (h : Int) (fun _ => 0) = mat wd h (fun _ => 0)) := rfl
  obtain ⟨M, hMe⟩ : ∃ M, mcells (wd : Int) (h : Int) (fun _ => 0) = M := ⟨_, rfl⟩
  rw [hMe] at hM hsz hone HMM
  have HI : Hid ((Tryd.prog.info? 66).map (·.size) = some M.size) := by show _ = _; rw [hsz]; exact infoM
  have HZ := Lib.hid (zeros_size.trans hsz.symm)
  have HO := Lib.hid hone
  have HP0 : Hid ((w.alloc (.cells #[.slice none 0 0] 26)).heap[w.heap.size]? = some (.cells #[.slice none 0 0] 26 (0, 0))) := heap_alloc_last w _
  have HIn := Lib.hid hin
  have HN := Lib.hid hn
  have HV := Lib.hid hv
  obtain ⟨hw1, hw2⟩ := hw
  obtain ⟨hh1, hh2⟩ := hh
  clear hsz hone hMe hin hn hv
  go_enter Tryd.func10, Tryd.ntmps10
  go_wp2_with fail
  refine (hM.out _).mono ?_
  rintro e w1 ⟨rfl, hb⟩
  have B1 : Hid (Below w.heap.size w w1) := (Joins.below_alloc1 w (.cells #[.slice none 0 0] 26)).trans (hb.mono (by simp))
  have P1 := Lib.hid ((hb.block w.heap.size (by simp)).trans HP0.out)
  have hs1 := B1.out.size
  have hl1 := (Array.getElem?_eq_some_iff.1 P1.out).1
  have S1 := Lib.hid (HV.out.below B1.out)
  have hb1 : b < w1.heap.size := Nat.lt_of_lt_of_le HV.out.1 hs1
  clear hb
  go_wp2_with (refine wpList_store_new w1 rfl 66 _ _ rfl M rfl rfl 66 zeros HI.out HZ.out HO.out ?_)
  go_loopw [23] (fun i wr => ∃ k : Nat, k ≤ n ∧ i = .int .i64 k ∧ Hid (∀ i, i < k → ∃ p q : Nat, (xs.getD i (0, 0)) = ((p : Int), (q : Int)) ∧ p < wd ∧ q < h) ∧ (∃ g, TuG wr w1.heap.size wd h g (fun _ _ => True) (anyS (xs.take k))) ∧ Below w1.heap.size w1 wr) (fun i _ => n - (intOf i).toNat)
  case atStart =>
    refine ⟨0, Nat.zero_le _, rfl, fun i hi => by omega, ⟨fun _ => 0, ?_⟩, Joins.below_alloc1 _ _⟩
    rw [anyS_zero]
    exact ⟨by rw [← HMM.out]; exact heap_alloc_last w1 _, fun _ => by omega, fun j i _ _ _ => by simp⟩
  case round =>
    obtain ⟨k, hk, rfl, H, ⟨g, hT⟩, hbel⟩ := hrel
    by_cases hlt : k < n
    · by_cases hin2 : ∃ p q : Nat, (xs.getD k (0, 0)) = ((p : Int), (q : Int)) ∧ p < wd ∧ q < h
      · obtain ⟨p, q, he, hp, hq⟩ := hin2
        have HE0 := Lib.hid (show ∃ p q : Nat, (xs.getD k (0, 0)) = ((p : Int), (q : Int)) ∧ p < wd ∧ q < h from ⟨p, q, he, hp, hq⟩)
        have hcx := (hbel.cell (p := ⟨b, k * 2, none⟩) hb1).trans (S1.out.2 k (by rw [HN.out]; exact hlt)).1
        have hcy := (hbel.cell (p := ⟨b, k * 2 + 1, none⟩) hb1).trans (S1.out.2 k (by rw [HN.out]; exact hlt)).2
        rw [he] at hcx hcy
        have HE := Lib.hid he
        have T1 := Lib.hid hT
        have B2 := Lib.hid hbel
        have hs2 := hbel.size
        have hl2 := (Array.getElem?_eq_some_iff.1 hT.c).1
        have HMa : Hid ((wr.alloc (.cells #[.int .i64 p, .int .i64 q] 42)).heap[w1.heap.size]? = some (.cells (mat wd h g) 66 (0, 0))) := by
          show _ = _
          rw [Below.heap_alloc _ _ _ hl2]; exact hT.c
        have HI2 : Hid ((Tryd.prog.info? 66).map (·.size) = some (mat wd h g).size) := infoM
        have HH : Hid (∀ W, Calls Tryd.prog 38 #[.agg (mat wd h g), .int .i64 p, .int .i64 q] W (SaysB true W)) := fun W => by
          have := has_any (mat wd h g) wd h (fun j => (g j : Int)) p q W ⟨rfl⟩
          rwa [has_at hp hq] at this
        have HSt : Hid (∀ W, W.heap[w1.heap.size]? = some (.cells (mat wd h g) 66 (0, 0)) → Calls Tryd.prog 39 #[.pointer (some ⟨w1.heap.size, 0, none⟩), .int .i64 p, .int .i64 q, .bool true] W (Setted W w1.heap.size wd h g q p true)) := fun W hm =>
          set_any w1.heap.size wd h g p q true W hm (by omega) (by omega) (hT.lt q)
        unfold Setted at HSt
        have hp16 : p < 16 := by omega
        have k6 : (0 : Int) ≤ (k : Int) := by omega
        have k7 : (k : Int) < (n : Int) := by omega
        obtain ⟨M2, hM2⟩ : ∃ M2, mat wd h g = M2 := ⟨_, rfl⟩
        rw [hM2] at HMa HI2 HH HSt
        have hx : (wr.alloc (.cells #[.int .i64 p, .int .i64 q] 42)).heap[wr.heap.size]? = some (.cells #[.int .i64 p, .int .i64 q] 42 (0, 0)) := heap_alloc_last wr _
        have HX := Lib.hid hx
        clear hT hbel he hM2 hx hp hq
        go_wp2_with (refine wpList_load_row rfl 66 _ rfl w1.heap.size rfl 66 M2 (0, 0) _ HMa.out Tryd.underlying66 rfl HI2.out ?_)
        refine (HH.out _).mono ?_
        rintro e w4 ⟨rfl, hb4⟩
        have h4 := (hb4.block wr.heap.size (by simp)).trans HX.out
        have x4 : w4.cell? ⟨wr.heap.size, 0, none⟩ = some (.int .i64 p) := (Joins.cell_of_block h4 0).trans rfl
        have y4 : w4.cell? ⟨wr.heap.size, 1, none⟩ = some (.int .i64 q) := (Joins.cell_of_block h4 1).trans rfl
        have M4 := Lib.hid ((hb4.block w1.heap.size (by simp; omega)).trans HMa.out)
        have B4 : Hid (Below w1.heap.size w1 w4) := (B2.out.alloc hs2 _).trans (hb4.mono (by simp; omega))
        clear hb4 h4 hcx hcy
        go_wp2_with fail
        refine (HSt.out _ M4.out).mono ?_
        rintro e w5 ⟨rfl, hm5, hb5⟩
        have T5 := Lib.hid (T1.out.spot (by rw [HN.out]; exact hlt) HE.out hw2 hp16 hm5)
        have B5 : Hid (Below w1.heap.size w1 w5) := B4.out.trans hb5
        clear hm5 hb5 x4 y4
        go_wp2
        go_roundw
        case rel => exact ⟨k + 1, by omega, by go_num, fun i hi => by
            by_cases e : i = k
            · subst e; exact HE0.out
            · exact H.out i (by omega), ⟨_, T5.out⟩, B5.out⟩
        case measure => simp [intOf]; omega
      · have hcx := (hbel.cell (p := ⟨b, k * 2, none⟩) hb1).trans (S1.out.2 k (by rw [HN.out]; exact hlt)).1
        have hcy := (hbel.cell (p := ⟨b, k * 2 + 1, none⟩) hb1).trans (S1.out.2 k (by rw [HN.out]; exact hlt)).2
        obtain ⟨x, y, he⟩ : ∃ x y, xs.getD k (0, 0) = (x, y) := ⟨_, _, rfl⟩
        have hno : hasB wd h x y = false := has_not fun ⟨hx, hy⟩ => hin2 (by rw [he]; exact in_nat hx hy)
        rw [he] at hcx hcy
        have B2 := Lib.hid hbel
        have hs2 := hbel.size
        have hl2 := (Array.getElem?_eq_some_iff.1 hT.c).1
        have HMa : Hid ((wr.alloc (.cells #[.int .i64 x, .int .i64 y] 42)).heap[w1.heap.size]? = some (.cells (mat wd h g) 66 (0, 0))) := by
          show _ = _
          rw [Below.heap_alloc _ _ _ hl2]; exact hT.c
        have HI2 : Hid ((Tryd.prog.info? 66).map (·.size) = some (mat wd h g).size) := infoM
        have HH : Hid (∀ W, Calls Tryd.prog 38 #[.agg (mat wd h g), .int .i64 x, .int .i64 y] W (SaysB false W)) := fun W => by
          have := has_any (mat wd h g) wd h (fun j => (g j : Int)) x y W ⟨rfl⟩
          rwa [hno] at this
        have hp2 := (hbel.block w.heap.size hl1).trans P1.out
        have P2 := Lib.hid hp2
        have hl4 := (Array.getElem?_eq_some_iff.1 hp2).1
        have hbw := hbel.mono hs1
        have BW : Hid (Below w.heap.size w wr) := B1.out.trans hbw
        have k6 : (0 : Int) ≤ (k : Int) := by omega
        have k7 : (k : Int) < (n : Int) := by omega
        obtain ⟨M2, hM2⟩ : ∃ M2, mat wd h g = M2 := ⟨_, rfl⟩
        rw [hM2] at HMa HI2 HH
        clear hT hbel hM2 he hno hin2 hp2 hbw
        go_wp2_with (refine wpList_load_row rfl 66 _ rfl w1.heap.size rfl 66 M2 (0, 0) _ HMa.out Tryd.underlying66 rfl HI2.out ?_)
        refine (HH.out _).mono ?_
        rintro e w4 ⟨rfl, hb4⟩
        have P4 := Lib.hid ((hb4.block w.heap.size (by simp; omega)).trans ((Below.heap_alloc wr _ _ hl4).trans P2.out))
        have hfr : w4.frozen? ⟨w.heap.size, 0, none⟩ = false := free_of_one P4.out
        have hc2 : w4.cell? ⟨w.heap.size, 0, none⟩ = some (.slice none 0 0) := cell_of_one P4.out
        have hsw := BW.out.size
        have B4 : Hid (Below w.heap.size w w4) := (BW.out.alloc hsw _).trans (hb4.mono (by simp; omega))
        clear hb4 hcx hcy
        go_wp2_with fail
        refine bodyPost_ret (v := .tuple #[.agg #[.slice none 0 0], .bool false]) (by simp [results, Tryd.results10, go_sem, cell_of_one (one_setCell P4.out)]) rfl ⟨_, _, _, rfl, World.ownsRow_nil _ _ _ _, B4.out.setCell (by simp) _⟩
    · exact absurd (show InP wd h xs from fun i hi => H.out i (by rw [HN.out] at hi; omega)) HIn.out

set_option maxHeartbeats 1000000 in
set_option maxRecDepth 100000 in
theorem impl_From_side (a c : Int) (v : Value) (w : World) (h : ¬ ((1 ≤ a ∧ a ≤ 16) ∧ (1 ≤ c ∧ c ≤ 16))) : Calls Tryd.prog 10 #[.int .i64 a, .int .i64 c, v] w (SaysPic [] false w) := by
  have hM := Lib.hid (fun W => blankMatrix_no a c W h)
  have hsz := mcells_size 0 0 (fun _ => 0)
  have hone := mcells_one 0 0 (fun _ => 0)
  unfold RetMat at hM
  obtain ⟨M, hMe⟩ : ∃ M, mcells 0 0 (fun _ => 0) = M := ⟨_, rfl⟩
  rw [hMe] at hM hsz hone
  have HI : Hid ((Tryd.prog.info? 66).map (·.size) = some M.size) := by show _ = _; rw [hsz]; exact infoM
  have HZ := Lib.hid (zeros_size.trans hsz.symm)
  have HO := Lib.hid hone
  have hP0 : Hid ((w.alloc (.cells #[.slice none 0 0] 26)).heap[w.heap.size]? = some (.cells #[.slice none 0 0] 26 (0, 0))) := heap_alloc_last w _
  clear hsz hone hMe h
  go_enter Tryd.func10, Tryd.ntmps10
  go_wp2_with fail
  refine (hM.out _).mono ?_
  rintro e w1 ⟨rfl, hb⟩
  have hp1 := (hb.block w.heap.size (by simp)).trans hP0.out
  have HB : Hid (Below w.heap.size w w1) := (Joins.below_alloc1 w (.cells #[.slice none 0 0] 26)).trans (hb.mono (by simp))
  have hs1 := HB.out.size
  have hl1 := (Array.getElem?_eq_some_iff.1 hp1).1
  have hp2 := (Below.heap_alloc w1 (.cells M 66) _ hl1).trans hp1
  have hfr : (w1.alloc (.cells M 66)).frozen? ⟨w.heap.size, 0, none⟩ = false := free_of_one hp2
  have hc2 : (w1.alloc (.cells M 66)).cell? ⟨w.heap.size, 0, none⟩ = some (.slice none 0 0) := cell_of_one hp2
  have HX := Lib.hid (after_alloc (M := M) (t2 := 66) (u := .slice none 0 0) hp1 HB.out (Nat.le_refl _))
  clear hb hp1 hp2
  go_wp2_with (refine wpList_store_new w1 rfl 66 _ _ rfl M rfl rfl 66 zeros HI.out HZ.out HO.out ?_)
  refine bodyPost_ret (v := .tuple #[.agg #[.slice none 0 0], .bool false]) (by simp [results, Tryd.results10, go_sem, HX.out.1]) rfl ⟨_, _, _, rfl, World.ownsRow_nil _ _ _ _, HX.out.2⟩

/-- what both say -/
theorem both_From (a c : Int) (xs : List (Int × Int)) (hN : xs.length ≤ 1048576) : ∃ (P : List ByteArray) (ok : Bool), P.length ≤ 16 ∧
    (∀ b cap W, Spots W b xs → Calls Tryd.prog 8 #[.int .i64 a, .int .i64 c, .slice (some ⟨b, 0, none⟩) xs.length cap] W (SaysPic P ok W)) ∧
    (∀ b cap W, Spots W b xs → Calls Tryd.prog 10 #[.int .i64 a, .int .i64 c, .slice (some ⟨b, 0, none⟩) xs.length cap] W (SaysPic P ok W)) := by
  by_cases h : (1 ≤ a ∧ a ≤ 16) ∧ (1 ≤ c ∧ c ≤ 16)
  · obtain ⟨⟨h1, h2⟩, h3, h4⟩ := h
    obtain ⟨wd, rfl⟩ := Int.eq_ofNat_of_zero_le (show 0 ≤ a by omega)
    obtain ⟨hh, rfl⟩ := Int.eq_ofNat_of_zero_le (show 0 ≤ c by omega)
    by_cases hin : InP wd hh xs
    · exact ⟨mkPic wd hh (anyS xs), true, by rw [mkPic_len]; omega, fun b cap W hv => spec_From_yes wd hh b _ cap xs W (by omega) (by omega) rfl hN hv hin, fun b cap W hv => impl_From_yes wd hh b _ cap xs W (by omega) (by omega) rfl hN hv hin⟩
    · exact ⟨[], false, by simp, fun b cap W hv => spec_From_no wd hh b _ cap xs W (by omega) (by omega) rfl hN hv hin, fun b cap W hv => impl_From_no wd hh b _ cap xs W (by omega) (by omega) rfl hN hv hin⟩
  · exact ⟨[], false, by simp, fun b cap W hv => spec_From_side a c _ W h, fun b cap W hv => impl_From_side a c _ W h⟩
end Go.Proofs.YtmfaonddhmhjeaaDoor
