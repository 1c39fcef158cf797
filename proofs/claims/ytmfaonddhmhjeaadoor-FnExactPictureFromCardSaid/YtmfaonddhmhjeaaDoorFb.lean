/- Contracts of single functions, and plain lemmas, on which the exact laws of this seat rest; each holds under the conditions that it states. -/
import Derived.Test.YtmfaonddhmhjeaaDoorFa
import Derived.Test.YtmfaonddhmhjeaaDoorBk
namespace Go.Proofs.YtmfaonddhmhjeaaDoor
set_option linter.unusedVariables false
set_option linter.unusedSimpArgs false
open Go.RowKit

theorem in_nat {x y : Int} {wd h : Nat} (hx : 0 ≤ x ∧ x ≤ (wd : Int) - 1) (hy : 0 ≤ y ∧ y ≤ (h : Int) - 1) : ∃ p q : Nat, (x, y) = ((p : Int), (q : Int)) ∧ p < wd ∧ q < h :=
  ⟨x.toNat, y.toNat, by rw [Int.toNat_of_nonneg hx.1, Int.toNat_of_nonneg hy.1], by omega, by omega⟩

set_option maxHeartbeats 2000000 in
set_option maxRecDepth 100000 in
theorem spec_From_yes (wd h b n cap : Nat) (xs : List (Int × Int)) (w : World) (hw : 1 ≤ wd ∧ wd ≤ 16) (hh : 1 ≤ h ∧ h ≤ 16) (hn : xs.length = n) (hN : n ≤ 1048576) (hv : Spots w b xs) (hin : InP wd h xs) :
    Calls Tryd.prog 8 #[.int .i64 wd, .int .i64 h, .slice (some ⟨b, 0, none⟩) n cap] w (SaysPic (mkPic wd h (anyS xs)) true w) := by
  have h1 := Lib.hid (inB_yes (n := (wd : Int)) (a := 1) (b := 16) (by omega) (by omega))
  have h2 := Lib.hid (inB_yes (n := (h : Int)) (a := 1) (b := 16) (by omega) (by omega))
  have C := Lib.hid (fun (W : World) (hS : Spots W b xs) => l01FromSpots_any wd h b n cap xs W hw hh hn hN hS hin)
  obtain ⟨pic, hpic⟩ : ∃ p, mkPic wd h (anyS xs) = p := ⟨_, rfl⟩
  rw [hpic] at C ⊢
  have HI := Lib.hid hin
  have HN := Lib.hid hn
  obtain ⟨W0, hW0⟩ : ∃ W0, w.alloc (.cells #[.slice none 0 0] 26) = W0 := ⟨_, rfl⟩
  have hb0 : Below w.heap.size w W0 := by rw [← hW0]; exact Joins.below_alloc1 w _
  have hP0 : W0.heap[w.heap.size]? = some (.cells #[.slice none 0 0] 26 (0, 0)) := by rw [← hW0]; exact heap_alloc_last w _
  have HS := Lib.hid (hv.below hb0)
  have P0 := Lib.hid hP0
  have B0 := Lib.hid hb0
  have HW := Lib.hid hW0
  obtain ⟨hw1, hw2⟩ := hw
  obtain ⟨hh1, hh2⟩ := hh
  clear hpic hin hn hv hb0 hP0 hW0
  go_enter Tryd.func8, Tryd.ntmps8
  go_wp2_with fail
  refine (l01Side_any _ _).mono ?_
  rintro e w' ⟨rfl, rfl⟩
  rw [h1.out]
  go_wp2_with fail
  refine (l01Side_any _ _).mono ?_
  rintro e w' ⟨rfl, rfl⟩
  rw [h2.out]
  go_wp2_with fail
  rw [HW.out]
  go_loop [8] (fun i => ∃ k : Nat, k ≤ n ∧ i = .int .i64 k) (fun i => n - (intOf i).toNat)
  case atStart => exact ⟨0, Nat.zero_le _, rfl⟩
  case round =>
    obtain ⟨k, hk, rfl⟩ := hrel
    by_cases hlt : k < n
    · obtain ⟨p, q, he, hp, hq⟩ := HI.out k (by rw [HN.out]; exact hlt)
      have hcx := (HS.out.2 k (by rw [HN.out]; exact hlt)).1
      have hcy := (HS.out.2 k (by rw [HN.out]; exact hlt)).2
      rw [he] at hcx hcy
      have e1 := Lib.hid (inB_yes (n := (p : Int)) (a := 0) (b := (wd : Int) - 1) (by omega) (by omega))
      have e2 := Lib.hid (inB_yes (n := (q : Int)) (a := 0) (b := (h : Int) - 1) (by omega) (by omega))
      have k6 : (0 : Int) ≤ (k : Int) := by omega
      have k7 : (k : Int) < (n : Int) := by omega
      clear he
      go_wp2_with fail
      refine (l00In_any _ _ _ _).mono ?_
      rintro e w' ⟨rfl, rfl⟩
      rw [e1.out]
      go_wp2_with fail
      refine (l00In_any _ _ _ _).mono ?_
      rintro e w' ⟨rfl, rfl⟩
      rw [e2.out]
      go_wp2
      go_round
      case rel => exact ⟨k + 1, by omega, by go_num⟩
      case measure => simp [intOf]; omega
    · obtain rfl : k = n := by omega
      go_wp2_with fail
      refine (C.out _ HS.out).mono ?_
      rintro e w2 ⟨g, cap2, rfl, hown2, hb2⟩
      have hp2 := (hb2.block w.heap.size (Array.getElem?_eq_some_iff.1 P0.out).1).trans P0.out
      have hfr : w2.frozen? ⟨w.heap.size, 0, none⟩ = false := free_of_one hp2
      have hc2 : w2.cell? ⟨w.heap.size, 0, none⟩ = some (.slice none 0 0) := cell_of_one hp2
      have O2 := Lib.hid (own_set (u := .slice (some ⟨g, 0, none⟩) pic.length cap2) hown2 hp2 (by decide))
      have P2 := Lib.hid hp2
      have hs0 := B0.out.size
      have B2 := Lib.hid (B0.out.trans (hb2.mono hs0))
      clear hown2 hp2 hb2
      go_wp2_with fail
      refine bodyPost_ret (v := .tuple #[.agg #[.slice (some ⟨g, 0, none⟩) pic.length cap2], .bool true]) (by simp [results, Tryd.results8, go_sem, cell_of_one (one_setCell P2.out)]) rfl ⟨_, _, _, rfl, Joins.ownsRow_le O2.out hs0, B2.out.setCell (by simp) _⟩

set_option maxHeartbeats 2000000 in
set_option maxRecDepth 100000 in
theorem spec_From_no (wd h b n cap : Nat) (xs : List (Int × Int)) (w : World) (hw : 1 ≤ wd ∧ wd ≤ 16) (hh : 1 ≤ h ∧ h ≤ 16) (hn : xs.length = n) (hN : n ≤ 1048576) (hv : Spots w b xs) (hin : ¬ InP wd h xs) :
    Calls Tryd.prog 8 #[.int .i64 wd, .int .i64 h, .slice (some ⟨b, 0, none⟩) n cap] w (SaysPic [] false w) := by
  have h1 := Lib.hid (inB_yes (n := (wd : Int)) (a := 1) (b := 16) (by omega) (by omega))
  have h2 := Lib.hid (inB_yes (n := (h : Int)) (a := 1) (b := 16) (by omega) (by omega))
  have HI := Lib.hid hin
  have HN := Lib.hid hn
  obtain ⟨W0, hW0⟩ : ∃ W0, w.alloc (.cells #[.slice none 0 0] 26) = W0 := ⟨_, rfl⟩
  have hb0 : Below w.heap.size w W0 := by rw [← hW0]; exact Joins.below_alloc1 w _
  have hP0 : W0.heap[w.heap.size]? = some (.cells #[.slice none 0 0] 26 (0, 0)) := by rw [← hW0]; exact heap_alloc_last w _
  have HS := Lib.hid (hv.below hb0)
  have hfr : W0.frozen? ⟨w.heap.size, 0, none⟩ = false := free_of_one hP0
  have hc2 : W0.cell? ⟨w.heap.size, 0, none⟩ = some (.slice none 0 0) := cell_of_one hP0
  have P0 := Lib.hid hP0
  have B0 := Lib.hid hb0
  have HW := Lib.hid hW0
  obtain ⟨hw1, hw2⟩ := hw
  obtain ⟨hh1, hh2⟩ := hh
  clear hin hn hv hb0 hP0 hW0
  go_enter Tryd.func8, Tryd.ntmps8
  go_wp2_with fail
  refine (l01Side_any _ _).mono ?_
  rintro e w' ⟨rfl, rfl⟩
  rw [h1.out]
  go_wp2_with fail
  refine (l01Side_any _ _).mono ?_
  rintro e w' ⟨rfl, rfl⟩
  rw [h2.out]
  go_wp2_with fail
  rw [HW.out]
  go_loop [8] (fun i => ∃ k : Nat, k ≤ n ∧ i = .int .i64 k ∧ Hid (∀ i, i < k → ∃ p q : Nat, (xs.getD i (0, 0)) = ((p : Int), (q : Int)) ∧ p < wd ∧ q < h)) (fun i => n - (intOf i).toNat)
  case atStart => exact ⟨0, Nat.zero_le _, rfl, fun i hi => by omega⟩
  case round =>
    obtain ⟨k, hk, rfl, H⟩ := hrel
    by_cases hlt : k < n
    · have hcx := (HS.out.2 k (by rw [HN.out]; exact hlt)).1
      have hcy := (HS.out.2 k (by rw [HN.out]; exact hlt)).2
      obtain ⟨x, y, he⟩ : ∃ x y, xs.getD k (0, 0) = (x, y) := ⟨_, _, rfl⟩
      rw [he] at hcx hcy
      have HE := Lib.hid he
      clear he
      have k6 : (0 : Int) ≤ (k : Int) := by omega
      have k7 : (k : Int) < (n : Int) := by omega
      by_cases hx : 0 ≤ x ∧ x ≤ (wd : Int) - 1
      · have e1 := Lib.hid (inB_yes hx.1 hx.2)
        by_cases hy : 0 ≤ y ∧ y ≤ (h : Int) - 1
        · have e2 := Lib.hid (inB_yes hy.1 hy.2)
          have hnat := Lib.hid (in_nat hx hy)
          clear hx hy
          go_wp2_with fail
          refine (l00In_any _ _ _ _).mono ?_
          rintro e w' ⟨rfl, rfl⟩
          rw [e1.out]
          go_wp2_with fail
          refine (l00In_any _ _ _ _).mono ?_
          rintro e w' ⟨rfl, rfl⟩
          rw [e2.out]
          go_wp2
          go_round
          case rel => exact ⟨k + 1, by omega, by go_num, fun i hi => by
            by_cases e : i = k
            · subst e; rw [HE.out]; exact hnat.out
            · exact H.out i (by omega)⟩
          case measure => simp [intOf]; omega
        · have e2 := Lib.hid (inB_no (n := y) (a := 0) (b := (h : Int) - 1) (by omega))
          clear hx hy
          go_wp2_with fail
          refine (l00In_any _ _ _ _).mono ?_
          rintro e w' ⟨rfl, rfl⟩
          rw [e1.out]
          go_wp2_with fail
          refine (l00In_any _ _ _ _).mono ?_
          rintro e w' ⟨rfl, rfl⟩
          rw [e2.out]
          go_wp2_with fail
          refine bodyPost_ret (v := .tuple #[.agg #[.slice none 0 0], .bool false]) (by simp [results, Tryd.results8, go_sem, cell_of_one (one_setCell P0.out)]) rfl ⟨_, _, _, rfl, World.ownsRow_nil _ _ _ _, B0.out.setCell (by simp) _⟩
      · have e1 := Lib.hid (inB_no (n := x) (a := 0) (b := (wd : Int) - 1) (by omega))
        clear hx
        go_wp2_with fail
        refine (l00In_any _ _ _ _).mono ?_
        rintro e w' ⟨rfl, rfl⟩
        rw [e1.out]
        go_wp2_with fail
        refine bodyPost_ret (v := .tuple #[.agg #[.slice none 0 0], .bool false]) (by simp [results, Tryd.results8, go_sem, cell_of_one (one_setCell P0.out)]) rfl ⟨_, _, _, rfl, World.ownsRow_nil _ _ _ _, B0.out.setCell (by simp) _⟩
    · exact absurd (show InP wd h xs from fun i hi => H.out i (by rw [HN.out] at hi; omega)) HI.out

set_option maxHeartbeats 1000000 in
set_option maxRecDepth 100000 in
theorem spec_From_side (a c : Int) (v : Value) (w : World) (h : ¬ ((1 ≤ a ∧ a ≤ 16) ∧ (1 ≤ c ∧ c ≤ 16))) : Calls Tryd.prog 8 #[.int .i64 a, .int .i64 c, v] w (SaysPic [] false w) := by
  have hP0 : Hid ((w.alloc (.cells #[.slice none 0 0] 26)).heap[w.heap.size]? = some (.cells #[.slice none 0 0] 26 (0, 0))) := heap_alloc_last w _
  by_cases ha : 1 ≤ a ∧ a ≤ 16
  · have h1 := Lib.hid (inB_yes ha.1 ha.2)
    have h2 := Lib.hid (inB_no (n := c) (a := 1) (b := 16) (by omega))
    clear h ha
    go_enter Tryd.func8, Tryd.ntmps8
    go_wp2_with fail
    refine (l01Side_any _ _).mono ?_
    rintro e w' ⟨rfl, rfl⟩
    rw [h1.out]
    go_wp2_with fail
    refine (l01Side_any _ _).mono ?_
    rintro e w' ⟨rfl, rfl⟩
    rw [h2.out]
    go_wp2_with fail
    refine bodyPost_ret (v := .tuple #[.agg #[.slice none 0 0], .bool false]) (by simp [results, Tryd.results8, go_sem, cell_of_one hP0.out]) rfl ⟨_, _, _, rfl, World.ownsRow_nil _ _ _ _, Joins.below_alloc1 w _⟩
  · have h1 := Lib.hid (inB_no (n := a) (a := 1) (b := 16) (by omega))
    clear h ha
    go_enter Tryd.func8, Tryd.ntmps8
    go_wp2_with fail
    refine (l01Side_any _ _).mono ?_
    rintro e w' ⟨rfl, rfl⟩
    rw [h1.out]
    go_wp2_with fail
    refine bodyPost_ret (v := .tuple #[.agg #[.slice none 0 0], .bool false]) (by simp [results, Tryd.results8, go_sem, cell_of_one hP0.out]) rfl ⟨_, _, _, rfl, World.ownsRow_nil _ _ _ _, Joins.below_alloc1 w _⟩
end Go.Proofs.YtmfaonddhmhjeaaDoor
