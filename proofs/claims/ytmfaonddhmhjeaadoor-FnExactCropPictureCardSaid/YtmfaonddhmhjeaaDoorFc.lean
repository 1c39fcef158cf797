/- Contracts of single functions, and plain lemmas, on which the exact laws of this seat rest; each holds under the conditions that it states. -/
import Derived.Test.YtmfaonddhmhjeaaDoorFa
import Derived.Test.YtmfaonddhmhjeaaDoorTu
import Derived.Test.YtmfaonddhmhjeaaDoorBk
namespace Go.Proofs.YtmfaonddhmhjeaaDoor
set_option linter.unusedVariables false
set_option linter.unusedSimpArgs false
open Go.RowKit

theorem TuG.spot {W W' : World} {t wd h k p q : Nat} {g : Nat → Nat} {xs : List (Int × Int)} (H : TuG W t wd h g (fun _ _ => True) (anyS (xs.take k))) (hk : k < xs.length) (he : xs.getD k (0, 0) = ((p : Int), (q : Int))) (hw : wd ≤ 16) (hp : p < 16)
    (hc : W'.heap[t]? = some (.cells (mat wd h (updG g q p true)) 66 (0, 0))) : TuG W' t wd h (updG g q p true) (fun _ _ => True) (anyS (xs.take (k + 1))) := by
  refine ⟨hc, upd_all H.lt q p true hp, fun j i hj hi h2 => ?_⟩
  have h0 := H.bit j i hj hi trivial
  rw [anyS_take xs k hk, he]
  unfold updG
  by_cases h1 : j = q
  · subst h1
    rw [if_pos rfl, upd_bit _ _ _ _ hp (by omega)]
    by_cases h3 : i = p
    · subst h3; rw [if_pos rfl]; simp
    · rw [if_neg h3, h0]
      rw [show decide ((p : Int) = (i : Int)) = false from decide_eq_false (by omega)]
      simp
  · rw [if_neg h1, h0]
    show _ = (anyS (xs.take k) j i || (decide ((p : Int) = (i : Int)) && decide ((q : Int) = (j : Int))))
    rw [show decide ((q : Int) = (j : Int)) = false from decide_eq_false (by omega)]
    simp

theorem has_at {wd h p q : Nat} (hp : p < wd) (hq : q < h) : hasB wd h p q = true := by
  unfold hasB
  simp only [Bool.and_eq_true, decide_eq_true_eq]
  omega
theorem has_not {wd h : Nat} {x y : Int} (hno : ¬ ((0 ≤ x ∧ x ≤ (wd : Int) - 1) ∧ (0 ≤ y ∧ y ≤ (h : Int) - 1))) : hasB wd h x y = false := by
  cases hb : hasB wd h x y with
  | false => rfl
  | true =>
    unfold hasB at hb
    simp only [Bool.and_eq_true, decide_eq_true_eq] at hb
    exact absurd ⟨⟨by omega, by omega⟩, by omega, by omega⟩ hno

set_option maxHeartbeats 4000000 in
set_option maxRecDepth 100000 in
theorem impl_From_yes (wd h b n cap : Nat) (xs : List (Int × Int)) (w : World) (hw : 1 ≤ wd ∧ wd ≤ 16) (hh : 1 ≤ h ∧ h ≤ 16) (hn : xs.length = n) (hN : n ≤ 1048576) (hv : Spots w b xs) (hin : InP wd h xs) :
    Calls Tryd.prog 10 #[.int .i64 wd, .int .i64 h, .slice (some ⟨b, 0, none⟩) n cap] w (SaysPic (mkPic wd h (anyS xs)) true w) := by
  have hM := Lib.hid (fun W => blankMatrix_yes (wd : Int) (h : Int) W (by omega) (by omega))
  have hsz := mcells_size (wd : Int) (h : Int) (fun _ => 0)
  have hone := mcells_one (wd : Int) (h : Int) (fun _ => 0)
  unfold RetMat at hM
  have HMM : Hid (mcells (wd : Int) (h : Int) (fun _ => 0) = mat wd h (fun _ => 0)) := rfl
  obtain ⟨M, hMe⟩ : ∃ M, mcells (wd : Int) (h : Int) (fun _ => 0) = M := ⟨_, rfl⟩
  rw [hMe] at hM hsz hone HMM
  have HI : Hid ((Tryd.prog.info? 66).map (·.size) = some M.size) := by show _ = _; rw [hsz]; exact infoM
  have HZ := Lib.hid (zeros_size.trans hsz.symm)
  have HO := Lib.hid hone
  have HP0 : Hid ((w.alloc (.cells #[.slice none 0 0] 26)).heap[w.heap.size]? = some (.cells #[.slice none 0 0] 26 (0, 0))) := heap_alloc_last w _
  have HIn := Lib.hid hin
  have HN := Lib.hid hn
  have HV := Lib.hid hv
  have HPi : Hid (∀ g W, (∀ j, g j < 4294967296) → mkPic wd h (fun y x => blackB wd h g x y) = mkPic wd h (anyS xs) → Calls Tryd.prog 40 #[.agg (mat wd h g)] W (TookPic W (mkPic wd h (anyS xs)))) := fun g W hg e => by
    have := picture_any (mat wd h g) wd h g W rfl hw.2 hh.2 hg
    rwa [e] at this
  obtain ⟨pic, hpic⟩ : ∃ p, mkPic wd h (anyS xs) = p := ⟨_, rfl⟩
  rw [hpic] at HPi ⊢
  have HPic := Lib.hid hpic
  obtain ⟨hw1, hw2⟩ := hw
  obtain ⟨hh1, hh2⟩ := hh
  clear hsz hone hMe hin hn hv hpic
  go_enter Tryd.func10, Tryd.ntmps10
  go_wp2_with fail
  refine (hM.out _).mono ?_
  rintro e w1 ⟨rfl, hb⟩
  have B1 : Hid (Below w.heap.size w w1) := (Joins.below_alloc1 w (.cells #[.slice none 0 0] 26)).trans (hb.mono (by simp))
  have P1 := Lib.hid ((hb.block w.heap.size (by simp)).trans HP0.out)
  have hs1 := B1.out.size
  have hl1 := (Array.getElem?_eq_some_iff.1 P1.out).1
  have S1 := Lib.hid (HV.out.below B1.out)
  have hb1 : b < w1.heap.size := Nat.lt_of_lt_of_le HV.out.1 hs1
  clear hb
  go_wp2_with (refine wpList_store_new w1 rfl 66 _ _ rfl M rfl rfl 66 zeros HI.out HZ.out HO.out ?_)
  go_loopw [23] (fun i wr => ∃ k : Nat, k ≤ n ∧ i = .int .i64 k ∧ (∃ g, TuG wr w1.heap.size wd h g (fun _ _ => True) (anyS (xs.take k))) ∧ Below w1.heap.size w1 wr) (fun i _ => n - (intOf i).toNat)
  case atStart =>
    refine ⟨0, Nat.zero_le _, rfl, ⟨fun _ => 0, ?_⟩, Joins.below_alloc1 _ _⟩
    rw [anyS_zero]
    exact ⟨by rw [← HMM.out]; exact heap_alloc_last w1 _, fun _ => by omega, fun j i _ _ _ => by simp⟩
  case round =>
    obtain ⟨k, hk, rfl, ⟨g, hT⟩, hbel⟩ := hrel
    by_cases hlt : k < n
    · obtain ⟨p, q, he, hp, hq⟩ := HIn.out k (by rw [HN.out]; exact hlt)
      have hcx := (hbel.cell (p := ⟨b, k * 2, none⟩) hb1).trans (S1.out.2 k (by rw [HN.out]; exact hlt)).1
      have hcy := (hbel.cell (p := ⟨b, k * 2 + 1, none⟩) hb1).trans (S1.out.2 k (by rw [HN.out]; exact hlt)).2
      rw [he] at hcx hcy
      have HE := Lib.hid he
      have T1 := Lib.hid hT
      have B2 := Lib.hid hbel
      have hs2 := hbel.size
      have hl2 := (Array.getElem?_eq_some_iff.1 hT.c).1
      have HMa : Hid ((wr.alloc (.cells #[.int .i64 p, .int .i64 q] 42)).heap[w1.heap.size]? = some (.cells (mat wd h g) 66 (0, 0))) := by
        show _ = _
        rw [Below.heap_alloc _ _ _ hl2]; exact hT.c
      have HI2 : Hid ((Tryd.prog.info? 66).map (·.size) = some (mat wd h g).size) := infoM
      have HH : Hid (∀ W, Calls Tryd.prog 38 #[.agg (mat wd h g), .int .i64 p, .int .i64 q] W (SaysB true W)) := fun W => by
        have := has_any (mat wd h g) wd h (fun j => (g j : Int)) p q W ⟨rfl⟩
        rwa [has_at hp hq] at this
      have HSt : Hid (∀ W, W.heap[w1.heap.size]? = some (.cells (mat wd h g) 66 (0, 0)) → Calls Tryd.prog 39 #[.pointer (some ⟨w1.heap.size, 0, none⟩), .int .i64 p, .int .i64 q, .bool true] W (Setted W w1.heap.size wd h g q p true)) := fun W hm =>
        set_any w1.heap.size wd h g p q true W hm (by omega) (by omega) (hT.lt q)
      unfold Setted at HSt
      have hp16 : p < 16 := by omega
      have k6 : (0 : Int) ≤ (k : Int) := by omega
      have k7 : (k : Int) < (n : Int) := by omega
      obtain ⟨M2, hM2⟩ : ∃ M2, mat wd h g = M2 := ⟨_, rfl⟩
      rw [hM2] at HMa HI2 HH HSt
      have hx : (wr.alloc (.cells #[.int .i64 p, .int .i64 q] 42)).heap[wr.heap.size]? = some (.cells #[.int .i64 p, .int .i64 q] 42 (0, 0)) := heap_alloc_last wr _
      have HX := Lib.hid hx
      clear hT hbel he hM2 hx hp hq
      go_wp2_with (refine wpList_load_row rfl 66 _ rfl w1.heap.size rfl 66 M2 (0, 0) _ HMa.out Tryd.underlying66 rfl HI2.out ?_)
      refine (HH.out _).mono ?_
      rintro e w4 ⟨rfl, hb4⟩
      have h4 := (hb4.block wr.heap.size (by simp)).trans HX.out
      have x4 : w4.cell? ⟨wr.heap.size, 0, none⟩ = some (.int .i64 p) := (Joins.cell_of_block h4 0).trans rfl
      have y4 : w4.cell? ⟨wr.heap.size, 1, none⟩ = some (.int .i64 q) := (Joins.cell_of_block h4 1).trans rfl
      have M4 := Lib.hid ((hb4.block w1.heap.size (by simp; omega)).trans HMa.out)
      have B4 : Hid (Below w1.heap.size w1 w4) := (B2.out.alloc hs2 _).trans (hb4.mono (by simp; omega))
      clear hb4 h4 hcx hcy
      go_wp2_with fail
      refine (HSt.out _ M4.out).mono ?_
      rintro e w5 ⟨rfl, hm5, hb5⟩
      have T5 := Lib.hid (T1.out.spot (by rw [HN.out]; exact hlt) HE.out hw2 hp16 hm5)
      have B5 : Hid (Below w1.heap.size w1 w5) := B4.out.trans hb5
      clear hm5 hb5 x4 y4
      go_wp2
      go_roundw
      case rel => exact ⟨k + 1, by omega, by go_num, ⟨_, T5.out⟩, B5.out⟩
      case measure => simp [intOf]; omega
    · obtain rfl : k = n := by omega
      rw [List.take_of_length_le (by rw [HN.out]; exact Nat.le_refl _)] at hT
      have hpe := hT.pic (fun _ _ _ _ => trivial)
      have C4 := Lib.hid (fun W => HPi.out g W hT.lt (hpe.trans HPic.out))
      have B3 : Hid (Below w.heap.size w wr) := B1.out.trans (hbel.mono hs1)
      have P3 := Lib.hid ((hbel.block w.heap.size hl1).trans P1.out)
      have M3 := Lib.hid hT.c
      have HI2 : Hid ((Tryd.prog.info? 66).map (·.size) = some (mat wd h g).size) := infoM
      obtain ⟨M2, hM2⟩ : ∃ M2, mat wd h g = M2 := ⟨_, rfl⟩
      rw [hM2] at M3 HI2 C4
      clear hT hbel hM2 hpe
      go_wp2_with (refine wpList_load_row rfl 66 _ rfl w1.heap.size rfl 66 M2 (0, 0) _ M3.out Tryd.underlying66 rfl HI2.out ?_)
      refine (C4.out _).mono ?_
      rintro e w4 ⟨g4, cap4, rfl, hown4, hb4⟩
      have hp2 := (hb4.block w.heap.size (Array.getElem?_eq_some_iff.1 P3.out).1).trans P3.out
      have hfr : w4.frozen? ⟨w.heap.size, 0, none⟩ = false := free_of_one hp2
      have hc2 : w4.cell? ⟨w.heap.size, 0, none⟩ = some (.slice none 0 0) := cell_of_one hp2
      have O2 := Lib.hid (own_set (u := .slice (some ⟨g4, 0, none⟩) pic.length cap4) hown4 hp2 (by decide))
      have P4 := Lib.hid hp2
      have B4 := Lib.hid (B3.out.trans (hb4.mono B3.out.size))
      have hs3 := B3.out.size
      clear hown4 hp2 hb4
      go_wp2_with fail
      refine bodyPost_ret (v := .tuple #[.agg #[.slice (some ⟨g4, 0, none⟩) pic.length cap4], .bool true]) (by simp [results, Tryd.results10, go_sem, cell_of_one (one_setCell P4.out)]) rfl ⟨_, _, _, rfl, Joins.ownsRow_le O2.out hs3, B4.out.setCell (by simp) _⟩
end Go.Proofs.YtmfaonddhmhjeaaDoor
