/- Contracts of single functions, and plain lemmas, on which the exact laws of this seat rest; each holds under the conditions that it states. -/
import Derived.Test.YtaopdhncapoefaaAx
import Derived.Test.YtaopdhncapoefaaAn
import Derived.Test.YtaopdhncapoefaaOc
namespace Go.Proofs.Ytaopdhncapoefaa
set_option linter.unusedVariables false
set_option linter.unusedSimpArgs false
open Go.RowKit Go.Maps

def condS (S : List (Int × Int)) : Bool := decide ((elL (memB S)).length = dC S S.length ∧ 1 ≤ dC S S.length ∧ dC S S.length ≤ 50)
def suOk (xs ys : List (Int × Int)) : Bool := elB xs && (elB ys && condS (sumL xs ys))
def suV (xs ys : List (Int × Int)) : List (Int × Int) := if suOk xs ys = true then elL (memB (sumL xs ys)) else []
theorem elB_small {xs : List (Int × Int)} (h : elB xs = true) : xs.length ≤ 50 := by
  by_cases e : xs.length ≤ 50
  · exact e
  · rw [elB_long e] at h; cases h
theorem elB_rng {xs : List (Int × Int)} (h : elB xs = true) (i : Nat) (hi : i < xs.length) : (-4 ≤ (xs.getD i (0, 0)).1 ∧ (xs.getD i (0, 0)).1 ≤ 4) ∧ (-4 ≤ (xs.getD i (0, 0)).2 ∧ (xs.getD i (0, 0)).2 ≤ 4) := by
  unfold elB at h
  rw [Bool.and_eq_true] at h
  have := List.all_eq_true.1 h.1 i (List.mem_range.2 hi)
  unfold stepOk at this
  rw [Bool.and_eq_true] at this
  exact (okO_iff _).1 this.1

set_option maxHeartbeats 4000000 in
set_option maxRecDepth 100000 in
theorem impl_Sum (u v : Value) (xs ys : List (Int × Int)) (w : World) (hN : xs.length ≤ 1048576) (hM : ys.length ≤ 1048576) (hwx : ∀ p ∈ xs, (Lit.int .i64 p.1).wf = true ∧ (Lit.int .i64 p.2).wf = true) (hwy : ∀ p ∈ ys, (Lit.int .i64 p.1).wf = true ∧ (Lit.int .i64 p.2).wf = true) (hu : SlS w u xs) (hv : SlS w v ys) :
    Calls Try.prog 9 #[.agg #[u], .agg #[v]] w (SaysElB (suV xs ys) (suOk xs ys) w) := by
  obtain ⟨W3, hW3⟩ : ∃ W3, (((w.alloc (.cells #[u] 28)).alloc (.cells #[v] 28)).alloc (.cells #[.slice none 0 0] 28)) = W3 := ⟨_, rfl⟩
  have hb0 : Below w.heap.size w W3 := by rw [← hW3]; exact Joins.below_alloc3 _ _ _ _
  have hs0 : W3.heap.size = w.heap.size + 1 + 1 + 1 := by rw [← hW3]; simp
  have hA : W3.heap[w.heap.size]? = some (.cells #[u] 28 (0, 0)) := by
    rw [← hW3, Below.heap_alloc _ _ _ (by simp; omega), Below.heap_alloc _ _ _ (by simp)]; exact heap_alloc_last w _
  have hBx : W3.heap[w.heap.size + 1]? = some (.cells #[v] 28 (0, 0)) := by
    rw [← hW3, Below.heap_alloc _ _ _ (by simp)]
    have := heap_alloc_last (w.alloc (.cells #[u] 28)) (.cells #[v] 28)
    rwa [World.size_alloc] at this
  have hR : W3.heap[w.heap.size + 1 + 1]? = some (.cells #[.slice none 0 0] 28 (0, 0)) := by
    rw [← hW3]
    have := heap_alloc_last ((w.alloc (.cells #[u] 28)).alloc (.cells #[v] 28)) (.cells #[.slice none 0 0] 28)
    simpa only [World.size_alloc] using this
  have HB0 := Lib.hid hb0
  have HV0 : Hid (∀ W, Below W3.heap.size W3 W → W.cell? ⟨w.heap.size, 0, none⟩ = some u ∧ W.cell? ⟨w.heap.size + 1, 0, none⟩ = some v ∧ W.heap[w.heap.size + 1 + 1]? = some (.cells #[.slice none 0 0] 28 (0, 0)) ∧ w.heap.size + 1 + 1 < W.heap.size) := fun W hb =>
    ⟨cell_kept hb (cell_of_one hA), cell_kept hb (cell_of_one hBx), (hb.block _ (by omega)).trans hR, by have := hb.size; omega⟩
  have CV1 := Lib.hid (fun W (hb : Below w.heap.size w W) => impl_ValidElement u xs W hN hwx (hu.below hb))
  have CV2 := Lib.hid (fun W (hb : Below w.heap.size w W) => impl_ValidElement v ys W hM hwy (hv.below hb))
  obtain ⟨ao, cap, rfl, hsx⟩ := sl_form hu
  obtain ⟨ao2, cap2, rfl, hsy⟩ := sl_form hv
  have HSx : Hid (∀ W, Below w.heap.size w W → 0 < xs.length → ∃ b, ao = some ⟨b, 0, none⟩ ∧ Spots W b xs) := fun W hb h => by
    obtain ⟨b, e, hs⟩ := hsx h
    exact ⟨b, e, hs.below hb⟩
  have HSy : Hid (∀ W, Below w.heap.size w W → 0 < ys.length → ∃ b, ao2 = some ⟨b, 0, none⟩ ∧ Spots W b ys) := fun W hb h => by
    obtain ⟨b, e, hs⟩ := hsy h
    exact ⟨b, e, hs.below hb⟩
  have HOk : Hid (suOk xs ys = (elB xs && (elB ys && condS (sumL xs ys)))) := rfl
  have HVal : Hid (suV xs ys = if suOk xs ys = true then elL (memB (sumL xs ys)) else []) := rfl
  have HSmx := Lib.hid (@elB_small xs)
  have HSmy := Lib.hid (@elB_small ys)
  have HRx := Lib.hid (@elB_rng xs)
  have HRy := Lib.hid (@elB_rng ys)
  have HW := Lib.hid hW3
  have c0 := (HV0.out W3 (Below.refl _ _)).1
  have l0 : w.heap.size + 1 + 1 < W3.heap.size := by omega
  clear hb0 hA hBx hR hu hv hsx hsy hwx hwy hW3
  go_enter Try.func9, Try.ntmps9
  go_wp2_with fail
  rw [HW.out]
  refine (CV1.out _ HB0.out).mono ?_
  rintro e w1 ⟨rfl, hb1⟩
  have V1 := Lib.hid hb1
  have B1 := Lib.hid (HB0.out.trans (hb1.mono (by omega)))
  obtain ⟨c0', c1, r1, l1⟩ := HV0.out w1 V1.out
  have R1 := Lib.hid r1
  have fr1 : w1.frozen? ⟨w.heap.size + 1 + 1, 0, none⟩ = false := free_of_one r1
  have cr1 : w1.cell? ⟨w.heap.size + 1 + 1, 0, none⟩ = some (.slice none 0 0) := cell_of_one r1
  clear hb1 c0 r1
  cases h1 : elB xs with
  | false =>
    rw [h1] at HOk
    have HO : Hid (suOk xs ys = false) := HOk.out
    have HVv : Hid (suV xs ys = []) := by show _ = _; rw [HVal.out, HO.out]; rfl
    go_wp2_with fail
    refine bodyPost_ret (v := .tuple #[.agg #[.slice none 0 0], .bool false]) (by simp [results, Try.results9, go_sem, cell_of_one (one_setCell (u := .slice none 0 0) R1.out), cell_of_one R1.out]) rfl ⟨none, 0, 0, by rw [HO.out], by rw [HVv.out]; exact World.ownsRow_nil _ _ _ _, by first | exact B1.out | exact B1.out.setCell (p := ⟨w.heap.size + 1 + 1, 0, none⟩) (by simp; omega) _⟩
  | true =>
    rw [h1] at HOk
    go_wp2_with fail
    refine (CV2.out _ B1.out).mono ?_
    rintro e w2 ⟨rfl, hb2⟩
    have V2 := Lib.hid (V1.out.trans (hb2.mono V1.out.size))
    have B2 := Lib.hid (B1.out.trans (hb2.mono B1.out.size))
    clear hb2 c0' c1 l1 fr1 cr1
    obtain ⟨c0, c1, r2, l2⟩ := HV0.out w2 V2.out
    have R2 := Lib.hid r2
    have fr2 : w2.frozen? ⟨w.heap.size + 1 + 1, 0, none⟩ = false := free_of_one r2
    have cr2 : w2.cell? ⟨w.heap.size + 1 + 1, 0, none⟩ = some (.slice none 0 0) := cell_of_one r2
    clear r2
    cases h2 : elB ys with
    | false =>
      rw [h2] at HOk
      have HO : Hid (suOk xs ys = false) := HOk.out
      have HVv : Hid (suV xs ys = []) := by show _ = _; rw [HVal.out, HO.out]; rfl
      go_wp2_with fail
      refine bodyPost_ret (v := .tuple #[.agg #[.slice none 0 0], .bool false]) (by simp [results, Try.results9, go_sem, cell_of_one (one_setCell (u := .slice none 0 0) R2.out), cell_of_one R2.out]) rfl ⟨none, 0, 0, by rw [HO.out], by rw [HVv.out]; exact World.ownsRow_nil _ _ _ _, by first | exact B2.out | exact B2.out.setCell (p := ⟨w.heap.size + 1 + 1, 0, none⟩) (by simp; omega) _⟩
    | true =>
      rw [h2] at HOk
      have hn50 := HSmx.out h1
      have hm50 := HSmy.out h2
      have HTk : Hid (∀ i k, i < xs.length → k < ys.length → (sumL xs ys).take (i * ys.length + k + 1) = (sumL xs ys).take (i * ys.length + k) ++ [((xs.getD i (0, 0)).1 + (ys.getD k (0, 0)).1, (xs.getD i (0, 0)).2 + (ys.getD k (0, 0)).2)] ∧ dC (sumL xs ys) (i * ys.length + k + 1) = if ((xs.getD i (0, 0)).1 + (ys.getD k (0, 0)).1, (xs.getD i (0, 0)).2 + (ys.getD k (0, 0)).2) ∈ (sumL xs ys).take (i * ys.length + k) then dC (sumL xs ys) (i * ys.length + k) else dC (sumL xs ys) (i * ys.length + k) + 1) := fun i k hi hk => by
        have hlt : i * ys.length + k < (sumL xs ys).length := by
          have : (i + 1) * ys.length ≤ xs.length * ys.length := Nat.mul_le_mul hi (Nat.le_refl _)
          rw [Nat.add_mul, Nat.one_mul] at this
          rw [sumL_len]; omega
        have h := take_more hlt
        rw [sumL_at xs ys hi hk] at h
        refine ⟨h, ?_⟩
        simp only [dC]
        rw [sumL_at xs ys hi hk]
      have HRx2 := Lib.hid (HRx.out h1)
      have HRy2 := Lib.hid (HRy.out h2)
      have HAllT : Hid ((sumL xs ys).take (xs.length * ys.length) = sumL xs ys ∧ (sumL xs ys).length = xs.length * ys.length) := ⟨by rw [← sumL_len]; exact List.take_length, sumL_len xs ys⟩
      have CEy := Lib.hid (fun b m W (hs : SetS W b m (dC (sumL xs ys) (sumL xs ys).length) (sumL xs ys)) (hc : condS (sumL xs ys) = true) => element_yes b m _ (sumL xs ys) W hs (of_decide_eq_true hc).1 (of_decide_eq_true hc).2.1 (of_decide_eq_true hc).2.2)
      have CEn := Lib.hid (fun b m W (hs : SetS W b m (dC (sumL xs ys) (sumL xs ys).length) (sumL xs ys)) (hc : condS (sumL xs ys) = false) => element_no b m _ (sumL xs ys) W hs (of_decide_eq_false hc))
      obtain ⟨L, hL⟩ : ∃ L, sumL xs ys = L := ⟨_, rfl⟩
      rw [hL] at HTk HAllT CEy CEn HOk HVal
      obtain ⟨n, hn⟩ : ∃ n, xs.length = n := ⟨_, rfl⟩
      obtain ⟨m, hm⟩ : ∃ m, ys.length = m := ⟨_, rfl⟩
      have Hn := Lib.hid hn
      have Hm := Lib.hid hm
      rw [hn] at HTk HRx2 HAllT HSx hn50 c0 ⊢
      rw [hm] at HTk HRy2 HAllT HSy hm50 c1 ⊢
      have c0m := cell_kept (Joins.below_alloc1 w2 (.map #[] 0)) c0
      have hmm := @run_makeMap Try.prog
      have S0 := Lib.hid (SetS.made w2)
      have Bm0 := Lib.hid (Joins.below_alloc1 w2 (.map #[] 0))
      have hw2 := B2.out.size
      clear hL hn hm HSmx HSmy HRx HRy HV0 CV1 CV2
      go_wp2
      go_loopw [24] (fun iv wr => ∃ i : Nat, i ≤ n ∧ iv = .int .i64 i ∧ Hid (SetS wr w2.heap.size (i * m) (dC L (i * m)) (L.take (i * m))) ∧ Hid (Below w2.heap.size w2 wr)) (fun iv _ => n - (intOf iv).toNat)
      case atStart => exact ⟨0, Nat.zero_le _, rfl, by rw [Nat.zero_mul]; exact S0.out, Bm0.out⟩
      case round =>
        clear S0 Bm0
        obtain ⟨i, hi, rfl, HS, HB⟩ := hrel
        have hsz := HB.out.size
        have c1w := cell_kept HB.out c1
        have lw : w.heap.size + 1 + 1 < wr.heap.size := by omega
        by_cases hlt : i < n
        · have klt : (i : Int) < (n : Int) := by omega
          obtain ⟨b, rfl, hbl, hcs⟩ := HSx.out _ (B2.out.trans (HB.out.mono hw2)) (by omega)
          have p0 := (hcs i (by rw [Hn.out]; exact hlt)).1
          have p1 := (hcs i (by rw [Hn.out]; exact hlt)).2
          have hrx := HRx2.out i hlt
          have HTi : Hid (∀ k, k < m → L.take (i * m + k + 1) = L.take (i * m + k) ++ [((xs.getD i (0, 0)).1 + (ys.getD k (0, 0)).1, (xs.getD i (0, 0)).2 + (ys.getD k (0, 0)).2)] ∧ dC L (i * m + k + 1) = if ((xs.getD i (0, 0)).1 + (ys.getD k (0, 0)).1, (xs.getD i (0, 0)).2 + (ys.getD k (0, 0)).2) ∈ L.take (i * m + k) then dC L (i * m + k) else dC L (i * m + k) + 1) := fun k hk => HTk.out i k hlt hk
          have him : i * m ≤ 2500 := Nat.mul_le_mul (Nat.le_trans hi hn50) hm50
          obtain ⟨x, hx⟩ : ∃ x, (xs.getD i (0, 0)).1 = x := ⟨_, rfl⟩
          obtain ⟨y, hy⟩ : ∃ y, (xs.getD i (0, 0)).2 = y := ⟨_, rfl⟩
          rw [hx] at p0 hrx HTi
          rw [hy] at p1 hrx HTi
          obtain ⟨⟨r1, r2⟩, r3, r4⟩ := hrx
          have hba := Joins.below_alloc1 wr (.cells #[.int .i64 x, .int .i64 y] 55)
          have c1a := cell_kept hba c1w
          have S1 := Lib.hid (HS.out.below hba)
          have B3 := Lib.hid (HB.out.alloc hsz (.cells #[.int .i64 x, .int .i64 y] 55))
          have O1 := Lib.hid (heap_alloc_last wr (.cells #[.int .i64 x, .int .i64 y] 55))
          obtain ⟨ob, hob⟩ : ∃ ob, wr.heap.size = ob := ⟨_, rfl⟩
          have hobl : w2.heap.size ≤ ob := by omega
          have hobx : ob < (wr.alloc (.cells #[.int .i64 x, .int .i64 y] 55)).heap.size := by simp; omega
          rw [hob] at O1
          clear hx hy hcs hba HS HB
          go_wp2
          go_loopw [31] (fun kv wr => ∃ k : Nat, k ≤ m ∧ kv = .int .i64 k ∧ Hid (SetS wr w2.heap.size (i * m + k) (dC L (i * m + k)) (L.take (i * m + k))) ∧ Hid (Below w2.heap.size w2 wr) ∧ Hid (wr.heap[ob]? = some (.cells #[.int .i64 x, .int .i64 y] 55 (0, 0)))) (fun kv _ => m - (intOf kv).toNat)
          case atStart => exact ⟨0, Nat.zero_le _, rfl, S1.out, B3.out, O1.out⟩
          case round =>
            clear S1 B3 O1
            obtain ⟨k, hk, rfl, HS, HB, HO⟩ := hrel
            have hsz2 := HB.out.size
            have hlo := (Array.getElem?_eq_some_iff.1 HO.out).1
            by_cases hltk : k < m
            · have kltk : (k : Int) < (m : Int) := by omega
              obtain ⟨b2, rfl, hbl2, hcs2⟩ := HSy.out _ (B2.out.trans (HB.out.mono hw2)) (by omega)
              have q0 := (hcs2 k (by rw [Hm.out]; exact hltk)).1
              have q1 := (hcs2 k (by rw [Hm.out]; exact hltk)).2
              obtain ⟨⟨s1, s2⟩, s3, s4⟩ := HRy2.out k hltk
              have htk := HTi.out k hltk
              obtain ⟨x2, hx2⟩ : ∃ x, (ys.getD k (0, 0)).1 = x := ⟨_, rfl⟩
              obtain ⟨y2, hy2⟩ : ∃ y, (ys.getD k (0, 0)).2 = y := ⟨_, rfl⟩
              rw [hx2] at q0 s1 s2 htk
              rw [hy2] at q1 s3 s4 htk
              have o0 : wr.cell? ⟨ob, 0, none⟩ = some (.int .i64 x) := by rw [Joins.cell_of_block HO.out 0]; rfl
              have o1 : wr.cell? ⟨ob, 1, none⟩ = some (.int .i64 y) := by rw [Joins.cell_of_block HO.out 1]; rfl
              have HTt := Lib.hid htk
              obtain ⟨t, ht⟩ : ∃ t, i * m + k = t := ⟨_, rfl⟩
              rw [ht] at HS HTt
              have ht25 : t ≤ 2600 := by omega
              have HTe := Lib.hid ht
              have hba := Joins.below_alloc1 wr (.cells #[.int .i64 x2, .int .i64 y2] 55)
              have S2 := Lib.hid (HS.out.below hba)
              have B4 := Lib.hid (HB.out.alloc hsz2 (.cells #[.int .i64 x2, .int .i64 y2] 55))
              have O2 := Lib.hid ((hba.block ob hlo).trans HO.out)
              have CPl := Lib.hid (fun W => plus_any x y x2 y2 W (by omega) (by omega) (by omega) (by omega))
              clear hx2 hy2 hcs2 hba HS HB HO htk ht
              go_wp2_with fail
              refine (CPl.out _).mono ?_
              rintro e w5 ⟨rfl, hb5⟩
              have S5 := Lib.hid (S2.out.below hb5)
              have B5 := Lib.hid (B4.out.trans (hb5.mono (by have := hsz2; simp; omega)))
              have O5 := Lib.hid ((hb5.block ob (by simp; omega)).trans O2.out)
              have hs5 := B5.out.size
              clear hb5 S2 B4 O2
              go_wp2_with (at_mapUpdate; refine wpList_put_spot rfl _ _ _ rfl Try.underlying53 w2.heap.size t (dC L t) (L.take t) rfl S5.out (by unfold maxLen; omega) (x + x2) (y + y2) rfl rfl (wfE (by omega) (by omega)) (wfE (by omega) (by omega)) _ HTt.out.2 ?_)
              intro w6 s6 hg6
              rw [← HTt.out.1] at s6
              have S6 := Lib.hid s6
              have B6 := Lib.hid (B5.out.grown hg6 hs5 (fun j hj => by cases hj; exact Nat.le_refl _))
              have O6 := Lib.hid (var_set O5.out S5.out hg6)
              clear s6 hg6 S5 B5 O5
              go_wp2
              go_roundw
              case rel => exact ⟨k + 1, by omega, by go_num, by rw [← Nat.add_assoc, HTe.out]; exact S6.out, B6.out, O6.out⟩
              case measure => simp [intOf]; omega
            · obtain rfl : k = m := by omega
              have e1 : i * k + k = (i + 1) * k := by rw [Nat.add_mul, Nat.one_mul]
              rw [e1] at HS
              clear e1
              go_wp2
              go_roundw
              case rel => exact ⟨i + 1, by omega, by go_num, HS.out, HB.out⟩
              case measure => simp [intOf]; omega
        · obtain rfl : i = n := by omega
          rw [HAllT.out.1, ← HAllT.out.2] at HS
          have R3 := Lib.hid ((HB.out.block _ l2).trans R2.out)
          have B3 := Lib.hid (B2.out.trans (HB.out.mono hw2))
          cases hc : condS L with
          | true =>
            rw [hc] at HOk
            have HO : Hid (suOk xs ys = true) := HOk.out
            have HVv : Hid (suV xs ys = elL (memB L)) := by show _ = _; rw [HVal.out, HO.out]; rfl
            have CE := Lib.hid (CEy.out _ _ _ HS.out hc)
            obtain ⟨E, hE⟩ : ∃ E, elL (memB L) = E := ⟨_, rfl⟩
            rw [hE] at CE HVv
            clear hE
            go_wp2_with fail
            refine CE.out.mono ?_
            rintro e w7 ⟨ao7, n7, cap7, rfl, hown, hb7⟩
            have hp7 := (hb7.block (w.heap.size + 1 + 1) lw).trans R3.out
            have hfr7 : w7.frozen? ⟨w.heap.size + 1 + 1, 0, none⟩ = false := free_of_one hp7
            have hc7 : w7.cell? ⟨w.heap.size + 1 + 1, 0, none⟩ = some (.slice none 0 0) := cell_of_one hp7
            have O7 := Lib.hid (own_set (u := .slice ao7 n7 cap7) hown hp7 (by decide))
            have P7 := Lib.hid (one_setCell (u := .slice ao7 n7 cap7) hp7)
            have B7 := Lib.hid ((B3.out.trans (hb7.mono B3.out.size)).setCell (p := ⟨w.heap.size + 1 + 1, 0, none⟩) (by simp; omega) (.slice ao7 n7 cap7))
            have hsz7 := B3.out.size
            clear hown hp7 hb7
            go_wp2_with fail
            refine bodyPost_ret (v := .tuple #[.agg #[.slice ao7 n7 cap7], .bool true]) (by simp [results, Try.results9, go_sem, cell_of_one P7.out]) rfl ⟨ao7, n7, cap7, by rw [HO.out], by rw [HVv.out]; exact Joins.ownsRow_le O7.out hsz7, B7.out⟩
          | false =>
            rw [hc] at HOk
            have HO : Hid (suOk xs ys = false) := HOk.out
            have HVv : Hid (suV xs ys = []) := by show _ = _; rw [HVal.out, HO.out]; rfl
            have CE := Lib.hid (CEn.out _ _ _ HS.out hc)
            go_wp2_with fail
            refine CE.out.mono ?_
            rintro e w7 ⟨ao7, n7, cap7, rfl, hown, hb7⟩
            have hp7 := (hb7.block (w.heap.size + 1 + 1) lw).trans R3.out
            have hfr7 : w7.frozen? ⟨w.heap.size + 1 + 1, 0, none⟩ = false := free_of_one hp7
            have hc7 : w7.cell? ⟨w.heap.size + 1 + 1, 0, none⟩ = some (.slice none 0 0) := cell_of_one hp7
            have O7 := Lib.hid (own_set (u := .slice ao7 n7 cap7) hown hp7 (by decide))
            have P7 := Lib.hid (one_setCell (u := .slice ao7 n7 cap7) hp7)
            have B7 := Lib.hid ((B3.out.trans (hb7.mono B3.out.size)).setCell (p := ⟨w.heap.size + 1 + 1, 0, none⟩) (by simp; omega) (.slice ao7 n7 cap7))
            have hsz7 := B3.out.size
            clear hown hp7 hb7
            go_wp2_with fail
            refine bodyPost_ret (v := .tuple #[.agg #[.slice ao7 n7 cap7], .bool false]) (by simp [results, Try.results9, go_sem, cell_of_one P7.out]) rfl ⟨ao7, n7, cap7, by rw [HO.out], by rw [HVv.out]; exact Joins.ownsRow_le O7.out hsz7, B7.out⟩
end Go.Proofs.Ytaopdhncapoefaa
