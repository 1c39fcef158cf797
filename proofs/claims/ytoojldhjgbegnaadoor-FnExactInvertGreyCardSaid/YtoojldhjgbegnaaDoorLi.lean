/- Contracts of single functions, and plain lemmas, on which the exact laws of this seat rest; each holds under the conditions that it states. -/
import Derived.Test.YtoojldhjgbegnaaDoorPb
import Derived.Test.YtoojldhjgbegnaaDoorMq
namespace Go.Proofs.YtoojldhjgbegnaaDoor
set_option linter.unusedVariables false
open Go.RowKit

theorem ret_b {a b : Bool} (h : a = b) : Ending.returned (.bool a) = .returned (.bool b) := by rw [h]

set_option maxHeartbeats 1600000 in
set_option maxRecDepth 100000 in
theorem l01Like_any (pb qb : Nat) (u v : Value) (ss tt : List ByteArray) (w : World) (hp : w.cell? ⟨pb, 0, none⟩ = some u) (hu : Sl w u ss) (hN : ss.length ≤ maxLen) (hz : ∀ s ∈ ss, s.size ≤ maxLen)
    (hq : w.cell? ⟨qb, 0, none⟩ = some v) (hv : Sl w v tt) (hN2 : tt.length ≤ maxLen) (hz2 : ∀ s ∈ tt, s.size ≤ maxLen) :
    Calls Tryd.prog 38 #[.pointer (some ⟨pb, 0, none⟩), .pointer (some ⟨qb, 0, none⟩)] w (SaysB (likeB ss tt) w) := by
  have C1 := Lib.hid (l01Is_any pb 0 u ss w hp hu hN hz)
  have C2 : Hid (∀ W, Below w.heap.size w W → Calls Tryd.prog 71 #[.pointer (some ⟨qb, 0, none⟩)] W (SaysB (validB tt) W)) := fun W hb => l01Is_any qb 0 v tt W (cell_kept hb hq) (hv.below hb) hN2 hz2
  cases h1 : validB ss with
  | false =>
    have e : Hid (likeB ss tt = false) := by show likeB ss tt = _; unfold likeB; rw [h1]; rfl
    rw [h1] at C1
    clear h1 hp hu hq hv
    go_enter Tryd.func38, Tryd.ntmps38
    go_wp2_with fail
    refine C1.out.mono ?_
    rintro e w1 ⟨rfl, hb1⟩
    have HB := Lib.hid hb1
    clear hb1
    go_wp2_with fail
    go_ret
    exact ⟨ret_b (a := false) e.out.symm, HB.out⟩
  | true =>
    rw [h1] at C1
    cases h2 : validB tt with
    | false =>
      have e : Hid (likeB ss tt = false) := by show likeB ss tt = _; unfold likeB; rw [h2]; simp
      rw [h2] at C2
      clear h1 h2 hp hu hq hv
      go_enter Tryd.func38, Tryd.ntmps38
      go_wp2_with fail
      refine C1.out.mono ?_
      rintro e w1 ⟨rfl, hb1⟩
      have HB := Lib.hid hb1
      clear hb1
      go_wp2_with fail
      refine (C2.out _ HB.out).mono ?_
      rintro e w2 ⟨rfl, hb2⟩
      have HB2 := Lib.hid (HB.out.trans (hb2.mono HB.out.size))
      clear hb2
      go_wp2_with fail
      go_ret
      exact ⟨ret_b (a := false) e.out.symm, HB2.out⟩
    | true =>
      rw [h2] at C2
      have P1 : Hid (∀ W, Below w.heap.size w W → PicAt W pb 0 ss) := fun W hb => ⟨h1, u, cell_kept hb hp, hu.below hb⟩
      have P2 : Hid (∀ W, Below w.heap.size w W → PicAt W qb 0 tt) := fun W hb => ⟨h2, v, cell_kept hb hq, hv.below hb⟩
      have e : Hid (likeB ss tt = (decide ((row0 ss).size = (row0 tt).size) && decide (ss.length = tt.length))) := by show likeB ss tt = _; unfold likeB; rw [h1, h2]; rfl
      clear h1 h2 hp hu hq hv
      have CW1 : Hid (∀ W, Below w.heap.size w W → Calls Tryd.prog 39 #[.pointer (some ⟨pb, 0, none⟩)] W fun e w' => e = .returned (.int .i64 (row0 ss).size) ∧ W = w') := fun W h => l01Width_any _ _ ss W (P1.out W h)
      have CW2 : Hid (∀ W, Below w.heap.size w W → Calls Tryd.prog 39 #[.pointer (some ⟨qb, 0, none⟩)] W fun e w' => e = .returned (.int .i64 (row0 tt).size) ∧ W = w') := fun W h => l01Width_any _ _ tt W (P2.out W h)
      have CH1 : Hid (∀ W, Below w.heap.size w W → Calls Tryd.prog 40 #[.pointer (some ⟨pb, 0, none⟩)] W fun e w' => e = .returned (.int .i64 ss.length) ∧ W = w') := fun W h => l01Height_any _ _ ss W (P1.out W h)
      have CH2 : Hid (∀ W, Below w.heap.size w W → Calls Tryd.prog 40 #[.pointer (some ⟨qb, 0, none⟩)] W fun e w' => e = .returned (.int .i64 tt.length) ∧ W = w') := fun W h => l01Height_any _ _ tt W (P2.out W h)
      obtain ⟨a, ha⟩ : ∃ a, (row0 ss).size = a := ⟨_, rfl⟩
      obtain ⟨b, hb⟩ : ∃ a, (row0 tt).size = a := ⟨_, rfl⟩
      obtain ⟨c, hc⟩ : ∃ a, ss.length = a := ⟨_, rfl⟩
      obtain ⟨d, hd⟩ : ∃ a, tt.length = a := ⟨_, rfl⟩
      rw [ha] at CW1 e
      rw [hb] at CW2 e
      rw [hc] at CH1 e
      rw [hd] at CH2 e
      clear ha hb hc hd
      by_cases hw : a = b
      · subst hw
        by_cases hh : c = d
        · subst hh
          have e' : Hid (likeB ss tt = true) := by show likeB ss tt = _; rw [e.out]; simp
          clear e
          go_enter Tryd.func38, Tryd.ntmps38
          go_wp2_with fail
          refine C1.out.mono ?_
          rintro e w1 ⟨rfl, hb1⟩
          have HB := Lib.hid hb1
          clear hb1
          go_wp2_with fail
          refine (C2.out _ HB.out).mono ?_
          rintro e w2 ⟨rfl, hb2⟩
          have HB2 := Lib.hid (HB.out.trans (hb2.mono HB.out.size))
          clear hb2
          go_wp2_with fail
          refine (CW1.out _ HB2.out).mono ?_
          rintro e w' ⟨rfl, rfl⟩
          go_wp2_with fail
          refine (CW2.out _ HB2.out).mono ?_
          rintro e w' ⟨rfl, rfl⟩
          go_wp2_with fail
          refine (CH1.out _ HB2.out).mono ?_
          rintro e w' ⟨rfl, rfl⟩
          go_wp2_with fail
          refine (CH2.out _ HB2.out).mono ?_
          rintro e w' ⟨rfl, rfl⟩
          go_wp2_with fail
          go_ret
          exact ⟨ret_b (a := true) e'.out.symm, HB2.out⟩
        · have hk : ((c : Int) == (d : Int)) = false := by rw [beq_eq_false_iff_ne]; omega
          have e' : Hid (likeB ss tt = false) := by show likeB ss tt = _; rw [e.out]; simp [hh]
          clear e hh
          go_enter Tryd.func38, Tryd.ntmps38
          go_wp2_with fail
          refine C1.out.mono ?_
          rintro e w1 ⟨rfl, hb1⟩
          have HB := Lib.hid hb1
          clear hb1
          go_wp2_with fail
          refine (C2.out _ HB.out).mono ?_
          rintro e w2 ⟨rfl, hb2⟩
          have HB2 := Lib.hid (HB.out.trans (hb2.mono HB.out.size))
          clear hb2
          go_wp2_with fail
          refine (CW1.out _ HB2.out).mono ?_
          rintro e w' ⟨rfl, rfl⟩
          go_wp2_with fail
          refine (CW2.out _ HB2.out).mono ?_
          rintro e w' ⟨rfl, rfl⟩
          go_wp2_with fail
          refine (CH1.out _ HB2.out).mono ?_
          rintro e w' ⟨rfl, rfl⟩
          go_wp2_with fail
          refine (CH2.out _ HB2.out).mono ?_
          rintro e w' ⟨rfl, rfl⟩
          go_wp2_with fail
          go_ret
          exact ⟨ret_b (a := false) e'.out.symm, HB2.out⟩
      · have hk : ((a : Int) == (b : Int)) = false := by rw [beq_eq_false_iff_ne]; omega
        have e' : Hid (likeB ss tt = false) := by show likeB ss tt = _; rw [e.out]; simp [hw]
        clear e hw
        go_enter Tryd.func38, Tryd.ntmps38
        go_wp2_with fail
        refine C1.out.mono ?_
        rintro e w1 ⟨rfl, hb1⟩
        have HB := Lib.hid hb1
        clear hb1
        go_wp2_with fail
        refine (C2.out _ HB.out).mono ?_
        rintro e w2 ⟨rfl, hb2⟩
        have HB2 := Lib.hid (HB.out.trans (hb2.mono HB.out.size))
        clear hb2
        go_wp2_with fail
        refine (CW1.out _ HB2.out).mono ?_
        rintro e w' ⟨rfl, rfl⟩
        go_wp2_with fail
        refine (CW2.out _ HB2.out).mono ?_
        rintro e w' ⟨rfl, rfl⟩
        go_wp2_with fail
        go_ret
        exact ⟨ret_b (a := false) e'.out.symm, HB2.out⟩
end Go.Proofs.YtoojldhjgbegnaaDoor

/- Contracts of single functions, and plain lemmas, on which the exact laws of this seat rest; each holds under the conditions that it states. -/
namespace Go.Proofs.YtoojldhjgbegnaaDoor
set_option linter.unusedVariables false
open Go.RowKit

set_option maxHeartbeats 4000000 in
set_option maxRecDepth 100000 in
theorem l01List_any (pb po : Nat) (ss : List ByteArray) (w : World) (hp : PicAt w pb po ss) :
    Calls Tryd.prog 41 #[.pointer (some ⟨pb, po, none⟩)] w (Listed ss w) := by
  obtain ⟨i0, hi, hz0, hz1, hz2⟩ := info_parts Tryd.info4
  obtain ⟨b, off, cap, hc, hst, V⟩ := hp.open'
  have hn := V.n16
  have hw := V.w16
  have hn1 := V.n1
  have hw1 := V.w1
  have hrows : ∀ y, y < ss.length → (ss.getD y ByteArray.empty).size = (row0 ss).size := fun y hy => (V.rows y hy).1
  have hlc : pb < w.heap.size := blk_lt hc
  have hlb := hst.1
  have HC := Lib.hid hc
  have HS := Lib.hid hst.2
  have HR := Lib.hid hrows
  obtain ⟨wd, hwd⟩ : ∃ k, (row0 ss).size = k := ⟨_, rfl⟩
  obtain ⟨n, hnn⟩ : ∃ k, ss.length = k := ⟨_, rfl⟩
  unfold Listed
  rw [hwd] at hw hw1 HR ⊢
  rw [hnn] at hn hn1 HC HS HR ⊢
  clear hp hc hst V hrows hwd hnn
  go_enter Tryd.func41, Tryd.ntmps41
  go_wp2
  go_loopw [3, 4] (fun v yv wr => ∃ y : Nat, y ≤ n ∧ yv = .int .i64 y ∧ wr.ownsRow w.heap.size 4 1 v (y * wd) (boolV (pixL ss wd (y * wd))) ∧ Below w.heap.size w wr) (fun _ yv _ => n - (intOf yv).toNat)
  case atStart =>
    refine ⟨0, Nat.zero_le _, rfl, ?_, Joins.below_alloc1 _ _⟩
    rw [Nat.zero_mul]
    exact World.ownsRow_lit (base := w.heap.size) (e := 4) (size := 1) w #[] 0 (Nat.le_refl _) (by unfold maxLen; omega) rfl
  case round =>
    obtain ⟨y, hy, rfl, hown, hbel⟩ := hrel
    have hcw := (hbel.cell (p := ⟨pb, po, none⟩) hlc).trans HC.out
    by_cases hlt : y < n
    · have kyn : (y : Int) < (n : Int) := by omega
      have HO := Lib.hid hown
      have HB := Lib.hid hbel
      clear hown hbel
      go_wp2
      go_loopw [3, 5] (fun v xv wr => ∃ x : Nat, x ≤ wd ∧ xv = .int .i64 x ∧ wr.ownsRow w.heap.size 4 1 v (y * wd + x) (boolV (pixL ss wd (y * wd + x))) ∧ Below w.heap.size w wr) (fun _ xv _ => wd - (intOf xv).toNat)
      case atStart => exact ⟨0, Nat.zero_le _, rfl, HO.out, HB.out⟩
      case round =>
        obtain ⟨x, hx, rfl, hown, hbel⟩ := hrel
        clear hcw HO HB
        have hcw := (hbel.cell (p := ⟨pb, po, none⟩) hlc).trans HC.out
        have hsw := (hbel.cell (p := ⟨b, off + y, none⟩) hlb).trans (HS.out y hlt)
        have hsz := HR.out y hlt
        have hpf : pixF ss y x = blackAt (ss.getD y ByteArray.empty) x := rfl
        obtain ⟨s, hs⟩ : ∃ s, ss.getD y ByteArray.empty = s := ⟨_, rfl⟩
        rw [hs] at hsw hsz hpf
        by_cases hlt2 : x < wd
        · have hxs : x < s.size := by omega
          have hb35 := black35 s x hxs
          have hsn := pixL_snoc ss wd y x hlt2
          rw [hpf] at hsn
          obtain ⟨bt, hbt⟩ : ∃ t, blackAt s x = t := ⟨_, rfl⟩
          rw [hbt] at hb35 hsn
          have kxs : (x : Int) < (s.size : Int) := by omega
          have ks : (s.size : Int) ≤ 16 := by omega
          have hNle : y * wd ≤ 256 := Nat.le_trans (Nat.mul_le_mul hy (Nat.le_refl _)) (Nat.mul_le_mul hn hw)
          have hs1 := hbel.size
          have HO := Lib.hid hown
          have HB := Lib.hid hbel
          have HSN := Lib.hid hsn
          obtain ⟨M, hM⟩ : ∃ M, y * wd + x = M := ⟨_, rfl⟩
          have HM := Lib.hid hM
          rw [hM] at HO HSN
          have hM2 : M ≤ 300 := by omega
          clear hown hbel hsn hM hs hpf hbt hsz
          go_wp2_with (at_builtin; refine wpList_append_own _ rfl _ _ 67 rfl w.heap.size 4 i0 (.bool false) 1 1 Tryd.underlying67 hi hz0 hz1 hz2 rfl (by decide) _ _ _ rfl (HO.out.alloc _) ⟨wr.heap.size, 0, none⟩ 1 1 [.bool bt] rfl rfl (cell_one_new _ _ _) (by intro u hu; simp at hu; subst hu; rfl) (by unfold maxLen; omega) (by omega) (by simp; omega) ?_)
          intro v' w2 hown' hgr _
          have o1 := HO.out.alloc (.cells #[.bool bt] 4)
          have B2 : Hid (Below w.heap.size w w2) := (HB.out.alloc hs1 _).grown hgr (by simp; omega) (fun k hk => (o1.lt k hk).1)
          have O2 : Hid (w2.ownsRow w.heap.size 4 1 v' (y * wd + (x + 1)) (boolV (pixL ss wd (y * wd + (x + 1))))) := by
            show World.ownsRow _ _ _ _ _ _ _
            rw [show y * wd + (x + 1) = M + 1 from by rw [← HM.out]; omega, HSN.out]
            exact hown'
          clear hown' hgr o1
          go_wp2
          go_roundw
          case rel => exact ⟨x + 1, by omega, by go_num, O2.out, B2.out⟩
          case measure => simp [intOf]; omega
        · obtain rfl : x = wd := by omega
          have kxs : (x : Int) = (s.size : Int) := by omega
          have knx : ¬ (x : Int) < (s.size : Int) := by omega
          have e1 : y * x + x = (y + 1) * x := by rw [Nat.add_mul, Nat.one_mul]
          rw [e1] at hown
          have HO := Lib.hid hown
          have HB := Lib.hid hbel
          have ks : (s.size : Int) ≤ 16 := by omega
          clear hown hbel hs hpf hsz kxs e1
          go_wp2
          go_roundw
          case rel => exact ⟨y + 1, hlt, by go_num, HO.out, HB.out⟩
          case measure => simp [intOf]; omega
    · obtain rfl : y = n := by omega
      rw [Nat.mul_comm y wd] at hown
      have h1 : 1 * 1 ≤ wd * y := Nat.mul_le_mul hw1 hn1
      obtain ⟨g, cap2, rfl⟩ := Joins.ownsRow_form hown (by omega)
      have HO := Lib.hid hown
      have HB := Lib.hid hbel
      clear hown hbel h1
      go_wp2
      go_ret
      exact ⟨g, cap2, rfl, HO.out, HB.out⟩
end Go.Proofs.YtoojldhjgbegnaaDoor

/- Contracts of single functions, and plain lemmas, on which the exact laws of this seat rest; each holds under the conditions that it states. -/
namespace Go.Proofs.YtoojldhjgbegnaaDoor
set_option linter.unusedVariables false
open Go.RowKit

/-- what is true in one list is true in the other one -/
def subB (xs ys : List Bool) : Bool := (List.range xs.length).all fun i => !(xs.getD i false && !ys.getD i false)
theorem subB_no {xs ys : List Bool} {i : Nat} (hi : i < xs.length) (h1 : xs.getD i false = true) (h2 : ys.getD i false = false) : subB xs ys = false := by
  unfold subB
  rw [List.all_eq_false]
  exact ⟨i, List.mem_range.2 hi, by rw [h1, h2]; decide⟩
theorem subB_yes {xs ys : List Bool} (h : ∀ i, i < xs.length → (xs.getD i false = true → ys.getD i false = true)) : subB xs ys = true := by
  unfold subB
  rw [List.all_eq_true]
  intro i hi
  have := h i (List.mem_range.1 hi)
  cases hx : xs.getD i false with
  | false => rfl
  | true => rw [this hx]; rfl

/-- one picture is inside the other one -/
def insideP (ss tt : List ByteArray) : Bool := likeB ss tt && subB (pixL ss (row0 ss).size ((row0 ss).size * ss.length)) (pixL tt (row0 ss).size ((row0 ss).size * ss.length))

end Go.Proofs.YtoojldhjgbegnaaDoor
