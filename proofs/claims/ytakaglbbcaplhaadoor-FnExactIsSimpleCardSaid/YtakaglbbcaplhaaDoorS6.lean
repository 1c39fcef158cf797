/- Contracts of single functions, and plain lemmas, on which the exact laws of this seat rest; each holds under the conditions that it states. -/
import Derived.Test.YtakaglbbcaplhaaDoorSp
import Derived.Test.YtakaglbbcaplhaaDoorLf
import Derived.Test.YtakaglbbcaplhaaDoorS4
import Derived.Test.YtakaglbbcaplhaaDoorCb
namespace Go.Proofs.YtakaglbbcaplhaaDoor
set_option linter.unusedVariables false
set_option linter.unusedSimpArgs false
open Go.RowKit

/-- the pixels around one that have a colour, as a picture of 3 by 3 -/
def arF (p : Int → Int → Bool) (bl : Bool) (px py : Int) (y x : Nat) : Bool := (decide (x ≠ 1) || decide (y ≠ 1)) && (p (px + ((x : Int) - 1)) (py + ((y : Int) - 1)) == bl)

set_option maxHeartbeats 4000000 in
set_option maxRecDepth 100000 in
theorem l05Around_any (pb po : Nat) (ss : List ByteArray) (px py : Int) (bl : Bool) (w : World) (hx : -40 ≤ px ∧ px ≤ 40) (hy : -40 ≤ py ∧ py ≤ 40) (hpa : PicAt w pb po ss) :
    Calls Tryd.prog 128 #[.pointer (some ⟨pb, po, none⟩), .int .i64 px, .int .i64 py, .bool bl] w (TookPic w (mkPic 3 3 (arF (pixI ss) bl px py))) := by
  obtain ⟨i0, hi, hz0, hz1, hz2⟩ := info_parts Tryd.info4
  obtain ⟨b0, off0, cap0, hcc, hst, V⟩ := hpa.open'
  obtain ⟨x1, x2⟩ := hx
  obtain ⟨y1, y2⟩ := hy
  have hP0 : Hid ((w.alloc (.cells #[.slice none 0 0] 29)).heap[w.heap.size]? = some (.cells #[.slice none 0 0] 29 (0, 0))) := heap_alloc_last w _
  have CB : Hid (∀ (X Y : Int) W, PicAt W pb po ss → Calls Tryd.prog 54 #[.pointer (some ⟨pb, po, none⟩), .int .i64 X, .int .i64 Y] W fun e w' => e = .returned (.bool (pixI ss X Y)) ∧ W = w') := fun X Y W h => l01Black_any _ _ ss _ _ W h
  have CM : Hid (∀ (lb cap : Nat) (W : World), Bools W lb 0 (listF (arF (pixI ss) bl px py) 3 9) → Calls Tryd.prog 81 #[.int .i64 3, .slice (some ⟨lb, 0, none⟩) 9 cap] W (TookPic W (mkPic 3 3 (arF (pixI ss) bl px py)))) := fun lb cap W hB => make_list (arF (pixI ss) bl px py) lb cap 3 3 W ⟨by omega, by omega⟩ ⟨by omega, by omega⟩ hB
  have HF : Hid (∀ y x : Nat, arF (pixI ss) bl px py y x = ((decide (x ≠ 1) || decide (y ≠ 1)) && (pixI ss (px + ((x : Int) - 1)) (py + ((y : Int) - 1)) == bl))) := fun _ _ => rfl
  obtain ⟨p, hp⟩ : ∃ p, pixI ss = p := ⟨_, rfl⟩
  rw [hp] at CB CM HF ⊢
  obtain ⟨f, hf⟩ : ∃ f, arF p bl px py = f := ⟨_, rfl⟩
  rw [hf] at CM HF ⊢
  have HPA := Lib.hid hpa
  have hlp : pb < w.heap.size := blk_lt hcc
  obtain ⟨pic, hpic⟩ : ∃ p, mkPic 3 3 f = p := ⟨_, rfl⟩
  rw [hpic] at CM ⊢
  clear hcc hst V hpa hf hp hpic
  go_enter Tryd.func128, Tryd.ntmps128
  go_wp2
  go_loopw [9, 10] (fun v yv wr => ∃ y : Nat, y ≤ 3 ∧ yv = .int .i64 ((y : Int) - 1) ∧ wr.ownsRow (w.heap.size + 1) 4 1 v (y * 3) (boolV (listF f 3 (y * 3))) ∧ Below (w.heap.size + 1) (w.alloc (.cells #[.slice none 0 0] 29)) wr) (fun _ yv _ => (2 - intOf yv).toNat)
  case atStart =>
    refine ⟨0, Nat.zero_le _, rfl, ?_, ?_⟩
    · rw [Nat.zero_mul]
      have := World.ownsRow_lit (base := w.heap.size + 1) (e := 4) (size := 1) (w.alloc (.cells #[.slice none 0 0] 29)) #[] 0 (by simp) (by unfold maxLen; omega) rfl
      simpa [boolV, listF] using this
    · exact (Below.refl _ _).alloc (by simp) _
  case round =>
    obtain ⟨y, hy, rfl, hown, hbel⟩ := hrel
    by_cases hlt : y < 3
    · have kyn : (y : Int) - 1 ≤ 1 := by omega
      have HO := Lib.hid hown
      have HB := Lib.hid hbel
      clear hown hbel
      go_wp2
      go_loopw [9, 11] (fun v xv wr => ∃ x : Nat, x ≤ 3 ∧ xv = .int .i64 ((x : Int) - 1) ∧ wr.ownsRow (w.heap.size + 1) 4 1 v (y * 3 + x) (boolV (listF f 3 (y * 3 + x))) ∧ Below (w.heap.size + 1) (w.alloc (.cells #[.slice none 0 0] 29)) wr) (fun _ xv _ => (2 - intOf xv).toNat)
      case atStart => exact ⟨0, Nat.zero_le _, rfl, HO.out, HB.out⟩
      case round =>
        clear HO HB
        obtain ⟨x, hx, rfl, hown, hbel⟩ := hrel
        have B0 : Hid (Below w.heap.size w wr) := (Joins.below_alloc1 w (.cells #[.slice none 0 0] 29)).trans (hbel.mono (by simp))
        have A0 := Lib.hid (HPA.out.below B0.out)
        by_cases hlt2 : x < 3
        · have kxw : (x : Int) - 1 ≤ 1 := by omega
          have hsn := listF_snoc f 3 y x hlt2
          have hfv := HF.out y x
          have hs1 := hbel.size
          have HO := Lib.hid hown
          have HB := Lib.hid hbel
          clear hown hbel
          by_cases hc : x = 1 ∧ y = 1
          · have hbf : f y x = false := by rw [hfv, hc.1, hc.2]; simp
            rw [hbf] at hsn
            have HSN := Lib.hid hsn
            have k1 : ((x : Int) - 1 != 0) = false := by simp; omega
            have k2 : ((y : Int) - 1 != 0) = false := by simp; omega
            clear hsn hfv hbf hc
            go_wp2_with (at_builtin; refine wpList_append_own _ rfl _ _ 100 rfl (w.heap.size + 1) 4 i0 (.bool false) 1 1 Tryd.underlying100 hi hz0 hz1 hz2 rfl (by decide) _ _ _ rfl (HO.out.alloc _) ⟨wr.heap.size, 0, none⟩ 1 1 [.bool false] rfl rfl (cell_one_new _ _ _) (by intro u hu; simp at hu; subst hu; rfl) (by unfold maxLen; omega) (by omega) (by simp at hs1 ⊢; omega) ?_)
            intro v' w2 hown' hgr _
            have o1 := HO.out.alloc (.cells #[.bool false] 4)
            have B2 : Hid (Below (w.heap.size + 1) (w.alloc (.cells #[.slice none 0 0] 29)) w2) := (HB.out.alloc (by simp at hs1; omega) _).grown hgr (by simp at hs1 ⊢; omega) (fun k hk => (o1.lt k hk).1)
            have O2 : Hid (w2.ownsRow (w.heap.size + 1) 4 1 v' (y * 3 + x + 1) (boolV (listF f 3 (y * 3 + x + 1)))) := by
              show World.ownsRow _ _ _ _ _ _ _
              rw [HSN.out]
              exact hown'
            clear hown' hgr o1
            go_wp2
            go_roundw
            case rel => exact ⟨x + 1, by omega, by go_num, O2.out, B2.out⟩
            case measure => simp [intOf]; omega
          · have hne : (decide (x ≠ 1) || decide (y ≠ 1)) = true := by
              by_cases h1 : x = 1
              · have h2 : y ≠ 1 := fun h => hc ⟨h1, h⟩
                simp [h2]
              · simp [h1]
            rw [hne, Bool.true_and] at hfv
            obtain ⟨bt, hbt⟩ : ∃ t, p (px + ((x : Int) - 1)) (py + ((y : Int) - 1)) = t := ⟨_, rfl⟩
            rw [hbt] at hfv
            rw [hfv] at hsn
            have HSN := Lib.hid hsn
            have HBt := Lib.hid hbt
            have hkx : ((x : Int) - 1 != 0) = true ∨ (((x : Int) - 1 != 0) = false ∧ ((y : Int) - 1 != 0) = true) := by
              by_cases h1 : x = 1
              · have h2 : y ≠ 1 := fun h => hc ⟨h1, h⟩
                right
                constructor
                · simp; omega
                · simp; omega
              · left; simp; omega
            clear hsn hfv hbt hne hc
            rcases hkx with k1 | ⟨k1, k2⟩
            all_goals (
              go_wp2_with fail
              refine (CB.out _ _ _ A0.out).mono ?_
              rintro e w' ⟨rfl, rfl⟩
              rw [HBt.out]
              go_wp2_with (at_builtin; refine wpList_append_own _ rfl _ _ 100 rfl (w.heap.size + 1) 4 i0 (.bool false) 1 1 Tryd.underlying100 hi hz0 hz1 hz2 rfl (by decide) _ _ _ rfl (HO.out.alloc _) ⟨wr.heap.size, 0, none⟩ 1 1 [.bool (bt == bl)] rfl rfl (cell_one_new _ _ _) (by intro u hu; simp at hu; subst hu; rfl) (by unfold maxLen; omega) (by omega) (by simp at hs1 ⊢; omega) ?_)
              intro v' w2 hown' hgr _
              have o1 := HO.out.alloc (.cells #[.bool (bt == bl)] 4)
              have B2 : Hid (Below (w.heap.size + 1) (w.alloc (.cells #[.slice none 0 0] 29)) w2) := (HB.out.alloc (by simp at hs1; omega) _).grown hgr (by simp at hs1 ⊢; omega) (fun k hk => (o1.lt k hk).1)
              have O2 : Hid (w2.ownsRow (w.heap.size + 1) 4 1 v' (y * 3 + x + 1) (boolV (listF f 3 (y * 3 + x + 1)))) := by
                show World.ownsRow _ _ _ _ _ _ _
                rw [HSN.out]
                exact hown'
              clear hown' hgr o1
              go_wp2
              go_roundw
              case rel => exact ⟨x + 1, by omega, by go_num, O2.out, B2.out⟩
              case measure => simp [intOf]; omega)
        · obtain rfl : x = 3 := by omega
          have e1 : y * 3 + 3 = (y + 1) * 3 := by rw [Nat.add_mul, Nat.one_mul]
          rw [e1] at hown
          have HO := Lib.hid hown
          have HB := Lib.hid hbel
          clear hown hbel e1
          go_wp2
          go_roundw
          case rel => exact ⟨y + 1, by omega, by go_num, HO.out, HB.out⟩
          case measure => simp [intOf]; omega
    · obtain rfl : y = 3 := by omega
      have B0 : Hid (Below w.heap.size w wr) := (Joins.below_alloc1 w (.cells #[.slice none 0 0] 29)).trans (hbel.mono (by simp))
      obtain ⟨g, cap2, rfl⟩ := Joins.ownsRow_form hown (by omega)
      have HBl : Hid (Bools wr g 0 (listF f 3 9)) := own_bools hown (listF_len _ _ _)
      have P1 := Lib.hid ((hbel.block w.heap.size (by simp)).trans hP0.out)
      clear hown hbel
      go_wp2_with fail
      refine (CM.out _ _ _ HBl.out).mono ?_
      rintro e w4 ⟨g4, cap4, rfl, hown4, hb4⟩
      have hp2 := (hb4.block w.heap.size (Array.getElem?_eq_some_iff.1 P1.out).1).trans P1.out
      have hfr : w4.frozen? ⟨w.heap.size, 0, none⟩ = false := free_of_one hp2
      have hc2 : w4.cell? ⟨w.heap.size, 0, none⟩ = some (.slice none 0 0) := cell_of_one hp2
      have O2 := Lib.hid (own_set (u := .slice (some ⟨g4, 0, none⟩) pic.length cap4) hown4 hp2 (by decide))
      have P4 := Lib.hid hp2
      have B4 := Lib.hid (B0.out.trans (hb4.mono B0.out.size))
      have hs3 := B0.out.size
      clear hown4 hp2 hb4
      go_wp2_with fail
      refine bodyPost_ret (v := .agg #[.slice (some ⟨g4, 0, none⟩) pic.length cap4]) (by simp [results, Tryd.results128, go_sem, cell_of_one (one_setCell P4.out)]) rfl ⟨g4, cap4, rfl, Joins.ownsRow_le O2.out hs3, B4.out.setCell (by simp) _⟩
end Go.Proofs.YtakaglbbcaplhaaDoor
