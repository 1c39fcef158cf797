/- Contracts of single functions, and plain lemmas, on which the exact laws of this seat rest; each holds under the conditions that it states. -/
import Derived.Test.YtfdefbfakdndiaaDoorLf
namespace Go.Proofs.YtfdefbfakdndiaaDoor
set_option linter.unusedVariables false
open Go.RowKit

/-- the turned pixel, kind 0 -/
def tu0 (ss : List ByteArray) (a b : Nat) (y x : Nat) : Bool := pixI ss ((a : Int) - 1 - (x : Int)) (y : Int)
/-- the turned pixel, kind 1 -/
def tu1 (ss : List ByteArray) (a b : Nat) (y x : Nat) : Bool := pixI ss (x : Int) ((b : Int) - 1 - (y : Int))
/-- the turned pixel, kind 2 -/
def tu2 (ss : List ByteArray) (a b : Nat) (y x : Nat) : Bool := pixI ss (y : Int) (x : Int)
/-- the turned pixel, kind 3 -/
def tu3 (ss : List ByteArray) (a b : Nat) (y x : Nat) : Bool := pixI ss (y : Int) ((b : Int) - 1 - (x : Int))

set_option maxHeartbeats 1600000 in
set_option maxRecDepth 100000 in
theorem l01Turn_0 (pb po : Nat) (ss : List ByteArray) (w : World) (a b : Nat) (ha : (row0 ss).size = a) (hb : ss.length = b) (hpa : PicAt w pb po ss) :
    Calls Tryd.prog 80 #[.pointer (some ⟨pb, po, none⟩), .int .i64 0] w (TookPic w (mkPic a b (tu0 ss a b))) := by
  obtain ⟨i0, hi, hz0, hz1, hz2⟩ := info_parts Tryd.info4
  obtain ⟨b0, off0, cap0, hcc, hst, V⟩ := hpa.open'
  have hw1 := V.w1
  have hw16 := V.w16
  have hn1 := V.n1
  have hn16 := V.n16
  have hP0 : Hid ((w.alloc (.cells #[.slice none 0 0] 28)).heap[w.heap.size]? = some (.cells #[.slice none 0 0] 28 (0, 0))) := heap_alloc_last w _
  have CW : Hid (∀ W, PicAt W pb po ss → Calls Tryd.prog 69 #[.pointer (some ⟨pb, po, none⟩)] W fun e w' => e = .returned (.int .i64 (row0 ss).size) ∧ W = w') := fun W h => l01Width_any _ _ ss W h
  have CH : Hid (∀ W, PicAt W pb po ss → Calls Tryd.prog 70 #[.pointer (some ⟨pb, po, none⟩)] W fun e w' => e = .returned (.int .i64 ss.length) ∧ W = w') := fun W h => l01Height_any _ _ ss W h
  have CB : Hid (∀ (x y : Nat) W, PicAt W pb po ss → Calls Tryd.prog 87 #[.pointer (some ⟨pb, po, none⟩), .int .i64 ((a : Int) - 1 - (x : Int)), .int .i64 (y : Int)] W fun e w' => e = .returned (.bool (tu0 ss a b y x)) ∧ W = w') := fun x y W h => l01Black_any _ _ ss _ _ W h
  rw [ha] at CW hw1 hw16
  rw [hb] at CH hn1 hn16
  have CM := Lib.hid (fun (lb cap : Nat) (W : World) (hB : Bools W lb 0 (listF (tu0 ss a b) a (a * b))) => make_list (tu0 ss a b) lb cap a b W (by constructor <;> omega) (by constructor <;> omega) hB)
  obtain ⟨f, hf⟩ : ∃ f, tu0 ss a b = f := ⟨_, rfl⟩
  rw [hf] at CB CM ⊢
  have HPA := Lib.hid hpa
  have hlp : pb < w.heap.size := blk_lt hcc
  obtain ⟨pic, hpic⟩ : ∃ p, mkPic a b f = p := ⟨_, rfl⟩
  rw [hpic] at CM ⊢
  clear hcc hst V hpa hf hpic ha hb
  go_enter Tryd.func80, Tryd.ntmps80
  go_wp2_with fail
  refine (CW.out _ (HPA.out.below (Joins.below_alloc1 w _))).mono ?_
  rintro e w' ⟨rfl, rfl⟩
  go_wp2_with fail
  refine (CH.out _ (HPA.out.below (Joins.below_alloc1 w _))).mono ?_
  rintro e w' ⟨rfl, rfl⟩
  go_wp2
  go_loopw [9, 10] (fun v yv wr => ∃ y : Nat, y ≤ b ∧ yv = .int .i64 y ∧ wr.ownsRow (w.heap.size + 1) 4 1 v (y * a) (boolV (listF f a (y * a))) ∧ Below (w.heap.size + 1) (w.alloc (.cells #[.slice none 0 0] 28)) wr) (fun _ yv _ => b - (intOf yv).toNat)
  case atStart =>
    refine ⟨0, Nat.zero_le _, rfl, ?_, ?_⟩
    · rw [Nat.zero_mul]
      have := World.ownsRow_lit (base := w.heap.size + 1) (e := 4) (size := 1) (w.alloc (.cells #[.slice none 0 0] 28)) #[] 0 (by simp) (by unfold maxLen; omega) rfl
      simpa [boolV, listF] using this
    · exact (Below.refl _ _).alloc (by simp) _
  case round =>
    obtain ⟨y, hy, rfl, hown, hbel⟩ := hrel
    by_cases hlt : y < b
    · have kyn : (y : Int) < (b : Int) := by omega
      have HO := Lib.hid hown
      have HB := Lib.hid hbel
      clear hown hbel
      go_wp2
      go_loopw [9, 11] (fun v xv wr => ∃ x : Nat, x ≤ a ∧ xv = .int .i64 x ∧ wr.ownsRow (w.heap.size + 1) 4 1 v (y * a + x) (boolV (listF f a (y * a + x))) ∧ Below (w.heap.size + 1) (w.alloc (.cells #[.slice none 0 0] 28)) wr) (fun _ xv _ => a - (intOf xv).toNat)
      case atStart => exact ⟨0, Nat.zero_le _, rfl, HO.out, HB.out⟩
      case round =>
        clear HO HB
        obtain ⟨x, hx, rfl, hown, hbel⟩ := hrel
        have B0 : Hid (Below w.heap.size w wr) := (Joins.below_alloc1 w (.cells #[.slice none 0 0] 28)).trans (hbel.mono (by simp))
        have A0 := Lib.hid (HPA.out.below B0.out)
        by_cases hlt2 : x < a
        · have kxw : (x : Int) < (a : Int) := by omega
          have hsn := listF_snoc f a y x hlt2
          have cb := CB.out x y
          obtain ⟨bt, hbt⟩ : ∃ t, f y x = t := ⟨_, rfl⟩
          rw [hbt] at hsn cb
          have CBt := Lib.hid cb
          have hNle : y * a ≤ 256 := Nat.le_trans (Nat.mul_le_mul hy (Nat.le_refl _)) (Nat.mul_le_mul (by omega : b ≤ 16) (by omega : a ≤ 16))
          have hs1 := hbel.size
          have HO := Lib.hid hown
          have HB := Lib.hid hbel
          have HSN := Lib.hid hsn
          obtain ⟨M, hM⟩ : ∃ M, y * a + x = M := ⟨_, rfl⟩
          have HM := Lib.hid hM
          rw [hM] at HO HSN
          have hM2 : M ≤ 300 := by omega
          clear hown hbel hsn hM hbt cb
          go_wp2_with fail
          refine (CBt.out _ A0.out).mono ?_
          rintro e w' ⟨rfl, rfl⟩
          go_wp2_with (at_builtin; refine wpList_append_own _ rfl _ _ 114 rfl (w.heap.size + 1) 4 i0 (.bool false) 1 1 Tryd.underlying114 hi hz0 hz1 hz2 rfl (by decide) _ _ _ rfl (HO.out.alloc _) ⟨wr.heap.size, 0, none⟩ 1 1 [.bool bt] rfl rfl (cell_one_new _ _ _) (by intro u hu; simp at hu; subst hu; rfl) (by unfold maxLen; omega) (by omega) (by simp at hs1 ⊢; omega) ?_)
          intro v' w2 hown' hgr _
          have o1 := HO.out.alloc (.cells #[.bool bt] 4)
          have B2 : Hid (Below (w.heap.size + 1) (w.alloc (.cells #[.slice none 0 0] 28)) w2) := (HB.out.alloc (by simp at hs1; omega) _).grown hgr (by simp at hs1 ⊢; omega) (fun k hk => (o1.lt k hk).1)
          have O2 : Hid (w2.ownsRow (w.heap.size + 1) 4 1 v' (y * a + (x + 1)) (boolV (listF f a (y * a + (x + 1))))) := by
            show World.ownsRow _ _ _ _ _ _ _
            rw [show y * a + (x + 1) = M + 1 from by rw [← HM.out]; omega, HSN.out]
            exact hown'
          clear hown' hgr o1
          go_wp2
          go_roundw
          case rel => exact ⟨x + 1, by omega, by go_num, O2.out, B2.out⟩
          case measure => simp [intOf]; omega
        · obtain rfl : x = a := by omega
          have e1 : y * x + x = (y + 1) * x := by rw [Nat.add_mul, Nat.one_mul]
          rw [e1] at hown
          have HO := Lib.hid hown
          have HB := Lib.hid hbel
          clear hown hbel e1
          go_wp2
          go_roundw
          case rel => exact ⟨y + 1, hlt, by go_num, HO.out, HB.out⟩
          case measure => simp [intOf]; omega
    · obtain rfl : y = b := by omega
      have B0 : Hid (Below w.heap.size w wr) := (Joins.below_alloc1 w (.cells #[.slice none 0 0] 28)).trans (hbel.mono (by simp))
      rw [Nat.mul_comm y a] at hown
      have h1 : 1 * 1 ≤ a * y := Nat.mul_le_mul (by omega) (by omega)
      obtain ⟨g, cap2, rfl⟩ := Joins.ownsRow_form hown (by omega)
      have HBl : Hid (Bools wr g 0 (listF f a (a * y))) := own_bools hown (listF_len _ _ _)
      have P1 := Lib.hid ((hbel.block w.heap.size (by simp)).trans hP0.out)
      have kc : (a : Int) * (y : Int) = ((a * y : Nat) : Int) := by push_cast; rfl
      clear hown hbel h1 kc
      go_wp2_with fail
      refine (CM.out _ _ _ HBl.out).mono ?_
      rintro e w4 ⟨g4, cap4, rfl, hown4, hb4⟩
      have hp2 := (hb4.block w.heap.size (Array.getElem?_eq_some_iff.1 P1.out).1).trans P1.out
      have hfr : w4.frozen? ⟨w.heap.size, 0, none⟩ = false := free_of_one hp2
      have hc2 : w4.cell? ⟨w.heap.size, 0, none⟩ = some (.slice none 0 0) := cell_of_one hp2
      have O2 := Lib.hid (own_set (u := .slice (some ⟨g4, 0, none⟩) pic.length cap4) hown4 hp2 (by decide))
      have P4 := Lib.hid hp2
      have B4 := Lib.hid (B0.out.trans (hb4.mono B0.out.size))
      have hs3 := B0.out.size
      clear hown4 hp2 hb4
      go_wp2_with fail
      refine bodyPost_ret (v := .agg #[.slice (some ⟨g4, 0, none⟩) pic.length cap4]) (by simp [results, Tryd.results80, go_sem, cell_of_one (one_setCell P4.out)]) rfl ⟨g4, cap4, rfl, Joins.ownsRow_le O2.out hs3, B4.out.setCell (by simp) _⟩

set_option maxHeartbeats 1600000 in
set_option maxRecDepth 100000 in
theorem l01Turn_1 (pb po : Nat) (ss : List ByteArray) (w : World) (a b : Nat) (ha : (row0 ss).size = a) (hb : ss.length = b) (hpa : PicAt w pb po ss) :
    Calls Tryd.prog 80 #[.pointer (some ⟨pb, po, none⟩), .int .i64 1] w (TookPic w (mkPic a b (tu1 ss a b))) := by
  obtain ⟨i0, hi, hz0, hz1, hz2⟩ := info_parts Tryd.info4
  obtain ⟨b0, off0, cap0, hcc, hst, V⟩ := hpa.open'
  have hw1 := V.w1
  have hw16 := V.w16
  have hn1 := V.n1
  have hn16 := V.n16
  have hP0 : Hid ((w.alloc (.cells #[.slice none 0 0] 28)).heap[w.heap.size]? = some (.cells #[.slice none 0 0] 28 (0, 0))) := heap_alloc_last w _
  have CW : Hid (∀ W, PicAt W pb po ss → Calls Tryd.prog 69 #[.pointer (some ⟨pb, po, none⟩)] W fun e w' => e = .returned (.int .i64 (row0 ss).size) ∧ W = w') := fun W h => l01Width_any _ _ ss W h
  have CH : Hid (∀ W, PicAt W pb po ss → Calls Tryd.prog 70 #[.pointer (some ⟨pb, po, none⟩)] W fun e w' => e = .returned (.int .i64 ss.length) ∧ W = w') := fun W h => l01Height_any _ _ ss W h
  have CB : Hid (∀ (x y : Nat) W, PicAt W pb po ss → Calls Tryd.prog 87 #[.pointer (some ⟨pb, po, none⟩), .int .i64 (x : Int), .int .i64 ((b : Int) - 1 - (y : Int))] W fun e w' => e = .returned (.bool (tu1 ss a b y x)) ∧ W = w') := fun x y W h => l01Black_any _ _ ss _ _ W h
  rw [ha] at CW hw1 hw16
  rw [hb] at CH hn1 hn16
  have CM := Lib.hid (fun (lb cap : Nat) (W : World) (hB : Bools W lb 0 (listF (tu1 ss a b) a (a * b))) => make_list (tu1 ss a b) lb cap a b W (by constructor <;> omega) (by constructor <;> omega) hB)
  obtain ⟨f, hf⟩ : ∃ f, tu1 ss a b = f := ⟨_, rfl⟩
  rw [hf] at CB CM ⊢
  have HPA := Lib.hid hpa
  have hlp : pb < w.heap.size := blk_lt hcc
  obtain ⟨pic, hpic⟩ : ∃ p, mkPic a b f = p := ⟨_, rfl⟩
  rw [hpic] at CM ⊢
  clear hcc hst V hpa hf hpic ha hb
  go_enter Tryd.func80, Tryd.ntmps80
  go_wp2_with fail
  refine (CW.out _ (HPA.out.below (Joins.below_alloc1 w _))).mono ?_
  rintro e w' ⟨rfl, rfl⟩
  go_wp2_with fail
  refine (CH.out _ (HPA.out.below (Joins.below_alloc1 w _))).mono ?_
  rintro e w' ⟨rfl, rfl⟩
  go_wp2
  go_loopw [9, 10] (fun v yv wr => ∃ y : Nat, y ≤ b ∧ yv = .int .i64 y ∧ wr.ownsRow (w.heap.size + 1) 4 1 v (y * a) (boolV (listF f a (y * a))) ∧ Below (w.heap.size + 1) (w.alloc (.cells #[.slice none 0 0] 28)) wr) (fun _ yv _ => b - (intOf yv).toNat)
  case atStart =>
    refine ⟨0, Nat.zero_le _, rfl, ?_, ?_⟩
    · rw [Nat.zero_mul]
      have := World.ownsRow_lit (base := w.heap.size + 1) (e := 4) (size := 1) (w.alloc (.cells #[.slice none 0 0] 28)) #[] 0 (by simp) (by unfold maxLen; omega) rfl
      simpa [boolV, listF] using this
    · exact (Below.refl _ _).alloc (by simp) _
  case round =>
    obtain ⟨y, hy, rfl, hown, hbel⟩ := hrel
    by_cases hlt : y < b
    · have kyn : (y : Int) < (b : Int) := by omega
      have HO := Lib.hid hown
      have HB := Lib.hid hbel
      clear hown hbel
      go_wp2
      go_loopw [9, 11] (fun v xv wr => ∃ x : Nat, x ≤ a ∧ xv = .int .i64 x ∧ wr.ownsRow (w.heap.size + 1) 4 1 v (y * a + x) (boolV (listF f a (y * a + x))) ∧ Below (w.heap.size + 1) (w.alloc (.cells #[.slice none 0 0] 28)) wr) (fun _ xv _ => a - (intOf xv).toNat)
      case atStart => exact ⟨0, Nat.zero_le _, rfl, HO.out, HB.out⟩
      case round =>
        clear HO HB
        obtain ⟨x, hx, rfl, hown, hbel⟩ := hrel
        have B0 : Hid (Below w.heap.size w wr) := (Joins.below_alloc1 w (.cells #[.slice none 0 0] 28)).trans (hbel.mono (by simp))
        have A0 := Lib.hid (HPA.out.below B0.out)
        by_cases hlt2 : x < a
        · have kxw : (x : Int) < (a : Int) := by omega
          have hsn := listF_snoc f a y x hlt2
          have cb := CB.out x y
          obtain ⟨bt, hbt⟩ : ∃ t, f y x = t := ⟨_, rfl⟩
          rw [hbt] at hsn cb
          have CBt := Lib.hid cb
          have hNle : y * a ≤ 256 := Nat.le_trans (Nat.mul_le_mul hy (Nat.le_refl _)) (Nat.mul_le_mul (by omega : b ≤ 16) (by omega : a ≤ 16))
          have hs1 := hbel.size
          have HO := Lib.hid hown
          have HB := Lib.hid hbel
          have HSN := Lib.hid hsn
          obtain ⟨M, hM⟩ : ∃ M, y * a + x = M := ⟨_, rfl⟩
          have HM := Lib.hid hM
          rw [hM] at HO HSN
          have hM2 : M ≤ 300 := by omega
          clear hown hbel hsn hM hbt cb
          go_wp2_with fail
          refine (CBt.out _ A0.out).mono ?_
          rintro e w' ⟨rfl, rfl⟩
          go_wp2_with (at_builtin; refine wpList_append_own _ rfl _ _ 114 rfl (w.heap.size + 1) 4 i0 (.bool false) 1 1 Tryd.underlying114 hi hz0 hz1 hz2 rfl (by decide) _ _ _ rfl (HO.out.alloc _) ⟨wr.heap.size, 0, none⟩ 1 1 [.bool bt] rfl rfl (cell_one_new _ _ _) (by intro u hu; simp at hu; subst hu; rfl) (by unfold maxLen; omega) (by omega) (by simp at hs1 ⊢; omega) ?_)
          intro v' w2 hown' hgr _
          have o1 := HO.out.alloc (.cells #[.bool bt] 4)
          have B2 : Hid (Below (w.heap.size + 1) (w.alloc (.cells #[.slice none 0 0] 28)) w2) := (HB.out.alloc (by simp at hs1; omega) _).grown hgr (by simp at hs1 ⊢; omega) (fun k hk => (o1.lt k hk).1)
          have O2 : Hid (w2.ownsRow (w.heap.size + 1) 4 1 v' (y * a + (x + 1)) (boolV (listF f a (y * a + (x + 1))))) := by
            show World.ownsRow _ _ _ _ _ _ _
            rw [show y * a + (x + 1) = M + 1 from by rw [← HM.out]; omega, HSN.out]
            exact hown'
          clear hown' hgr o1
          go_wp2
          go_roundw
          case rel => exact ⟨x + 1, by omega, by go_num, O2.out, B2.out⟩
          case measure => simp [intOf]; omega
        · obtain rfl : x = a := by omega
          have e1 : y * x + x = (y + 1) * x := by rw [Nat.add_mul, Nat.one_mul]
          rw [e1] at hown
          have HO := Lib.hid hown
          have HB := Lib.hid hbel
          clear hown hbel e1
          go_wp2
          go_roundw
          case rel => exact ⟨y + 1, hlt, by go_num, HO.out, HB.out⟩
          case measure => simp [intOf]; omega
    · obtain rfl : y = b := by omega
      have B0 : Hid (Below w.heap.size w wr) := (Joins.below_alloc1 w (.cells #[.slice none 0 0] 28)).trans (hbel.mono (by simp))
      rw [Nat.mul_comm y a] at hown
      have h1 : 1 * 1 ≤ a * y := Nat.mul_le_mul (by omega) (by omega)
      obtain ⟨g, cap2, rfl⟩ := Joins.ownsRow_form hown (by omega)
      have HBl : Hid (Bools wr g 0 (listF f a (a * y))) := own_bools hown (listF_len _ _ _)
      have P1 := Lib.hid ((hbel.block w.heap.size (by simp)).trans hP0.out)
      have kc : (a : Int) * (y : Int) = ((a * y : Nat) : Int) := by push_cast; rfl
      clear hown hbel h1 kc
      go_wp2_with fail
      refine (CM.out _ _ _ HBl.out).mono ?_
      rintro e w4 ⟨g4, cap4, rfl, hown4, hb4⟩
      have hp2 := (hb4.block w.heap.size (Array.getElem?_eq_some_iff.1 P1.out).1).trans P1.out
      have hfr : w4.frozen? ⟨w.heap.size, 0, none⟩ = false := free_of_one hp2
      have hc2 : w4.cell? ⟨w.heap.size, 0, none⟩ = some (.slice none 0 0) := cell_of_one hp2
      have O2 := Lib.hid (own_set (u := .slice (some ⟨g4, 0, none⟩) pic.length cap4) hown4 hp2 (by decide))
      have P4 := Lib.hid hp2
      have B4 := Lib.hid (B0.out.trans (hb4.mono B0.out.size))
      have hs3 := B0.out.size
      clear hown4 hp2 hb4
      go_wp2_with fail
      refine bodyPost_ret (v := .agg #[.slice (some ⟨g4, 0, none⟩) pic.length cap4]) (by simp [results, Tryd.results80, go_sem, cell_of_one (one_setCell P4.out)]) rfl ⟨g4, cap4, rfl, Joins.ownsRow_le O2.out hs3, B4.out.setCell (by simp) _⟩
end Go.Proofs.YtfdefbfakdndiaaDoor
