/- Contracts of single functions, and plain lemmas, on which the exact laws of this seat rest; each holds under the conditions that it states. -/
import Derived.Test.YtfdefbfakdndiaaDoorLf
namespace Go.Proofs.YtfdefbfakdndiaaDoor
set_option linter.unusedVariables false
open Go.RowKit

/-- a shifted pixel -/
def shF (ss : List ByteArray) (dx dy : Int) (y x : Nat) : Bool := pixI ss ((x : Int) - dx) ((y : Int) - dy)

set_option maxHeartbeats 4000000 in
set_option maxRecDepth 100000 in
theorem l01Shift_any (pb po : Nat) (ss : List ByteArray) (dx dy : Int) (w : World) (hx : -16 ≤ dx ∧ dx ≤ 16) (hy : -16 ≤ dy ∧ dy ≤ 16) (hpa : PicAt w pb po ss) :
    Calls Tryd.prog 79 #[.pointer (some ⟨pb, po, none⟩), .int .i64 dx, .int .i64 dy] w (TookPic w (mkPic (row0 ss).size ss.length (shF ss dx dy))) := by
  obtain ⟨i0, hi, hz0, hz1, hz2⟩ := info_parts Tryd.info4
  obtain ⟨b0, off0, cap0, hcc, hst, V⟩ := hpa.open'
  have hw1 := V.w1
  have hw16 := V.w16
  have hn1 := V.n1
  have hn16 := V.n16
  obtain ⟨x1, x2⟩ := hx
  obtain ⟨y1, y2⟩ := hy
  have hP0 : Hid ((w.alloc (.cells #[.slice none 0 0] 28)).heap[w.heap.size]? = some (.cells #[.slice none 0 0] 28 (0, 0))) := heap_alloc_last w _
  have CW : Hid (∀ W, PicAt W pb po ss → Calls Tryd.prog 69 #[.pointer (some ⟨pb, po, none⟩)] W fun e w' => e = .returned (.int .i64 (row0 ss).size) ∧ W = w') := fun W h => l01Width_any _ _ ss W h
  have CH : Hid (∀ W, PicAt W pb po ss → Calls Tryd.prog 70 #[.pointer (some ⟨pb, po, none⟩)] W fun e w' => e = .returned (.int .i64 ss.length) ∧ W = w') := fun W h => l01Height_any _ _ ss W h
  have CB : Hid (∀ (x y : Nat) W, PicAt W pb po ss → Calls Tryd.prog 87 #[.pointer (some ⟨pb, po, none⟩), .int .i64 ((x : Int) - dx), .int .i64 ((y : Int) - dy)] W fun e w' => e = .returned (.bool (shF ss dx dy y x)) ∧ W = w') := fun x y W h => l01Black_any _ _ ss _ _ W h
  have CM := Lib.hid (fun (lb cap : Nat) (W : World) (hB : Bools W lb 0 (listF (shF ss dx dy) (row0 ss).size ((row0 ss).size * ss.length))) => make_list (shF ss dx dy) lb cap (row0 ss).size ss.length W ⟨hw1, hw16⟩ ⟨hn1, hn16⟩ hB)
  obtain ⟨f, hf⟩ : ∃ f, shF ss dx dy = f := ⟨_, rfl⟩
  rw [hf] at CB CM ⊢
  obtain ⟨wd, hwd⟩ : ∃ k, (row0 ss).size = k := ⟨_, rfl⟩
  obtain ⟨n, hnn⟩ : ∃ k, ss.length = k := ⟨_, rfl⟩
  rw [hwd] at CW CM hw1 hw16 ⊢
  rw [hnn] at CH CM hn1 hn16 ⊢
  have HPA := Lib.hid hpa
  have hlp : pb < w.heap.size := blk_lt hcc
  obtain ⟨pic, hpic⟩ : ∃ p, mkPic wd n f = p := ⟨_, rfl⟩
  rw [hpic] at CM ⊢
  clear hcc hst V hpa hf hwd hnn hpic
  go_enter Tryd.func79, Tryd.ntmps79
  go_wp2
  go_loopw [7, 8] (fun v yv wr => ∃ y : Nat, y ≤ n ∧ yv = .int .i64 y ∧ wr.ownsRow (w.heap.size + 1) 4 1 v (y * wd) (boolV (listF f wd (y * wd))) ∧ Below (w.heap.size + 1) (w.alloc (.cells #[.slice none 0 0] 28)) wr) (fun _ yv _ => n - (intOf yv).toNat)
  case atStart =>
    refine ⟨0, Nat.zero_le _, rfl, ?_, ?_⟩
    · rw [Nat.zero_mul]
      have := World.ownsRow_lit (base := w.heap.size + 1) (e := 4) (size := 1) (w.alloc (.cells #[.slice none 0 0] 28)) #[] 0 (by simp) (by unfold maxLen; omega) rfl
      simpa [boolV, listF] using this
    · exact (Below.refl _ _).alloc (by simp) _
  case round =>
    obtain ⟨y, hy, rfl, hown, hbel⟩ := hrel
    have B0 : Hid (Below w.heap.size w wr) := (Joins.below_alloc1 w (.cells #[.slice none 0 0] 28)).trans (hbel.mono (by simp))
    have A0 := Lib.hid (HPA.out.below B0.out)
    by_cases hlt : y < n
    · have kyn : (y : Int) < (n : Int) := by omega
      have HO := Lib.hid hown
      have HB := Lib.hid hbel
      clear hown hbel
      go_wp2_with fail
      refine (CH.out _ A0.out).mono ?_
      rintro e w' ⟨rfl, rfl⟩
      go_wp2_with fail
      go_loopw [7, 9] (fun v xv wr => ∃ x : Nat, x ≤ wd ∧ xv = .int .i64 x ∧ wr.ownsRow (w.heap.size + 1) 4 1 v (y * wd + x) (boolV (listF f wd (y * wd + x))) ∧ Below (w.heap.size + 1) (w.alloc (.cells #[.slice none 0 0] 28)) wr) (fun _ xv _ => wd - (intOf xv).toNat)
      case atStart => exact ⟨0, Nat.zero_le _, rfl, HO.out, HB.out⟩
      case round =>
        clear HO HB A0 B0
        obtain ⟨x, hx, rfl, hown, hbel⟩ := hrel
        have B0 : Hid (Below w.heap.size w wr) := (Joins.below_alloc1 w (.cells #[.slice none 0 0] 28)).trans (hbel.mono (by simp))
        have A0 := Lib.hid (HPA.out.below B0.out)
        by_cases hlt2 : x < wd
        · have kxw : (x : Int) < (wd : Int) := by omega
          have hsn := listF_snoc f wd y x hlt2
          have cb := CB.out x y
          obtain ⟨bt, hbt⟩ : ∃ t, f y x = t := ⟨_, rfl⟩
          rw [hbt] at hsn cb
          have CBt := Lib.hid cb
          have hNle : y * wd ≤ 256 := Nat.le_trans (Nat.mul_le_mul hy (Nat.le_refl _)) (Nat.mul_le_mul hn16 hw16)
          have hs1 := hbel.size
          have HO := Lib.hid hown
          have HB := Lib.hid hbel
          have HSN := Lib.hid hsn
          obtain ⟨M, hM⟩ : ∃ M, y * wd + x = M := ⟨_, rfl⟩
          have HM := Lib.hid hM
          rw [hM] at HO HSN
          have hM2 : M ≤ 300 := by omega
          clear hown hbel hsn hM hbt cb
          go_wp2_with fail
          refine (CW.out _ A0.out).mono ?_
          rintro e w' ⟨rfl, rfl⟩
          go_wp2_with fail
          refine (CBt.out _ A0.out).mono ?_
          rintro e w' ⟨rfl, rfl⟩
          go_wp2_with (at_builtin; refine wpList_append_own _ rfl _ _ 114 rfl (w.heap.size + 1) 4 i0 (.bool false) 1 1 Tryd.underlying114 hi hz0 hz1 hz2 rfl (by decide) _ _ _ rfl (HO.out.alloc _) ⟨wr.heap.size, 0, none⟩ 1 1 [.bool bt] rfl rfl (cell_one_new _ _ _) (by intro u hu; simp at hu; subst hu; rfl) (by unfold maxLen; omega) (by omega) (by simp at hs1 ⊢; omega) ?_)
          intro v' w2 hown' hgr _
          have o1 := HO.out.alloc (.cells #[.bool bt] 4)
          have B2 : Hid (Below (w.heap.size + 1) (w.alloc (.cells #[.slice none 0 0] 28)) w2) := (HB.out.alloc (by simp at hs1; omega) _).grown hgr (by simp at hs1 ⊢; omega) (fun k hk => (o1.lt k hk).1)
          have O2 : Hid (w2.ownsRow (w.heap.size + 1) 4 1 v' (y * wd + (x + 1)) (boolV (listF f wd (y * wd + (x + 1))))) := by
            show World.ownsRow _ _ _ _ _ _ _
            rw [show y * wd + (x + 1) = M + 1 from by rw [← HM.out]; omega, HSN.out]
            exact hown'
          clear hown' hgr o1
          go_wp2
          go_roundw
          case rel => exact ⟨x + 1, by omega, by go_num, O2.out, B2.out⟩
          case measure => simp [intOf]; omega
        · obtain rfl : x = wd := by omega
          have e1 : y * x + x = (y + 1) * x := by rw [Nat.add_mul, Nat.one_mul]
          rw [e1] at hown
          have HO := Lib.hid hown
          have HB := Lib.hid hbel
          clear hown hbel e1
          go_wp2_with fail
          refine (CW.out _ A0.out).mono ?_
          rintro e w' ⟨rfl, rfl⟩
          go_wp2
          go_roundw
          case rel => exact ⟨y + 1, hlt, by go_num, HO.out, HB.out⟩
          case measure => simp [intOf]; omega
    · obtain rfl : y = n := by omega
      rw [Nat.mul_comm y wd] at hown
      have h1 : 1 * 1 ≤ wd * y := Nat.mul_le_mul hw1 hn1
      obtain ⟨g, cap2, rfl⟩ := Joins.ownsRow_form hown (by omega)
      have HBl : Hid (Bools wr g 0 (listF f wd (wd * y))) := own_bools hown (listF_len _ _ _)
      have P1 := Lib.hid ((hbel.block w.heap.size (by simp)).trans hP0.out)
      clear hown hbel h1
      go_wp2_with fail
      refine (CH.out _ A0.out).mono ?_
      rintro e w' ⟨rfl, rfl⟩
      go_wp2_with fail
      refine (CW.out _ A0.out).mono ?_
      rintro e w' ⟨rfl, rfl⟩
      go_wp2_with fail
      refine (CM.out _ _ _ HBl.out).mono ?_
      rintro e w4 ⟨g4, cap4, rfl, hown4, hb4⟩
      have hp2 := (hb4.block w.heap.size (Array.getElem?_eq_some_iff.1 P1.out).1).trans P1.out
      have hfr : w4.frozen? ⟨w.heap.size, 0, none⟩ = false := free_of_one hp2
      have hc2 : w4.cell? ⟨w.heap.size, 0, none⟩ = some (.slice none 0 0) := cell_of_one hp2
      have O2 := Lib.hid (own_set (u := .slice (some ⟨g4, 0, none⟩) pic.length cap4) hown4 hp2 (by decide))
      have P4 := Lib.hid hp2
      have B4 := Lib.hid (B0.out.trans (hb4.mono B0.out.size))
      have hs3 := B0.out.size
      clear hown4 hp2 hb4
      go_wp2_with fail
      refine bodyPost_ret (v := .agg #[.slice (some ⟨g4, 0, none⟩) pic.length cap4]) (by simp [results, Tryd.results79, go_sem, cell_of_one (one_setCell P4.out)]) rfl ⟨g4, cap4, rfl, Joins.ownsRow_le O2.out hs3, B4.out.setCell (by simp) _⟩
end Go.Proofs.YtfdefbfakdndiaaDoor
