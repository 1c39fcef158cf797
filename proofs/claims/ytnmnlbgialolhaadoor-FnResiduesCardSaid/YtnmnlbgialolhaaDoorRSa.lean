/- Contracts of single functions, and plain lemmas, on which the exact laws of this seat rest; each holds under the conditions that it states. -/
import Derived.Test.YtnmnlbgialolhaaDoorSc
import Derived.Test.YtnmnlbgialolhaaDoorPb
namespace Go.Proofs.YtnmnlbgialolhaaDoor
set_option linter.unusedVariables false
set_option linter.unusedSimpArgs false
open Go.RowKit
attribute [local go_sem] Oper.semAt_some

/-- is an odd number of these pixels black -/
def rsI (ss : List ByteArray) (x y : Int) : Bool := (pixI ss x y != pixI ss (x - 1) y) != (pixI ss x (y - 1) != pixI ss (x - 1) (y - 1))
def rsF (ss : List ByteArray) (y x : Nat) : Bool := rsI ss (x : Int) (y : Int)
def rsP (ss : List ByteArray) : List ByteArray := if validB ss then mkPic (row0 ss).size ss.length (rsF ss) else []
theorem rsP_no {ss : List ByteArray} (h : validB ss = false) : rsP ss = [] := by unfold rsP; rw [h]; rfl
theorem rsP_yes {ss : List ByteArray} (h : validB ss = true) : rsP ss = mkPic (row0 ss).size ss.length (rsF ss) := by unfold rsP; rw [if_pos h]
theorem rsP_len (ss : List ByteArray) : (rsP ss).length ≤ 16 := by
  cases h : validB ss with
  | false => rw [rsP_no h]; simp
  | true => rw [rsP_yes h, mkPic_len]; exact (vp_of h).n16

set_option maxHeartbeats 4000000 in
set_option maxRecDepth 100000 in
theorem l10Residue_any (pb : Nat) (ss : List ByteArray) (w : World) (hpa : PicAt w pb 0 ss) :
    Calls Tryd.prog 38 #[.pointer (some ⟨pb, 0, none⟩)] w (TookPic w (mkPic (row0 ss).size ss.length (rsF ss))) := by
  obtain ⟨i0, hi, hz0, hz1, hz2⟩ := info_parts Tryd.info4
  obtain ⟨b0, off0, cap0, hcc, hst, V⟩ := hpa.open'
  have hw1 := V.w1
  have hw16 := V.w16
  have hn1 := V.n1
  have hn16 := V.n16
  have hP0 : Hid ((w.alloc (.cells #[.slice none 0 0] 26)).heap[w.heap.size]? = some (.cells #[.slice none 0 0] 26 (0, 0))) := heap_alloc_last w _
  have CW : Hid (∀ W, PicAt W pb 0 ss → Calls Tryd.prog 61 #[.pointer (some ⟨pb, 0, none⟩)] W fun e w' => e = .returned (.int .i64 (row0 ss).size) ∧ W = w') := fun W h => l01Width_any _ _ ss W h
  have CH : Hid (∀ W, PicAt W pb 0 ss → Calls Tryd.prog 62 #[.pointer (some ⟨pb, 0, none⟩)] W fun e w' => e = .returned (.int .i64 ss.length) ∧ W = w') := fun W h => l01Height_any _ _ ss W h
  have CB : Hid (∀ (x y : Int) W, PicAt W pb 0 ss → Calls Tryd.prog 86 #[.pointer (some ⟨pb, 0, none⟩), .int .i64 x, .int .i64 y] W fun e w' => e = .returned (.bool (pixI ss x y)) ∧ W = w') := fun x y W h => l01Black_any pb 0 ss x y W h
  have CM := Lib.hid (fun (lb cap : Nat) (W : World) (hB : Bools W lb 0 (listF (rsF ss) (row0 ss).size ((row0 ss).size * ss.length))) => make_list (rsF ss) lb cap (row0 ss).size ss.length W ⟨hw1, hw16⟩ ⟨hn1, hn16⟩ hB)
  have HF : Hid (∀ y x : Nat, ((pixI ss (x : Int) (y : Int) != pixI ss ((x : Int) - 1) (y : Int)) != (pixI ss (x : Int) ((y : Int) - 1) != pixI ss ((x : Int) - 1) ((y : Int) - 1))) = rsF ss y x) := fun y x => rfl
  obtain ⟨f, hf⟩ : ∃ f, rsF ss = f := ⟨_, rfl⟩
  obtain ⟨p, hp⟩ : ∃ p, pixI ss = p := ⟨_, rfl⟩
  rw [hf] at HF CM ⊢
  rw [hp] at HF CB
  obtain ⟨wd, hwd⟩ : ∃ k, (row0 ss).size = k := ⟨_, rfl⟩
  obtain ⟨n, hnn⟩ : ∃ k, ss.length = k := ⟨_, rfl⟩
  rw [hwd] at CW CM hw1 hw16 ⊢
  rw [hnn] at CH CM hn1 hn16 ⊢
  have HPA := Lib.hid hpa
  have hlp : pb < w.heap.size := blk_lt hcc
  obtain ⟨pic, hpic⟩ : ∃ p, mkPic wd n f = p := ⟨_, rfl⟩
  rw [hpic] at CM ⊢
  clear hcc hst V hpa hf hp hwd hnn hpic
  go_enter Tryd.func38, Tryd.ntmps38
  go_wp2
  go_loopw [3, 4] (fun v yv wr => ∃ y : Nat, y ≤ n ∧ yv = .int .i64 y ∧ wr.ownsRow (w.heap.size + 1) 4 1 v (y * wd) (boolV (listF f wd (y * wd))) ∧ Below (w.heap.size + 1) (w.alloc (.cells #[.slice none 0 0] 26)) wr) (fun _ yv _ => n - (intOf yv).toNat)
  case atStart =>
    refine ⟨0, Nat.zero_le _, rfl, ?_, ?_⟩
    · rw [Nat.zero_mul]
      have := World.ownsRow_lit (base := w.heap.size + 1) (e := 4) (size := 1) (w.alloc (.cells #[.slice none 0 0] 26)) #[] 0 (by simp) (by unfold maxLen; omega) rfl
      simpa [boolV, listF] using this
    · exact (Below.refl _ _).alloc (by simp) _
  case round =>
    obtain ⟨y, hy, rfl, hown, hbel⟩ := hrel
    have B0 : Hid (Below w.heap.size w wr) := (Joins.below_alloc1 w (.cells #[.slice none 0 0] 26)).trans (hbel.mono (by simp))
    have A0 := Lib.hid (HPA.out.below B0.out)
    by_cases hlt : y < n
    · have kyn : (y : Int) < (n : Int) := by omega
      have HO := Lib.hid hown
      have HB := Lib.hid hbel
      clear hown hbel
      go_wp2_with fail
      refine (CH.out _ A0.out).mono ?_
      rintro e w' ⟨rfl, rfl⟩
      go_wp2_with fail
      go_loopw [3, 5] (fun v xv wr => ∃ x : Nat, x ≤ wd ∧ xv = .int .i64 x ∧ wr.ownsRow (w.heap.size + 1) 4 1 v (y * wd + x) (boolV (listF f wd (y * wd + x))) ∧ Below (w.heap.size + 1) (w.alloc (.cells #[.slice none 0 0] 26)) wr) (fun _ xv _ => wd - (intOf xv).toNat)
      case atStart => exact ⟨0, Nat.zero_le _, rfl, HO.out, HB.out⟩
      case round =>
        clear HO HB A0 B0
        obtain ⟨x, hx, rfl, hown, hbel⟩ := hrel
        have B0 : Hid (Below w.heap.size w wr) := (Joins.below_alloc1 w (.cells #[.slice none 0 0] 26)).trans (hbel.mono (by simp))
        have A0 := Lib.hid (HPA.out.below B0.out)
        by_cases hlt2 : x < wd
        · have kxw : (x : Int) < (wd : Int) := by omega
          have hsn := listF_snoc f wd y x hlt2
          have hff := HF.out y x
          have c1 := CB.out (x : Int) (y : Int)
          have c2 := CB.out ((x : Int) - 1) (y : Int)
          have c3 := CB.out (x : Int) ((y : Int) - 1)
          have c4 := CB.out ((x : Int) - 1) ((y : Int) - 1)
          obtain ⟨p1, h1⟩ : ∃ t, p (x : Int) (y : Int) = t := ⟨_, rfl⟩
          obtain ⟨p2, h2⟩ : ∃ t, p ((x : Int) - 1) (y : Int) = t := ⟨_, rfl⟩
          obtain ⟨p3, h3⟩ : ∃ t, p (x : Int) ((y : Int) - 1) = t := ⟨_, rfl⟩
          obtain ⟨p4, h4⟩ : ∃ t, p ((x : Int) - 1) ((y : Int) - 1) = t := ⟨_, rfl⟩
          rw [h1] at c1 hff
          rw [h2] at c2 hff
          rw [h3] at c3 hff
          rw [h4] at c4 hff
          rw [← hff] at hsn
          have C1 := Lib.hid c1
          have C2 := Lib.hid c2
          have C3 := Lib.hid c3
          have C4 := Lib.hid c4
          have hNle : y * wd ≤ 256 := Nat.le_trans (Nat.mul_le_mul hy (Nat.le_refl _)) (Nat.mul_le_mul hn16 hw16)
          have hs1 := hbel.size
          have HO := Lib.hid hown
          have HB := Lib.hid hbel
          have HSN := Lib.hid hsn
          obtain ⟨M, hM⟩ : ∃ M, y * wd + x = M := ⟨_, rfl⟩
          have HM := Lib.hid hM
          rw [hM] at HO HSN
          have hM2 : M ≤ 300 := by omega
          clear hown hbel hsn hM hff c1 c2 c3 c4 h1 h2 h3 h4
          go_wp2_with fail
          refine (CW.out _ A0.out).mono ?_
          rintro e w' ⟨rfl, rfl⟩
          go_wp2_with fail
          refine (C1.out _ A0.out).mono ?_
          rintro e w' ⟨rfl, rfl⟩
          go_wp2_with fail
          refine (C2.out _ A0.out).mono ?_
          rintro e w' ⟨rfl, rfl⟩
          go_wp2_with fail
          refine (C3.out _ A0.out).mono ?_
          rintro e w' ⟨rfl, rfl⟩
          go_wp2_with fail
          refine (C4.out _ A0.out).mono ?_
          rintro e w' ⟨rfl, rfl⟩
          go_wp2_with (at_builtin; refine wpList_append_own _ rfl _ _ 87 rfl (w.heap.size + 1) 4 i0 (.bool false) 1 1 Tryd.underlying87 hi hz0 hz1 hz2 rfl (by decide) _ _ _ rfl (HO.out.alloc _) ⟨wr.heap.size, 0, none⟩ 1 1 [.bool (!((!(p1 == p2)) == (!(p3 == p4))))] rfl rfl (cell_one_new _ _ _) (by intro u hu; simp at hu; subst hu; rfl) (by unfold maxLen; omega) (by omega) (by simp at hs1 ⊢; omega) ?_)
          intro v' w2 hown' hgr _
          have o1 := HO.out.alloc (.cells #[.bool (!((!(p1 == p2)) == (!(p3 == p4))))] 4)
          have B2 : Hid (Below (w.heap.size + 1) (w.alloc (.cells #[.slice none 0 0] 26)) w2) := (HB.out.alloc (by simp at hs1; omega) _).grown hgr (by simp at hs1 ⊢; omega) (fun k hk => (o1.lt k hk).1)
          have O2 : Hid (w2.ownsRow (w.heap.size + 1) 4 1 v' (y * wd + (x + 1)) (boolV (listF f wd (y * wd + (x + 1))))) := by
            show World.ownsRow _ _ _ _ _ _ _
            rw [show y * wd + (x + 1) = M + 1 from by rw [← HM.out]; omega, HSN.out]
            exact hown'
          clear hown' hgr o1
          go_wp2
          go_roundw
          case rel => exact ⟨x + 1, by omega, by go_num, O2.out, B2.out⟩
          case measure => simp [intOf]; omega
        · obtain rfl : x = wd := by omega
          have e1 : y * x + x = (y + 1) * x := by rw [Nat.add_mul, Nat.one_mul]
          rw [e1] at hown
          have HO := Lib.hid hown
          have HB := Lib.hid hbel
          clear hown hbel e1
          go_wp2_with fail
          refine (CW.out _ A0.out).mono ?_
          rintro e w' ⟨rfl, rfl⟩
          go_wp2
          go_roundw
          case rel => exact ⟨y + 1, hlt, by go_num, HO.out, HB.out⟩
          case measure => simp [intOf]; omega
    · obtain rfl : y = n := by omega
      rw [Nat.mul_comm y wd] at hown
      have h1 : 1 * 1 ≤ wd * y := Nat.mul_le_mul hw1 hn1
      obtain ⟨g, cap2, rfl⟩ := Joins.ownsRow_form hown (by omega)
      have HBl : Hid (Bools wr g 0 (listF f wd (wd * y))) := own_bools hown (listF_len _ _ _)
      have P1 := Lib.hid ((hbel.block w.heap.size (by simp)).trans hP0.out)
      clear hown hbel h1
      go_wp2_with fail
      refine (CH.out _ A0.out).mono ?_
      rintro e w' ⟨rfl, rfl⟩
      go_wp2_with fail
      refine (CW.out _ A0.out).mono ?_
      rintro e w' ⟨rfl, rfl⟩
      go_wp2_with fail
      refine (CM.out _ _ _ HBl.out).mono ?_
      rintro e w4 ⟨g4, cap4, rfl, hown4, hb4⟩
      have hp2 := (hb4.block w.heap.size (Array.getElem?_eq_some_iff.1 P1.out).1).trans P1.out
      have hfr : w4.frozen? ⟨w.heap.size, 0, none⟩ = false := free_of_one hp2
      have hc2 : w4.cell? ⟨w.heap.size, 0, none⟩ = some (.slice none 0 0) := cell_of_one hp2
      have O2 := Lib.hid (own_set (u := .slice (some ⟨g4, 0, none⟩) pic.length cap4) hown4 hp2 (by decide))
      have P4 := Lib.hid hp2
      have B4 := Lib.hid (B0.out.trans (hb4.mono B0.out.size))
      have hs3 := B0.out.size
      clear hown4 hp2 hb4
      go_wp2_with fail
      refine bodyPost_ret (v := .agg #[.slice (some ⟨g4, 0, none⟩) pic.length cap4]) (by simp [results, Tryd.results38, go_sem, cell_of_one (one_setCell P4.out)]) rfl ⟨g4, cap4, rfl, Joins.ownsRow_le O2.out hs3, B4.out.setCell (by simp) _⟩

set_option maxHeartbeats 4000000 in
set_option maxRecDepth 100000 in
theorem spec_Residue (u : Value) (ss : List ByteArray) (w : World) (hN : ss.length ≤ maxLen) (hz : ∀ s ∈ ss, s.size ≤ maxLen) (hu : Sl w u ss) :
    Calls Tryd.prog 11 #[.agg #[u]] w (SaysPic (rsP ss) (validB ss) w) := by
  obtain ⟨W0, hW0⟩ : ∃ W0, (w.alloc (.cells #[u] 26)).alloc (.cells #[.slice none 0 0] 26) = W0 := ⟨_, rfl⟩
  have hs0 : W0.heap.size = w.heap.size + 1 + 1 := by rw [← hW0]; simp
  have hb0 : Below w.heap.size w W0 := by rw [← hW0]; exact Joins.below_alloc2 _ _ _
  have p0 : W0.heap[w.heap.size]? = some (.cells #[u] 26 (0, 0)) := by
    rw [← hW0, Below.heap_alloc _ _ _ (by first | (simp; done) | (simp; omega))]; exact heap_alloc_last w _
  have p1 : W0.heap[w.heap.size + 1]? = some (.cells #[.slice none 0 0] 26 (0, 0)) := by
    rw [← hW0]
    exact heap_alloc2_new _ _ _
  have HW := Lib.hid hW0
  have HB0 := Lib.hid hb0
  have KR : Hid (∀ W, Below W0.heap.size W0 W → W.heap[w.heap.size + 1]? = some (.cells #[.slice none 0 0] 26 (0, 0))) := fun W hb => (hb.block _ (by omega)).trans p1
  have CL := Lib.hid (l01Is_any w.heap.size 0 u ss W0 (cell_of_one p0) (hu.below hb0) hN hz)
  cases hok : validB ss with
  | false =>
    have e1 : Hid (rsP ss = []) := rsP_no hok
    rw [hok] at CL
    rw [e1.out]
    clear hok e1 hu hN hz p0 p1 hW0 hb0 hs0
    go_enter Tryd.func11, Tryd.ntmps11
    go_wp2_with fail
    rw [HW.out]
    refine CL.out.mono ?_
    rintro e w1 ⟨rfl, hb1⟩
    have hp1 := KR.out _ hb1
    have hfr : w1.frozen? ⟨w.heap.size + 1, 0, none⟩ = false := free_of_one hp1
    have hc2 : w1.cell? ⟨w.heap.size + 1, 0, none⟩ = some (.slice none 0 0) := cell_of_one hp1
    have B1 : Hid (Below w.heap.size w w1) := HB0.out.trans (hb1.mono HB0.out.size)
    have P1 := Lib.hid hp1
    clear hb1 hp1
    go_wp2_with fail
    refine bodyPost_ret (v := .tuple #[.agg #[.slice none 0 0], .bool false]) (by simp [results, Tryd.results11, go_sem, cell_of_one (one_setCell P1.out)]) rfl ⟨_, _, _, rfl, World.ownsRow_nil _ _ _ _, B1.out.setCell (by show w.heap.size ≤ w.heap.size + 1; omega) _⟩
  | true =>
    have V := vp_of hok
    have e1 : Hid (rsP ss = mkPic (row0 ss).size ss.length (rsF ss)) := rsP_yes hok
    rw [hok] at CL
    have CR : Hid (∀ W, Below W0.heap.size W0 W → Calls Tryd.prog 38 #[.pointer (some ⟨w.heap.size, 0, none⟩)] W (TookPic W (mkPic (row0 ss).size ss.length (rsF ss)))) := fun W hb =>
      l10Residue_any w.heap.size ss W ⟨hok, u, cell_kept hb (cell_of_one p0), (hu.below hb0).below hb⟩
    rw [e1.out]
    obtain ⟨pic, hpic⟩ : ∃ p, mkPic (row0 ss).size ss.length (rsF ss) = p := ⟨_, rfl⟩
    rw [hpic] at CR ⊢
    unfold TookPic at CR
    clear hok e1 hu hN hz p0 p1 hW0 hb0 hs0 hpic V
    go_enter Tryd.func11, Tryd.ntmps11
    go_wp2_with fail
    rw [HW.out]
    refine CL.out.mono ?_
    rintro e w1 ⟨rfl, hb1⟩
    have HB1 := Lib.hid hb1
    clear hb1
    go_wp2_with fail
    refine (CR.out _ HB1.out).mono ?_
    rintro e w5 ⟨g4, cap4, rfl, hown4, hb4⟩
    have hb5 := HB1.out.trans (hb4.mono HB1.out.size)
    have hp2 := KR.out _ hb5
    have hfr : w5.frozen? ⟨w.heap.size + 1, 0, none⟩ = false := free_of_one hp2
    have hc2 : w5.cell? ⟨w.heap.size + 1, 0, none⟩ = some (.slice none 0 0) := cell_of_one hp2
    have O2 := Lib.hid (own_set (u := .slice (some ⟨g4, 0, none⟩) pic.length cap4) hown4 hp2 (by decide))
    have P5 := Lib.hid hp2
    have B5 := Lib.hid (HB0.out.trans (hb5.mono HB0.out.size))
    have hs4 : w.heap.size ≤ w1.heap.size := Nat.le_trans HB0.out.size HB1.out.size
    clear hown4 hp2 hb4 hb5
    go_wp2_with fail
    refine bodyPost_ret (v := .tuple #[.agg #[.slice (some ⟨g4, 0, none⟩) pic.length cap4], .bool true]) (by simp [results, Tryd.results11, go_sem, cell_of_one (one_setCell P5.out)]) rfl ⟨_, _, _, rfl, Joins.ownsRow_le O2.out hs4, B5.out.setCell (by show w.heap.size ≤ w.heap.size + 1; omega) _⟩
end Go.Proofs.YtnmnlbgialolhaaDoor
