/- Contracts of single functions, and plain lemmas, on which the exact laws of this seat rest; each holds under the conditions that it states. -/
import Derived.Test.YtaopdhncapoefaaDoorR5
namespace Go.Proofs.YtaopdhncapoefaaDoor
set_option linter.unusedVariables false
set_option linter.unusedSimpArgs false
open Go.RowKit

theorem quadKind_cr (p : Int → Int → Bool) (x y : Int) (w : World) :
    Calls Tryd.prog 43 #[.agg (crS p x y 4)] w (fun e w' => e = .returned (.tuple #[.int .i64 ((kdP p x y - 1 : Nat) : Int), .bool (decide (0 < kdP p x y))]) ∧ Below w.heap.size w w') := by
  have := quadKind_any (p x y) (p (x + -1) y) (p (x + -1) (y + -1)) (p x (y + -1)) w
  exact this

set_option maxHeartbeats 4000000 in
set_option maxRecDepth 100000 in
theorem quadWork_yes (pb : Nat) (v : Value) (ss : List ByteArray) (w : World) (hc : w.cell? ⟨pb, 0, none⟩ = some v) (hN : ss.length ≤ maxLen) (hz : ∀ s ∈ ss, s.size ≤ maxLen) (hv : Sl w v ss) (he : ErrLen w) (hR : RightP w) (hok : validB ss = true) :
    Calls Tryd.prog 40 #[.pointer (some ⟨pb, 0, none⟩)] w (fun e w' => ∃ ao n cap, e = .returned (.slice ao n cap) ∧ OwnN w' w.heap.size (.slice ao n cap) (qcV ss) ∧ Below w.heap.size w w') := by
  obtain ⟨i0, hi, hz0, hz1, hz2⟩ := info_parts infoN64
  have V := vp_of hok
  have hn16 := V.n16
  have hw16 := V.w16
  have C := Lib.hid (reqMat_yes v ss w hN hz hv he hok)
  have hsz := matC_size ss
  have hone := matC_one ss
  have CC : Hid (∀ (x y : Int) W, Below w.heap.size w W → -90 ≤ x ∧ x ≤ 90 → -90 ≤ y ∧ y ≤ 90 → Calls Tryd.prog 42 #[.agg (matC ss), .agg #[.int .i64 x, .int .i64 y]] W (fun e w' => e = .returned (.agg (crS (pixI ss) x y 4)) ∧ Below W.heap.size W w')) := fun x y W hb h1 h2 => by
    have := cornerAt_any (matC ss) (row0 ss).size ss.length (wordsOf ss) x y W (matC_yes hok) V.w16 V.n16 (fun j => words_lt V j) h1 h2 (hR.below hb)
    rwa [show blackB (row0 ss).size ss.length (wordsOf ss) = pixI ss from funext fun x => funext fun y => black_pix V x y] at this
  have hM0 : ∀ W : World, ∀ g, W.heap[g]? = some (.cells (matC ss) 58 (0, 0)) → W.cell? ⟨g, 0, none⟩ = some (.int .i64 (row0 ss).size) ∧ W.cell? ⟨g, 1, none⟩ = some (.int .i64 ss.length) := fun W g h => by
    rw [matC_yes hok] at h
    exact ⟨by rw [Joins.cell_of_block h 0]; rfl, by rw [Joins.cell_of_block h 1]; rfl⟩
  have HM0 := Lib.hid hM0
  have HQV : Hid (qcV ss = qL (pixI ss) ((row0 ss).size + 1) ((ss.length + 1) * ((row0 ss).size + 1))) := by show _ = _; unfold qcV; rw [if_pos hok]
  obtain ⟨p, hp⟩ : ∃ p, pixI ss = p := ⟨_, rfl⟩
  obtain ⟨M, hM⟩ : ∃ M, matC ss = M := ⟨_, rfl⟩
  rw [hp] at CC HQV
  rw [hM] at C CC HM0 hsz hone
  have CK := Lib.hid (fun x y W => quadKind_cr p x y W)
  have HI : Hid ((Tryd.prog.info? 58).map (·.size) = some M.size) := by show _ = _; rw [hsz]; exact infoM
  have HZ := Lib.hid (zeros_size.trans hsz.symm)
  have HO := Lib.hid hone
  have HKl := Lib.hid (fun (x y : Int) => kdP_le p x y)
  obtain ⟨a, ha⟩ : ∃ a, (row0 ss).size = a := ⟨_, rfl⟩
  obtain ⟨b, hb⟩ : ∃ a, ss.length = a := ⟨_, rfl⟩
  rw [ha] at HM0 HQV hw16
  rw [hb] at HM0 HQV hn16
  clear hp hM hsz hone V hM0 hv he hR hok ha hb hN hz
  go_enter Tryd.func40, Tryd.ntmps40
  go_wp2_with fail
  refine C.out.mono ?_
  rintro e w1 ⟨rfl, hb1⟩
  have HB1 := Lib.hid (hb1.alloc hb1.size (.cells M 58))
  have HM1 : Hid ((w1.alloc (.cells M 58)).heap[w1.heap.size]? = some (.cells M 58 (0, 0))) := heap_alloc_last w1 _
  clear hb1 hc
  go_wp2_with (first | (refine wpList_store_new w1 rfl 58 _ _ rfl M rfl rfl 58 zeros HI.out HZ.out HO.out ?_) | (at_make; refine wpList_make_full _ rfl _ _ 32 rfl w.heap.size 2 i0 (.int .i64 0) 1 Tryd.underlying32 hi hz0 hz1 _ _ _ _ 3 rfl rfl rfl rfl ?c1 ?c2 ?c3 ?_))
  case c1 => rw [hz2]; omega
  case c2 => unfold maxLen; omega
  case c3 => exact HB1.out.size
  intro w2 hown hg
  have hbe := (Below.refl _ _).grown hg (Nat.le_refl _) (fun k h => by cases h)
  rw [toList_madeCells_one] at hown
  have O2 : Hid (w2.ownsRow w.heap.size 2 1 (.slice (some ⟨w1.heap.size + 1, 0, none⟩) 3 3) 3 (numsV (qL p (a + 1) 0))) := hown
  have M2 := Lib.hid ((hbe.block w1.heap.size (by simp)).trans HM1.out)
  have hs1 := HB1.out.size
  have B2 := Lib.hid (HB1.out.trans (hbe.mono hs1))
  have hle1 : w.heap.size ≤ w1.heap.size + 1 := by simpa using hs1
  obtain ⟨mb, hmb⟩ : ∃ mb, w1.heap.size = mb := ⟨_, rfl⟩
  rw [hmb] at O2 M2 hle1
  have c2 := HM0.out w2 mb M2.out
  have c20 := c2.1
  have c21 := c2.2
  rw [hmb]
  clear hbe hg hown hmb HM1 HB1 C c2 hs1
  go_wp2
  go_loopw [14] (fun yv wr => ∃ y : Nat, y ≤ b + 1 ∧ yv = .int .i64 y ∧ Hid (wr.ownsRow w.heap.size 2 1 (.slice (some ⟨mb + 1, 0, none⟩) 3 3) 3 (numsV (qL p (a + 1) (y * (a + 1))))) ∧ Hid (wr.heap[mb]? = some (.cells M 58 (0, 0))) ∧ Hid (Below w.heap.size w wr)) (fun yv _ => b + 1 - (intOf yv).toNat)
  case atStart => exact ⟨0, Nat.zero_le _, rfl, by rw [Nat.zero_mul]; exact O2.out, M2.out, B2.out⟩
  case round =>
    clear O2 M2 B2 c20 c21
    obtain ⟨y, hy, rfl, HO2, HM2, HB2⟩ := hrel
    by_cases hlt : y < b + 1
    · have klt : (y : Int) < (b : Int) + 1 := by omega
      have hmul : y * (a + 1) ≤ 289 := Nat.le_trans (Nat.mul_le_mul (by omega : y ≤ 17) (by omega : a + 1 ≤ 17)) (by omega)
      have c2 := HM0.out wr mb HM2.out
      have c20 := c2.1
      have c21 := c2.2
      clear c2
      go_wp2
      go_loopw [20] (fun xv wr => ∃ x : Nat, x ≤ a + 1 ∧ xv = .int .i64 x ∧ Hid (wr.ownsRow w.heap.size 2 1 (.slice (some ⟨mb + 1, 0, none⟩) 3 3) 3 (numsV (qL p (a + 1) (y * (a + 1) + x)))) ∧ Hid (wr.heap[mb]? = some (.cells M 58 (0, 0))) ∧ Hid (Below w.heap.size w wr)) (fun xv _ => a + 1 - (intOf xv).toNat)
      case atStart => exact ⟨0, Nat.zero_le _, rfl, HO2.out, HM2.out, HB2.out⟩
      case round =>
        clear HO2 HM2 HB2 c20 c21
        obtain ⟨x, hx, rfl, HO2, HM2, HB2⟩ := hrel
        by_cases hltx : x < a + 1
        · have kltx : (x : Int) < (a : Int) + 1 := by omega
          have hkd := HKl.out x y
          have HNo := Lib.hid (fun h => @qL_none p (a + 1) y x hltx h)
          have HSo := Lib.hid (fun k hk h => @qL_some p (a + 1) y x k hltx hk h)
          have HAt := Lib.hid (fun k hk => @qL_at p (a + 1) (y * (a + 1) + x) k hk)
          have HLe := Lib.hid (fun j => qc_le p (a + 1) j (y * (a + 1) + x))
          have CKx := Lib.hid (CK.out x y)
          have CCx := Lib.hid (CC.out x y wr HB2.out (by omega) (by omega))
          obtain ⟨C4, hC4⟩ : ∃ C, crS p x y 4 = C := ⟨_, rfl⟩
          obtain ⟨kd, hkk⟩ : ∃ k, kdP p x y = k := ⟨_, rfl⟩
          obtain ⟨t, ht⟩ : ∃ t, y * (a + 1) + x = t := ⟨_, rfl⟩
          rw [hC4] at CKx CCx
          rw [hkk] at CKx hkd HNo HSo
          rw [ht] at HNo HSo HAt HLe HO2
          have ht3 : t ≤ 306 := by omega
          have HT := Lib.hid ht
          clear hC4 hkk ht
          go_wp2_with (refine wpList_load_row rfl 58 _ rfl mb rfl 58 M (0, 0) _ HM2.out Tryd.underlying58 rfl HI.out ?_)
          refine CCx.out.mono ?_
          rintro e w3 ⟨rfl, hb3⟩
          have O3 := Lib.hid (own_below HO2.out hb3)
          have M3 := Lib.hid ((hb3.block mb (Array.getElem?_eq_some_iff.1 HM2.out).1).trans HM2.out)
          have B3 := Lib.hid (HB2.out.trans (hb3.mono HB2.out.size))
          clear hb3 CCx HO2 HM2 HB2
          go_wp2_with fail
          refine (CKx.out _).mono ?_
          rintro e w4 ⟨rfl, hb4⟩
          have O4 := Lib.hid (own_below O3.out hb4)
          have M4 := Lib.hid ((hb4.block mb (Array.getElem?_eq_some_iff.1 M3.out).1).trans M3.out)
          have B4 := Lib.hid (B3.out.trans (hb4.mono B3.out.size))
          clear hb4 CKx O3 M3 B3
          rcases (by omega : kd = 0 ∨ kd = 1 ∨ kd = 2 ∨ kd = 3) with rfl | rfl | rfl | rfl
          · have HNx := Lib.hid (HNo.out rfl)
            clear HNo HSo HAt HLe
            simp only [show ((0 - 1 : Nat) : Int) = 0 from rfl, show decide (0 < 0) = false from rfl]
            go_wp2
            go_roundw
            case rel => exact ⟨x + 1, by omega, by go_num, by rw [← Nat.add_assoc, HT.out, HNx.out]; exact O4.out, M4.out, B4.out⟩
            case measure => simp [intOf]; omega
          · have hold := (O4.out.cellAt 0 (by omega)).trans (HAt.out 0 (by omega))
            have hfz := O4.out.frozenAt 0
            have hst := (O4.out.stored 0 (.int .i64 (((qc p (a + 1) (0 + 1) t : Nat) : Int) + 1))).1
            rw [← HSo.out 0 (by omega) rfl] at hst
            have hq := HLe.out (0 + 1)
            have HS := Lib.hid hst
            obtain ⟨q, hqq⟩ : ∃ q, qc p (a + 1) (0 + 1) t = q := ⟨_, rfl⟩
            rw [hqq] at hold HS hq
            have kq : (q : Int) ≤ 306 := by omega
            have M5 := Lib.hid ((Below.heap_setCell w4 ⟨mb + 1, 0, none⟩ (.int .i64 ((q : Int) + 1)) mb (by simp)).trans M4.out)
            have B5 := Lib.hid (B4.out.setCell (p := ⟨mb + 1, 0, none⟩) hle1 (.int .i64 ((q : Int) + 1)))
            clear HNo HSo HAt HLe O4 M4 B4 hst hqq
            simp only [show ((1 - 1 : Nat) : Int) = 0 from rfl, show decide (0 < 1) = true from rfl]
            go_wp2
            go_roundw
            case rel => exact ⟨x + 1, by omega, by go_num, by rw [← Nat.add_assoc, HT.out]; exact HS.out, M5.out, B5.out⟩
            case measure => simp [intOf]; omega
          · have hold := (O4.out.cellAt 1 (by omega)).trans (HAt.out 1 (by omega))
            have hfz := O4.out.frozenAt 1
            have hst := (O4.out.stored 1 (.int .i64 (((qc p (a + 1) (1 + 1) t : Nat) : Int) + 1))).1
            rw [← HSo.out 1 (by omega) rfl] at hst
            have hq := HLe.out (1 + 1)
            have HS := Lib.hid hst
            obtain ⟨q, hqq⟩ : ∃ q, qc p (a + 1) (1 + 1) t = q := ⟨_, rfl⟩
            rw [hqq] at hold HS hq
            have kq : (q : Int) ≤ 306 := by omega
            have M5 := Lib.hid ((Below.heap_setCell w4 ⟨mb + 1, 1, none⟩ (.int .i64 ((q : Int) + 1)) mb (by simp)).trans M4.out)
            have B5 := Lib.hid (B4.out.setCell (p := ⟨mb + 1, 1, none⟩) hle1 (.int .i64 ((q : Int) + 1)))
            clear HNo HSo HAt HLe O4 M4 B4 hst hqq
            simp only [show ((2 - 1 : Nat) : Int) = 1 from rfl, show decide (0 < 2) = true from rfl]
            go_wp2
            go_roundw
            case rel => exact ⟨x + 1, by omega, by go_num, by rw [← Nat.add_assoc, HT.out]; exact HS.out, M5.out, B5.out⟩
            case measure => simp [intOf]; omega
          · have hold := (O4.out.cellAt 2 (by omega)).trans (HAt.out 2 (by omega))
            have hfz := O4.out.frozenAt 2
            have hst := (O4.out.stored 2 (.int .i64 (((qc p (a + 1) (2 + 1) t : Nat) : Int) + 1))).1
            rw [← HSo.out 2 (by omega) rfl] at hst
            have hq := HLe.out (2 + 1)
            have HS := Lib.hid hst
            obtain ⟨q, hqq⟩ : ∃ q, qc p (a + 1) (2 + 1) t = q := ⟨_, rfl⟩
            rw [hqq] at hold HS hq
            have kq : (q : Int) ≤ 306 := by omega
            have M5 := Lib.hid ((Below.heap_setCell w4 ⟨mb + 1, 2, none⟩ (.int .i64 ((q : Int) + 1)) mb (by simp)).trans M4.out)
            have B5 := Lib.hid (B4.out.setCell (p := ⟨mb + 1, 2, none⟩) hle1 (.int .i64 ((q : Int) + 1)))
            clear HNo HSo HAt HLe O4 M4 B4 hst hqq
            simp only [show ((3 - 1 : Nat) : Int) = 2 from rfl, show decide (0 < 3) = true from rfl]
            go_wp2
            go_roundw
            case rel => exact ⟨x + 1, by omega, by go_num, by rw [← Nat.add_assoc, HT.out]; exact HS.out, M5.out, B5.out⟩
            case measure => simp [intOf]; omega
        · obtain rfl : x = a + 1 := by omega
          have e1 : y * (a + 1) + (a + 1) = (y + 1) * (a + 1) := by rw [Nat.add_mul y 1 (a + 1), Nat.one_mul]
          rw [e1] at HO2
          clear e1
          go_wp2
          go_roundw
          case rel => exact ⟨y + 1, by omega, by go_num, HO2.out, HM2.out, HB2.out⟩
          case measure => simp [intOf]; omega
    · obtain rfl : y = b + 1 := by omega
      have HF : Hid (OwnN wr w.heap.size (.slice (some ⟨mb + 1, 0, none⟩) 3 3) (qcV ss)) := by
        show OwnN _ _ _ _
        rw [HQV.out]
        exact HO2.out
      clear HO2 HM2
      go_wp2
      go_ret
      exact ⟨_, _, _, rfl, HF.out, HB2.out⟩

set_option maxHeartbeats 1000000 in
set_option maxRecDepth 100000 in
theorem quadWork_no (pb : Nat) (v : Value) (ss : List ByteArray) (w : World) (hc : w.cell? ⟨pb, 0, none⟩ = some v) (hN : ss.length ≤ maxLen) (hz : ∀ s ∈ ss, s.size ≤ maxLen) (hv : Sl w v ss) (he : ErrLen w) (hn : NoRes w) (hok : validB ss = false) :
    Calls Tryd.prog 40 #[.pointer (some ⟨pb, 0, none⟩)] w (fun e w' => (∃ T x, e = .panicked [{ v := .iface T x, recovered := false }]) ∧ Below w.heap.size w w') := by
  have C := Lib.hid (reqMat_no v ss w hN hz hv he hn hok)
  clear hv he hn hok
  go_enter Tryd.func40, Tryd.ntmps40
  go_wp2_with fail
  refine C.out.mono ?_
  rintro e w1 ⟨⟨T, x, rfl⟩, hb1⟩
  have HB := Lib.hid hb1
  clear hb1
  go_wp2_with fail
  exact ⟨rfl, ⟨T, x, rfl⟩, HB.out⟩
end Go.Proofs.YtaopdhncapoefaaDoor
