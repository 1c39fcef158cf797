/- Contracts of single functions, and plain lemmas, on which the exact laws of this seat rest; each holds under the conditions that it states. -/
import Derived.Test.YtakaglbbcaplhaaDoorPb
import Derived.Test.YtakaglbbcaplhaaDoorQb
import Derived.Test.YtakaglbbcaplhaaDoorQk
import Derived.Test.YtakaglbbcaplhaaDoorD5
namespace Go.Proofs.YtakaglbbcaplhaaDoor
set_option linter.unusedVariables false
set_option linter.unusedSimpArgs false
open Go.RowKit

/-- the spots of the first N pixels that are black -/
def spL (f : Nat → Nat → Bool) (wd N : Nat) : List (Int × Int) := (List.range N).filterMap fun i => if f (i / wd) (i % wd) then some (((i % wd : Nat) : Int), ((i / wd : Nat) : Int)) else none
theorem spL_len (f : Nat → Nat → Bool) (wd N : Nat) : (spL f wd N).length ≤ N := by
  unfold spL
  have := List.length_filterMap_le (fun i => if f (i / wd) (i % wd) then some (((i % wd : Nat) : Int), ((i / wd : Nat) : Int)) else none) (List.range N)
  simpa using this
theorem spL_snoc (f : Nat → Nat → Bool) (wd y x : Nat) (hx : x < wd) : spL f wd (y * wd + x + 1) = spL f wd (y * wd + x) ++ (if f y x then [((x : Int), (y : Int))] else []) := by
  have h1 : (y * wd + x) / wd = y := by rw [Nat.mul_comm, Nat.mul_add_div (by omega), Nat.div_eq_of_lt hx, Nat.add_zero]
  have h2 : (y * wd + x) % wd = x := by rw [Nat.mul_comm, Nat.mul_add_mod, Nat.mod_eq_of_lt hx]
  unfold spL
  rw [List.range_succ, List.filterMap_append]
  congr 1
  simp only [List.filterMap_cons, List.filterMap_nil, h1, h2]
  split <;> simp_all

set_option maxHeartbeats 2000000 in
set_option maxRecDepth 100000 in
theorem l01Spots_any (pb po : Nat) (ss : List ByteArray) (w : World) (hpa : PicAt w pb po ss) :
    Calls Tryd.prog 133 #[.pointer (some ⟨pb, po, none⟩)] w (fun e w' => ∃ v, e = .returned v ∧ (∃ ao n cap, v = .slice ao n cap) ∧ OwnS w' w.heap.size v (spL (pixF ss) (row0 ss).size ((row0 ss).size * ss.length)) ∧ Below w.heap.size w w') := by
  obtain ⟨i0, hi, hz0, hz1, hz2⟩ := info_parts infoSp
  obtain ⟨b0, off0, cap0, hcc, hst, V⟩ := hpa.open'
  have hw1 := V.w1
  have hw16 := V.w16
  have hn1 := V.n1
  have hn16 := V.n16
  have CW : Hid (∀ W, PicAt W pb po ss → Calls Tryd.prog 63 #[.pointer (some ⟨pb, po, none⟩)] W fun e w' => e = .returned (.int .i64 (row0 ss).size) ∧ W = w') := fun W h => l01Width_any _ _ ss W h
  have CH : Hid (∀ W, PicAt W pb po ss → Calls Tryd.prog 64 #[.pointer (some ⟨pb, po, none⟩)] W fun e w' => e = .returned (.int .i64 ss.length) ∧ W = w') := fun W h => l01Height_any _ _ ss W h
  have CB : Hid (∀ (x y : Nat) W, x < (row0 ss).size → y < ss.length → PicAt W pb po ss → Calls Tryd.prog 54 #[.pointer (some ⟨pb, po, none⟩), .int .i64 x, .int .i64 y] W fun e w' => e = .returned (.bool (pixF ss y x)) ∧ W = w') := fun x y W hx hy h => by
    have := l01Black_any _ _ ss (x : Int) (y : Int) W h
    unfold pixI at this
    rw [in_range hx hy] at this
    simpa [pixF] using this
  obtain ⟨f, hf⟩ : ∃ f, pixF ss = f := ⟨_, rfl⟩
  rw [hf] at CB ⊢
  obtain ⟨wd, hwd⟩ : ∃ k, (row0 ss).size = k := ⟨_, rfl⟩
  obtain ⟨n, hnn⟩ : ∃ k, ss.length = k := ⟨_, rfl⟩
  rw [hwd] at CW CB hw1 hw16 ⊢
  rw [hnn] at CH CB hn1 hn16 ⊢
  have HPA := Lib.hid hpa
  have hlp : pb < w.heap.size := blk_lt hcc
  clear hcc hst V hpa hf hwd hnn
  go_enter Tryd.func133, Tryd.ntmps133
  go_wp2
  go_loopw [3, 4] (fun v yv wr => ∃ y : Nat, y ≤ n ∧ yv = .int .i64 y ∧ (∃ ao n cap, v = .slice ao n cap) ∧ OwnS wr w.heap.size v (spL f wd (y * wd)) ∧ Below w.heap.size w wr) (fun _ yv _ => n - (intOf yv).toNat)
  case atStart =>
    refine ⟨0, Nat.zero_le _, rfl, ⟨_, _, _, rfl⟩, ?_, Joins.below_alloc1 _ _⟩
    rw [Nat.zero_mul]
    exact World.ownsRow_lit (base := w.heap.size) (e := 31) (size := 2) w #[] 0 (Nat.le_refl _) (by unfold maxLen; omega) rfl
  case round =>
    obtain ⟨y, hy, rfl, ⟨ao, m, cap, rfl⟩, hown, hbel⟩ := hrel
    have A0 := Lib.hid (HPA.out.below hbel)
    by_cases hlt : y < n
    · have kyn : (y : Int) < (n : Int) := by omega
      have HO := Lib.hid hown
      have HB := Lib.hid hbel
      clear hown hbel
      go_wp2_with fail
      refine (CH.out _ A0.out).mono ?_
      rintro e w' ⟨rfl, rfl⟩
      go_wp2_with fail
      go_loopw [3, 5] (fun v xv wr => ∃ x : Nat, x ≤ wd ∧ xv = .int .i64 x ∧ (∃ ao n cap, v = .slice ao n cap) ∧ OwnS wr w.heap.size v (spL f wd (y * wd + x)) ∧ Below w.heap.size w wr) (fun _ xv _ => wd - (intOf xv).toNat)
      case atStart => exact ⟨0, Nat.zero_le _, rfl, ⟨_, _, _, rfl⟩, HO.out, HB.out⟩
      case round =>
        clear HO HB A0
        obtain ⟨x, hx, rfl, ⟨ao, m, cap, rfl⟩, hown, hbel⟩ := hrel
        have A0 := Lib.hid (HPA.out.below hbel)
        by_cases hlt2 : x < wd
        · have kxw : (x : Int) < (wd : Int) := by omega
          have hsn := spL_snoc f wd y x hlt2
          have cb := fun W => CB.out x y W hlt2 hlt
          have hle := spL_len f wd (y * wd + x)
          have hNle : y * wd ≤ 256 := Nat.le_trans (Nat.mul_le_mul hy (Nat.le_refl _)) (Nat.mul_le_mul hn16 hw16)
          have hs1 := hbel.size
          have HO := Lib.hid hown
          have HB := Lib.hid hbel
          cases hbt : f y x with
          | true =>
            rw [hbt, if_pos rfl] at hsn
            rw [hbt] at cb
            have CBt := Lib.hid cb
            obtain ⟨L, hL⟩ : ∃ L, spL f wd (y * wd + x) = L := ⟨_, rfl⟩
            rw [hL] at hsn HO hle
            have HSN := Lib.hid hsn
            have hM2 : L.length ≤ 300 := by omega
            clear hown hbel hsn hbt cb hL
            go_wp2_with fail
            refine (CW.out _ A0.out).mono ?_
            rintro e w' ⟨rfl, rfl⟩
            go_wp2_with fail
            refine (CBt.out _ A0.out).mono ?_
            rintro e w' ⟨rfl, rfl⟩
            go_wp2_with (at_builtin; refine wpList_append_own _ rfl _ _ 121 rfl w.heap.size 31 i0 (.agg #[.int .i64 0, .int .i64 0]) 2 16 Tryd.underlying121 hi hz0 hz1 hz2 rfl (by decide) _ _ _ rfl (World.ownsRow.alloc HO.out _) ⟨wr.heap.size, 0, none⟩ 1 1 [.int .i64 x, .int .i64 y] rfl rfl (two_cells_new _ _ _ _) (by intro u hu; simp at hu; rcases hu with rfl | rfl <;> rfl) (by unfold maxLen; omega) (by omega) (by simp; omega) ?_)
            intro v' w2 hown' hgr _
            have o1 := World.ownsRow.alloc HO.out (.cells #[.int .i64 x, .int .i64 y] 31)
            have B2 : Hid (Below w.heap.size w w2) := (HB.out.alloc hs1 _).grown hgr (by simp; omega) (fun k hk => (o1.lt k hk).1)
            have O2 : Hid (OwnS w2 w.heap.size v' (spL f wd (y * wd + (x + 1)))) := by
              show OwnS _ _ _ _
              unfold OwnS
              rw [show y * wd + (x + 1) = y * wd + x + 1 from by omega, HSN.out, flat2_snoc, List.length_append]
              exact hown'
            obtain ⟨g', c', rfl⟩ := Joins.ownsRow_form hown' (by omega)
            clear hown' hgr o1
            go_wp2
            go_roundw
            case rel => exact ⟨x + 1, by omega, by go_num, ⟨_, _, _, rfl⟩, O2.out, B2.out⟩
            case measure => simp [intOf]; omega
          | false =>
            rw [hbt] at hsn cb
            rw [show (if false = true then [((x : Int), (y : Int))] else []) = [] from rfl, List.append_nil] at hsn
            have CBt := Lib.hid cb
            have O2 : Hid (OwnS wr w.heap.size (.slice ao m cap) (spL f wd (y * wd + (x + 1)))) := by
              show OwnS _ _ _ _
              rw [show y * wd + (x + 1) = y * wd + x + 1 from by omega, hsn]
              exact hown
            clear hown hbel hsn hbt cb HO hle
            go_wp2_with fail
            refine (CW.out _ A0.out).mono ?_
            rintro e w' ⟨rfl, rfl⟩
            go_wp2_with fail
            refine (CBt.out _ A0.out).mono ?_
            rintro e w' ⟨rfl, rfl⟩
            go_wp2
            go_roundw
            case rel => exact ⟨x + 1, by omega, by go_num, ⟨_, _, _, rfl⟩, O2.out, HB.out⟩
            case measure => simp [intOf]; omega
        · obtain rfl : x = wd := by omega
          have e1 : y * x + x = (y + 1) * x := by rw [Nat.add_mul, Nat.one_mul]
          rw [e1] at hown
          have HO := Lib.hid hown
          have HB := Lib.hid hbel
          clear hown hbel e1
          go_wp2_with fail
          refine (CW.out _ A0.out).mono ?_
          rintro e w' ⟨rfl, rfl⟩
          go_wp2
          go_roundw
          case rel => exact ⟨y + 1, hlt, by go_num, ⟨_, _, _, rfl⟩, HO.out, HB.out⟩
          case measure => simp [intOf]; omega
    · obtain rfl : y = n := by omega
      rw [Nat.mul_comm y wd] at hown
      have HO := Lib.hid hown
      have HB := Lib.hid hbel
      clear hown hbel
      go_wp2_with fail
      refine (CH.out _ A0.out).mono ?_
      rintro e w' ⟨rfl, rfl⟩
      go_wp2_with fail
      go_ret
      exact ⟨_, rfl, ⟨_, _, _, rfl⟩, HO.out, HB.out⟩
end Go.Proofs.YtakaglbbcaplhaaDoor

/- Contracts of single functions, and plain lemmas, on which the exact laws of this seat rest; each holds under the conditions that it states. -/
namespace Go.Proofs.YtakaglbbcaplhaaDoor
set_option linter.unusedVariables false
set_option linter.unusedSimpArgs false
open Go.RowKit

set_option maxHeartbeats 4000000 in
set_option maxRecDepth 100000 in
/-- the black pixels of a matrix -/
theorem blacks_any (ss : List ByteArray) (w : World) (hok : validB ss = true) :
    Calls Tryd.prog 108 #[.agg (matC ss)] w (fun e w' => ∃ ao n cap, e = .returned (.slice ao n cap) ∧ OwnS w' w.heap.size (.slice ao n cap) (spL (pixF ss) (row0 ss).size ((row0 ss).size * ss.length)) ∧ Below w.heap.size w w') := by
  obtain ⟨i0, hi, hz0, hz1, hz2⟩ := info_parts infoSp
  have V := vp_of hok
  have hw16 := V.w16
  have hn16 := V.n16
  have hsz := matC_size ss
  have hone := matC_one ss
  have hMM := matC_yes hok
  obtain ⟨M, hM⟩ : ∃ M, matC ss = M := ⟨_, rfl⟩
  rw [hM] at hsz hone hMM ⊢
  have HI : Hid ((Tryd.prog.info? 73).map (·.size) = some M.size) := by show _ = _; rw [hsz]; exact infoM
  have HZ := Lib.hid (zeros_size.trans hsz.symm)
  have HO := Lib.hid hone
  have hG : ∀ j, wordsOf ss j < 4294967296 := fun j => words_lt V j
  have HBk : Hid (∀ (x y : Nat) W, x < (row0 ss).size → y < ss.length → Calls Tryd.prog 58 #[.agg M, .int .i64 x, .int .i64 y] W (SaysB (pixF ss y x) W)) := fun x y W hx hy => by
    have := black_any M (row0 ss).size ss.length (wordsOf ss) x y W hMM hw16 hn16 hG
    rw [words_bit V] at this
    unfold pixI at this
    rw [in_range hx hy] at this
    simpa [pixF] using this
  obtain ⟨f, hf⟩ : ∃ f, pixF ss = f := ⟨_, rfl⟩
  rw [hf] at HBk ⊢
  obtain ⟨a, ha⟩ : ∃ a, (row0 ss).size = a := ⟨_, rfl⟩
  obtain ⟨b, hbb⟩ : ∃ b, ss.length = b := ⟨_, rfl⟩
  rw [ha] at HBk hMM hw16 ⊢
  rw [hbb] at HBk hMM hn16 ⊢
  have HMM := Lib.hid hMM
  have hm0 : (w.alloc (.cells M 73)).heap[w.heap.size]? = some (.cells M 73 (0, 0)) := heap_alloc_last w _
  have cb : (w.alloc (.cells M 73)).cell? ⟨w.heap.size, 1, none⟩ = some (.int .i64 b) := by
    rw [Joins.cell_of_block hm0 1, HMM.out]; rfl
  have HM0 := Lib.hid hm0
  clear hM hsz hone hok hMM V hf ha hbb hG hm0
  go_enter Tryd.func108, Tryd.ntmps108
  go_wp2_with fail
  go_loopw [3, 8] (fun v yv wr => ∃ y : Nat, y ≤ b ∧ yv = .int .i64 y ∧ (∃ ao n cap, v = .slice ao n cap) ∧ OwnS wr (w.heap.size + 1) v (spL f a (y * a)) ∧ Below (w.heap.size + 1) (w.alloc (.cells M 73)) wr) (fun _ yv _ => b - (intOf yv).toNat)
  case atStart =>
    refine ⟨0, Nat.zero_le _, rfl, ⟨_, _, _, rfl⟩, ?_, Below.refl _ _⟩
    rw [Nat.zero_mul]
    exact World.ownsRow_nil _ _ _ _
  case round =>
    clear cb
    obtain ⟨y, hy, rfl, ⟨ao, m, cap, rfl⟩, hown, hbel⟩ := hrel
    have HO2 := Lib.hid hown
    have HB := Lib.hid hbel
    by_cases hlt : y < b
    · have kyb : (y : Int) < (b : Int) := by omega
      have c0 : wr.cell? ⟨w.heap.size, 0, none⟩ = some (.int .i64 a) := by
        rw [Joins.cell_of_block ((hbel.block w.heap.size (by omega)).trans HM0.out) 0, HMM.out]; rfl
      clear hown hbel
      go_wp2
      go_loopw [3, 13] (fun v xv wr => ∃ x : Nat, x ≤ a ∧ xv = .int .i64 x ∧ (∃ ao n cap, v = .slice ao n cap) ∧ OwnS wr (w.heap.size + 1) v (spL f a (y * a + x)) ∧ Below (w.heap.size + 1) (w.alloc (.cells M 73)) wr) (fun _ xv _ => a - (intOf xv).toNat)
      case atStart => exact ⟨0, Nat.zero_le _, rfl, ⟨_, _, _, rfl⟩, HO2.out, HB.out⟩
      case round =>
        clear HO2 HB c0
        obtain ⟨x, hx, rfl, ⟨ao, m, cap, rfl⟩, hown, hbel⟩ := hrel
        by_cases hlt2 : x < a
        · have kxw : (x : Int) < (a : Int) := by omega
          have hsn := spL_snoc f a y x hlt2
          have cb := fun W => HBk.out x y W hlt2 hlt
          have hle := spL_len f a (y * a + x)
          have hNle : y * a ≤ 256 := Nat.le_trans (Nat.mul_le_mul hy (Nat.le_refl _)) (Nat.mul_le_mul hn16 hw16)
          have hs3 := hbel.size
          have M3 := Lib.hid ((hbel.block w.heap.size (by omega)).trans HM0.out)
          have HO2 := Lib.hid hown
          have HB := Lib.hid hbel
          cases hbt : f y x with
          | true =>
            rw [hbt, if_pos rfl] at hsn
            rw [hbt] at cb
            have CBt := Lib.hid cb
            obtain ⟨L, hL⟩ : ∃ L, spL f a (y * a + x) = L := ⟨_, rfl⟩
            rw [hL] at hsn HO2 hle
            have HSN := Lib.hid hsn
            have hM2 : L.length ≤ 300 := by omega
            clear hown hbel hsn hbt cb hL
            go_wp2_with (refine wpList_load_row rfl 73 _ rfl w.heap.size rfl 73 M (0, 0) _ M3.out Tryd.underlying73 rfl HI.out ?_)
            refine (CBt.out _).mono ?_
            rintro e w4 ⟨rfl, hb4⟩
            have O4 : Hid (OwnS w4 (w.heap.size + 1) (.slice ao m cap) L) := own_below HO2.out hb4
            have B4 : Hid (Below (w.heap.size + 1) (w.alloc (.cells M 73)) w4) := HB.out.trans (hb4.mono (by simp at hs3; omega))
            have hs4 : w.heap.size + 1 ≤ w4.heap.size := by have := hb4.size; simp at hs3; omega
            clear hb4 HO2 HB
            go_wp2_with (at_builtin; refine wpList_append_own _ rfl _ _ 121 rfl (w.heap.size + 1) 31 i0 (.agg #[.int .i64 0, .int .i64 0]) 2 16 Tryd.underlying121 hi hz0 hz1 hz2 rfl (by decide) _ _ _ rfl (World.ownsRow.alloc O4.out _) ⟨w4.heap.size, 0, none⟩ 1 1 [.int .i64 x, .int .i64 y] rfl rfl (two_cells_new _ _ _ _) (by intro u hu; simp at hu; rcases hu with rfl | rfl <;> rfl) (by unfold maxLen; omega) (by omega) (by simp; omega) ?_)
            intro v' w2 hown' hgr _
            have o1 := World.ownsRow.alloc O4.out (.cells #[.int .i64 x, .int .i64 y] 31)
            have B2 : Hid (Below (w.heap.size + 1) (w.alloc (.cells M 73)) w2) := (B4.out.alloc hs4 _).grown hgr (by simp; omega) (fun k hk => (o1.lt k hk).1)
            have O2 : Hid (OwnS w2 (w.heap.size + 1) v' (spL f a (y * a + (x + 1)))) := by
              show OwnS _ _ _ _
              unfold OwnS
              rw [show y * a + (x + 1) = y * a + x + 1 from by omega, HSN.out, flat2_snoc, List.length_append]
              exact hown'
            obtain ⟨g', c', rfl⟩ := Joins.ownsRow_form hown' (by omega)
            clear hown' hgr o1
            go_wp2
            go_roundw
            case rel => exact ⟨x + 1, by omega, by go_num, ⟨_, _, _, rfl⟩, O2.out, B2.out⟩
            case measure => simp [intOf]; omega
          | false =>
            rw [hbt] at hsn cb
            rw [show (if false = true then [((x : Int), (y : Int))] else []) = [] from rfl, List.append_nil] at hsn
            have CBt := Lib.hid cb
            have O2 : Hid (OwnS wr (w.heap.size + 1) (.slice ao m cap) (spL f a (y * a + (x + 1)))) := by
              show OwnS _ _ _ _
              rw [show y * a + (x + 1) = y * a + x + 1 from by omega, hsn]
              exact hown
            clear hown hbel hsn hbt cb HO2 hle
            go_wp2_with (refine wpList_load_row rfl 73 _ rfl w.heap.size rfl 73 M (0, 0) _ M3.out Tryd.underlying73 rfl HI.out ?_)
            refine (CBt.out _).mono ?_
            rintro e w4 ⟨rfl, hb4⟩
            have O4 : Hid (OwnS w4 (w.heap.size + 1) (.slice ao m cap) (spL f a (y * a + (x + 1)))) := own_below O2.out hb4
            have B4 : Hid (Below (w.heap.size + 1) (w.alloc (.cells M 73)) w4) := HB.out.trans (hb4.mono (by simp at hs3; omega))
            clear hb4 O2 HB
            go_wp2
            go_roundw
            case rel => exact ⟨x + 1, by omega, by go_num, ⟨_, _, _, rfl⟩, O4.out, B4.out⟩
            case measure => simp [intOf]; omega
        · obtain rfl : x = a := by omega
          have e1 : y * x + x = (y + 1) * x := by rw [Nat.add_mul, Nat.one_mul]
          rw [e1] at hown
          have HO2 := Lib.hid hown
          have HB := Lib.hid hbel
          clear hown hbel e1
          go_wp2
          go_roundw
          case rel => exact ⟨y + 1, hlt, by go_num, ⟨_, _, _, rfl⟩, HO2.out, HB.out⟩
          case measure => simp [intOf]; omega
    · obtain rfl : y = b := by omega
      rw [Nat.mul_comm y a] at hown
      have hs3 := hbel.size
      have O3 : Hid (OwnS wr w.heap.size (.slice ao m cap) (spL f a (a * y))) := Joins.ownsRow_le hown (by omega)
      have B3 : Hid (Below w.heap.size w wr) := (Joins.below_alloc1 w _).trans (hbel.mono (by omega))
      clear hown hbel HO2 HB
      go_wp2
      go_ret
      exact ⟨_, _, _, rfl, O3.out, B3.out⟩

end Go.Proofs.YtakaglbbcaplhaaDoor
