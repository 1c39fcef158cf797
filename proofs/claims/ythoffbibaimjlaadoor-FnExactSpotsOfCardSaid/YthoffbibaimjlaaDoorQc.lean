/- Contracts of single functions, and plain lemmas, on which the exact laws of this seat rest; each holds under the conditions that it states. -/
import Derived.Test.YthoffbibaimjlaaDoorSp
import Derived.Test.YthoffbibaimjlaaDoorQb
import Derived.Test.YthoffbibaimjlaaDoorQk
namespace Go.Proofs.YthoffbibaimjlaaDoor
set_option linter.unusedVariables false
set_option linter.unusedSimpArgs false
open Go.RowKit

/-- the spots of the first N pixels that are black -/
def spL (f : Nat → Nat → Bool) (wd N : Nat) : List (Int × Int) := (List.range N).filterMap fun i => if f (i / wd) (i % wd) then some (((i % wd : Nat) : Int), ((i / wd : Nat) : Int)) else none
theorem spL_len (f : Nat → Nat → Bool) (wd N : Nat) : (spL f wd N).length ≤ N := by
  unfold spL
  have := List.length_filterMap_le (fun i => if f (i / wd) (i % wd) then some (((i % wd : Nat) : Int), ((i / wd : Nat) : Int)) else none) (List.range N)
  simpa using this
theorem spL_snoc (f : Nat → Nat → Bool) (wd y x : Nat) (hx : x < wd) : spL f wd (y * wd + x + 1) = spL f wd (y * wd + x) ++ (if f y x then [((x : Int), (y : Int))] else []) := by
  have h1 : (y * wd + x) / wd = y := by rw [Nat.mul_comm, Nat.mul_add_div (by omega), Nat.div_eq_of_lt hx, Nat.add_zero]
  have h2 : (y * wd + x) % wd = x := by rw [Nat.mul_comm, Nat.mul_add_mod, Nat.mod_eq_of_lt hx]
  unfold spL
  rw [List.range_succ, List.filterMap_append]
  congr 1
  simp only [List.filterMap_cons, List.filterMap_nil, h1, h2]
  split <;> simp_all

set_option maxHeartbeats 2000000 in
set_option maxRecDepth 100000 in
theorem l01Spots_any (pb po : Nat) (ss : List ByteArray) (w : World) (hpa : PicAt w pb po ss) :
    Calls Tryd.prog 24 #[.pointer (some ⟨pb, po, none⟩)] w (fun e w' => ∃ v, e = .returned v ∧ (∃ ao n cap, v = .slice ao n cap) ∧ OwnS w' w.heap.size v (spL (pixF ss) (row0 ss).size ((row0 ss).size * ss.length)) ∧ Below w.heap.size w w') := by
  obtain ⟨i0, hi, hz0, hz1, hz2⟩ := info_parts infoSp
  obtain ⟨b0, off0, cap0, hcc, hst, V⟩ := hpa.open'
  have hw1 := V.w1
  have hw16 := V.w16
  have hn1 := V.n1
  have hn16 := V.n16
  have CW : Hid (∀ W, PicAt W pb po ss → Calls Tryd.prog 29 #[.pointer (some ⟨pb, po, none⟩)] W fun e w' => e = .returned (.int .i64 (row0 ss).size) ∧ W = w') := fun W h => l01Width_any _ _ ss W h
  have CH : Hid (∀ W, PicAt W pb po ss → Calls Tryd.prog 30 #[.pointer (some ⟨pb, po, none⟩)] W fun e w' => e = .returned (.int .i64 ss.length) ∧ W = w') := fun W h => l01Height_any _ _ ss W h
  have CB : Hid (∀ (x y : Nat) W, x < (row0 ss).size → y < ss.length → PicAt W pb po ss → Calls Tryd.prog 33 #[.pointer (some ⟨pb, po, none⟩), .int .i64 x, .int .i64 y] W fun e w' => e = .returned (.bool (pixF ss y x)) ∧ W = w') := fun x y W hx hy h => by
    have := l01Black_any _ _ ss (x : Int) (y : Int) W h
    unfold pixI at this
    rw [in_range hx hy] at this
    simpa [pixF] using this
  obtain ⟨f, hf⟩ : ∃ f, pixF ss = f := ⟨_, rfl⟩
  rw [hf] at CB ⊢
  obtain ⟨wd, hwd⟩ : ∃ k, (row0 ss).size = k := ⟨_, rfl⟩
  obtain ⟨n, hnn⟩ : ∃ k, ss.length = k := ⟨_, rfl⟩
  rw [hwd] at CW CB hw1 hw16 ⊢
  rw [hnn] at CH CB hn1 hn16 ⊢
  have HPA := Lib.hid hpa
  have hlp : pb < w.heap.size := blk_lt hcc
  clear hcc hst V hpa hf hwd hnn
  go_enter Tryd.func24, Tryd.ntmps24
  go_wp2
  go_loopw [3, 4] (fun v yv wr => ∃ y : Nat, y ≤ n ∧ yv = .int .i64 y ∧ (∃ ao n cap, v = .slice ao n cap) ∧ OwnS wr w.heap.size v (spL f wd (y * wd)) ∧ Below w.heap.size w wr) (fun _ yv _ => n - (intOf yv).toNat)
  case atStart =>
    refine ⟨0, Nat.zero_le _, rfl, ⟨_, _, _, rfl⟩, ?_, Joins.below_alloc1 _ _⟩
    rw [Nat.zero_mul]
    exact World.ownsRow_lit (base := w.heap.size) (e := 56) (size := 2) w #[] 0 (Nat.le_refl _) (by unfold maxLen; omega) rfl
  case round =>
    obtain ⟨y, hy, rfl, ⟨ao, m, cap, rfl⟩, hown, hbel⟩ := hrel
    have A0 := Lib.hid (HPA.out.below hbel)
    by_cases hlt : y < n
    · have kyn : (y : Int) < (n : Int) := by omega
      have HO := Lib.hid hown
      have HB := Lib.hid hbel
      clear hown hbel
      go_wp2_with fail
      refine (CH.out _ A0.out).mono ?_
      rintro e w' ⟨rfl, rfl⟩
      go_wp2_with fail
      go_loopw [3, 5] (fun v xv wr => ∃ x : Nat, x ≤ wd ∧ xv = .int .i64 x ∧ (∃ ao n cap, v = .slice ao n cap) ∧ OwnS wr w.heap.size v (spL f wd (y * wd + x)) ∧ Below w.heap.size w wr) (fun _ xv _ => wd - (intOf xv).toNat)
      case atStart => exact ⟨0, Nat.zero_le _, rfl, ⟨_, _, _, rfl⟩, HO.out, HB.out⟩
      case round =>
        clear HO HB A0
        obtain ⟨x, hx, rfl, ⟨ao, m, cap, rfl⟩, hown, hbel⟩ := hrel
        have A0 := Lib.hid (HPA.out.below hbel)
        by_cases hlt2 : x < wd
        · have kxw : (x : Int) < (wd : Int) := by omega
          have hsn := spL_snoc f wd y x hlt2
          have cb := fun W => CB.out x y W hlt2 hlt
          have hle := spL_len f wd (y * wd + x)
          have hNle : y * wd ≤ 256 := Nat.le_trans (Nat.mul_le_mul hy (Nat.le_refl _)) (Nat.mul_le_mul hn16 hw16)
          have hs1 := hbel.size
          have HO := Lib.hid hown
          have HB := Lib.hid hbel
          cases hbt : f y x with
          | true =>
            rw [hbt, if_pos rfl] at hsn
            rw [hbt] at cb
            have CBt := Lib.hid cb
            obtain ⟨L, hL⟩ : ∃ L, spL f wd (y * wd + x) = L := ⟨_, rfl⟩
            rw [hL] at hsn HO hle
            have HSN := Lib.hid hsn
            have hM2 : L.length ≤ 300 := by omega
            clear hown hbel hsn hbt cb hL
            go_wp2_with fail
            refine (CW.out _ A0.out).mono ?_
            rintro e w' ⟨rfl, rfl⟩
            go_wp2_with fail
            refine (CBt.out _ A0.out).mono ?_
            rintro e w' ⟨rfl, rfl⟩
            go_wp2_with (at_builtin; refine wpList_append_own _ rfl _ _ 30 rfl w.heap.size 56 i0 (.agg #[.int .i64 0, .int .i64 0]) 2 16 Tryd.underlying30 hi hz0 hz1 hz2 rfl (by decide) _ _ _ rfl (World.ownsRow.alloc HO.out _) ⟨wr.heap.size, 0, none⟩ 1 1 [.int .i64 x, .int .i64 y] rfl rfl (two_cells_new _ _ _ _) (by intro u hu; simp at hu; rcases hu with rfl | rfl <;> rfl) (by unfold maxLen; omega) (by omega) (by simp; omega) ?_)
            intro v' w2 hown' hgr _
            have o1 := World.ownsRow.alloc HO.out (.cells #[.int .i64 x, .int .i64 y] 56)
            have B2 : Hid (Below w.heap.size w w2) := (HB.out.alloc hs1 _).grown hgr (by simp; omega) (fun k hk => (o1.lt k hk).1)
            have O2 : Hid (OwnS w2 w.heap.size v' (spL f wd (y * wd + (x + 1)))) := by
              show OwnS _ _ _ _
              unfold OwnS
              rw [show y * wd + (x + 1) = y * wd + x + 1 from by omega, HSN.out, flat2_snoc, List.length_append]
              exact hown'
            obtain ⟨g', c', rfl⟩ := Joins.ownsRow_form hown' (by omega)
            clear hown' hgr o1
            go_wp2
            go_roundw
            case rel => exact ⟨x + 1, by omega, by go_num, ⟨_, _, _, rfl⟩, O2.out, B2.out⟩
            case measure => simp [intOf]; omega
          | false =>
            rw [hbt] at hsn cb
            rw [show (if false = true then [((x : Int), (y : Int))] else []) = [] from rfl, List.append_nil] at hsn
            have CBt := Lib.hid cb
            have O2 : Hid (OwnS wr w.heap.size (.slice ao m cap) (spL f wd (y * wd + (x + 1)))) := by
              show OwnS _ _ _ _
              rw [show y * wd + (x + 1) = y * wd + x + 1 from by omega, hsn]
              exact hown
            clear hown hbel hsn hbt cb HO hle
            go_wp2_with fail
            refine (CW.out _ A0.out).mono ?_
            rintro e w' ⟨rfl, rfl⟩
            go_wp2_with fail
            refine (CBt.out _ A0.out).mono ?_
            rintro e w' ⟨rfl, rfl⟩
            go_wp2
            go_roundw
            case rel => exact ⟨x + 1, by omega, by go_num, ⟨_, _, _, rfl⟩, O2.out, HB.out⟩
            case measure => simp [intOf]; omega
        · obtain rfl : x = wd := by omega
          have e1 : y * x + x = (y + 1) * x := by rw [Nat.add_mul, Nat.one_mul]
          rw [e1] at hown
          have HO := Lib.hid hown
          have HB := Lib.hid hbel
          clear hown hbel e1
          go_wp2_with fail
          refine (CW.out _ A0.out).mono ?_
          rintro e w' ⟨rfl, rfl⟩
          go_wp2
          go_roundw
          case rel => exact ⟨y + 1, hlt, by go_num, ⟨_, _, _, rfl⟩, HO.out, HB.out⟩
          case measure => simp [intOf]; omega
    · obtain rfl : y = n := by omega
      rw [Nat.mul_comm y wd] at hown
      have HO := Lib.hid hown
      have HB := Lib.hid hbel
      clear hown hbel
      go_wp2_with fail
      refine (CH.out _ A0.out).mono ?_
      rintro e w' ⟨rfl, rfl⟩
      go_wp2_with fail
      go_ret
      exact ⟨_, rfl, ⟨_, _, _, rfl⟩, HO.out, HB.out⟩
end Go.Proofs.YthoffbibaimjlaaDoor
