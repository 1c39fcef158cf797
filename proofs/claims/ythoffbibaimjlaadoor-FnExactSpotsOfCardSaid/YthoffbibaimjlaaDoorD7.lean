/- Contracts of single functions, and plain lemmas, on which the exact laws of this seat rest; each holds under the conditions that it states. -/
import Derived.Test.YthoffbibaimjlaaDoorSp
import Derived.Test.YthoffbibaimjlaaDoorQc
import Derived.Test.YthoffbibaimjlaaDoorD4
namespace Go.Proofs.YthoffbibaimjlaaDoor
set_option linter.unusedVariables false
set_option linter.unusedSimpArgs false
open Go.RowKit

set_option maxHeartbeats 4000000 in
set_option maxRecDepth 100000 in
/-- the black pixels of a matrix -/
theorem blacks_any (ss : List ByteArray) (w : World) (hok : validB ss = true) :
    Calls Tryd.prog 26 #[.agg (matC ss)] w (fun e w' => ∃ ao n cap, e = .returned (.slice ao n cap) ∧ OwnS w' w.heap.size (.slice ao n cap) (spL (pixF ss) (row0 ss).size ((row0 ss).size * ss.length)) ∧ Below w.heap.size w w') := by
  obtain ⟨i0, hi, hz0, hz1, hz2⟩ := info_parts infoSp
  have V := vp_of hok
  have hw16 := V.w16
  have hn16 := V.n16
  have hsz := matC_size ss
  have hone := matC_one ss
  have hMM := matC_yes hok
  obtain ⟨M, hM⟩ : ∃ M, matC ss = M := ⟨_, rfl⟩
  rw [hM] at hsz hone hMM ⊢
  have HI : Hid ((Tryd.prog.info? 44).map (·.size) = some M.size) := by show _ = _; rw [hsz]; exact infoM
  have HZ := Lib.hid (zeros_size.trans hsz.symm)
  have HO := Lib.hid hone
  have hG : ∀ j, wordsOf ss j < 4294967296 := fun j => words_lt V j
  have HBk : Hid (∀ (x y : Nat) W, x < (row0 ss).size → y < ss.length → Calls Tryd.prog 35 #[.agg M, .int .i64 x, .int .i64 y] W (SaysB (pixF ss y x) W)) := fun x y W hx hy => by
    have := black_any M (row0 ss).size ss.length (wordsOf ss) x y W hMM hw16 hn16 hG
    rw [words_bit V] at this
    unfold pixI at this
    rw [in_range hx hy] at this
    simpa [pixF] using this
  obtain ⟨f, hf⟩ : ∃ f, pixF ss = f := ⟨_, rfl⟩
  rw [hf] at HBk ⊢
  obtain ⟨a, ha⟩ : ∃ a, (row0 ss).size = a := ⟨_, rfl⟩
  obtain ⟨b, hbb⟩ : ∃ b, ss.length = b := ⟨_, rfl⟩
  rw [ha] at HBk hMM hw16 ⊢
  rw [hbb] at HBk hMM hn16 ⊢
  have HMM := Lib.hid hMM
  have hm0 : (w.alloc (.cells M 44)).heap[w.heap.size]? = some (.cells M 44 (0, 0)) := heap_alloc_last w _
  have cb : (w.alloc (.cells M 44)).cell? ⟨w.heap.size, 1, none⟩ = some (.int .i64 b) := by
    rw [Joins.cell_of_block hm0 1, HMM.out]; rfl
  have HM0 := Lib.hid hm0
  clear hM hsz hone hok hMM V hf ha hbb hG hm0
  go_enter Tryd.func26, Tryd.ntmps26
  go_wp2_with fail
  go_loopw [3, 8] (fun v yv wr => ∃ y : Nat, y ≤ b ∧ yv = .int .i64 y ∧ (∃ ao n cap, v = .slice ao n cap) ∧ OwnS wr (w.heap.size + 1) v (spL f a (y * a)) ∧ Below (w.heap.size + 1) (w.alloc (.cells M 44)) wr) (fun _ yv _ => b - (intOf yv).toNat)
  case atStart =>
    refine ⟨0, Nat.zero_le _, rfl, ⟨_, _, _, rfl⟩, ?_, Below.refl _ _⟩
    rw [Nat.zero_mul]
    exact World.ownsRow_nil _ _ _ _
  case round =>
    clear cb
    obtain ⟨y, hy, rfl, ⟨ao, m, cap, rfl⟩, hown, hbel⟩ := hrel
    have HO2 := Lib.hid hown
    have HB := Lib.hid hbel
    by_cases hlt : y < b
    · have kyb : (y : Int) < (b : Int) := by omega
      have c0 : wr.cell? ⟨w.heap.size, 0, none⟩ = some (.int .i64 a) := by
        rw [Joins.cell_of_block ((hbel.block w.heap.size (by omega)).trans HM0.out) 0, HMM.out]; rfl
      clear hown hbel
      go_wp2
      go_loopw [3, 13] (fun v xv wr => ∃ x : Nat, x ≤ a ∧ xv = .int .i64 x ∧ (∃ ao n cap, v = .slice ao n cap) ∧ OwnS wr (w.heap.size + 1) v (spL f a (y * a + x)) ∧ Below (w.heap.size + 1) (w.alloc (.cells M 44)) wr) (fun _ xv _ => a - (intOf xv).toNat)
      case atStart => exact ⟨0, Nat.zero_le _, rfl, ⟨_, _, _, rfl⟩, HO2.out, HB.out⟩
      case round =>
        clear HO2 HB c0
        obtain ⟨x, hx, rfl, ⟨ao, m, cap, rfl⟩, hown, hbel⟩ := hrel
        by_cases hlt2 : x < a
        · have kxw : (x : Int) < (a : Int) := by omega
          have hsn := spL_snoc f a y x hlt2
          have cb := fun W => HBk.out x y W hlt2 hlt
          have hle := spL_len f a (y * a + x)
          have hNle : y * a ≤ 256 := Nat.le_trans (Nat.mul_le_mul hy (Nat.le_refl _)) (Nat.mul_le_mul hn16 hw16)
          have hs3 := hbel.size
          have M3 := Lib.hid ((hbel.block w.heap.size (by omega)).trans HM0.out)
          have HO2 := Lib.hid hown
          have HB := Lib.hid hbel
          cases hbt : f y x with
          | true =>
            rw [hbt, if_pos rfl] at hsn
            rw [hbt] at cb
            have CBt := Lib.hid cb
            obtain ⟨L, hL⟩ : ∃ L, spL f a (y * a + x) = L := ⟨_, rfl⟩
            rw [hL] at hsn HO2 hle
            have HSN := Lib.hid hsn
            have hM2 : L.length ≤ 300 := by omega
            clear hown hbel hsn hbt cb hL
            go_wp2_with (refine wpList_load_row rfl 44 _ rfl w.heap.size rfl 44 M (0, 0) _ M3.out Tryd.underlying44 rfl HI.out ?_)
            refine (CBt.out _).mono ?_
            rintro e w4 ⟨rfl, hb4⟩
            have O4 : Hid (OwnS w4 (w.heap.size + 1) (.slice ao m cap) L) := own_below HO2.out hb4
            have B4 : Hid (Below (w.heap.size + 1) (w.alloc (.cells M 44)) w4) := HB.out.trans (hb4.mono (by simp at hs3; omega))
            have hs4 : w.heap.size + 1 ≤ w4.heap.size := by have := hb4.size; simp at hs3; omega
            clear hb4 HO2 HB
            go_wp2_with (at_builtin; refine wpList_append_own _ rfl _ _ 30 rfl (w.heap.size + 1) 56 i0 (.agg #[.int .i64 0, .int .i64 0]) 2 16 Tryd.underlying30 hi hz0 hz1 hz2 rfl (by decide) _ _ _ rfl (World.ownsRow.alloc O4.out _) ⟨w4.heap.size, 0, none⟩ 1 1 [.int .i64 x, .int .i64 y] rfl rfl (two_cells_new _ _ _ _) (by intro u hu; simp at hu; rcases hu with rfl | rfl <;> rfl) (by unfold maxLen; omega) (by omega) (by simp; omega) ?_)
            intro v' w2 hown' hgr _
            have o1 := World.ownsRow.alloc O4.out (.cells #[.int .i64 x, .int .i64 y] 56)
            have B2 : Hid (Below (w.heap.size + 1) (w.alloc (.cells M 44)) w2) := (B4.out.alloc hs4 _).grown hgr (by simp; omega) (fun k hk => (o1.lt k hk).1)
            have O2 : Hid (OwnS w2 (w.heap.size + 1) v' (spL f a (y * a + (x + 1)))) := by
              show OwnS _ _ _ _
              unfold OwnS
              rw [show y * a + (x + 1) = y * a + x + 1 from by omega, HSN.out, flat2_snoc, List.length_append]
              exact hown'
            obtain ⟨g', c', rfl⟩ := Joins.ownsRow_form hown' (by omega)
            clear hown' hgr o1
            go_wp2
            go_roundw
            case rel => exact ⟨x + 1, by omega, by go_num, ⟨_, _, _, rfl⟩, O2.out, B2.out⟩
            case measure => simp [intOf]; omega
          | false =>
            rw [hbt] at hsn cb
            rw [show (if false = true then [((x : Int), (y : Int))] else []) = [] from rfl, List.append_nil] at hsn
            have CBt := Lib.hid cb
            have O2 : Hid (OwnS wr (w.heap.size + 1) (.slice ao m cap) (spL f a (y * a + (x + 1)))) := by
              show OwnS _ _ _ _
              rw [show y * a + (x + 1) = y * a + x + 1 from by omega, hsn]
              exact hown
            clear hown hbel hsn hbt cb HO2 hle
            go_wp2_with (refine wpList_load_row rfl 44 _ rfl w.heap.size rfl 44 M (0, 0) _ M3.out Tryd.underlying44 rfl HI.out ?_)
            refine (CBt.out _).mono ?_
            rintro e w4 ⟨rfl, hb4⟩
            have O4 : Hid (OwnS w4 (w.heap.size + 1) (.slice ao m cap) (spL f a (y * a + (x + 1)))) := own_below O2.out hb4
            have B4 : Hid (Below (w.heap.size + 1) (w.alloc (.cells M 44)) w4) := HB.out.trans (hb4.mono (by simp at hs3; omega))
            clear hb4 O2 HB
            go_wp2
            go_roundw
            case rel => exact ⟨x + 1, by omega, by go_num, ⟨_, _, _, rfl⟩, O4.out, B4.out⟩
            case measure => simp [intOf]; omega
        · obtain rfl : x = a := by omega
          have e1 : y * x + x = (y + 1) * x := by rw [Nat.add_mul, Nat.one_mul]
          rw [e1] at hown
          have HO2 := Lib.hid hown
          have HB := Lib.hid hbel
          clear hown hbel e1
          go_wp2
          go_roundw
          case rel => exact ⟨y + 1, hlt, by go_num, ⟨_, _, _, rfl⟩, HO2.out, HB.out⟩
          case measure => simp [intOf]; omega
    · obtain rfl : y = b := by omega
      rw [Nat.mul_comm y a] at hown
      have hs3 := hbel.size
      have O3 : Hid (OwnS wr w.heap.size (.slice ao m cap) (spL f a (a * y))) := Joins.ownsRow_le hown (by omega)
      have B3 : Hid (Below w.heap.size w wr) := (Joins.below_alloc1 w _).trans (hbel.mono (by omega))
      clear hown hbel HO2 HB
      go_wp2
      go_ret
      exact ⟨_, _, _, rfl, O3.out, B3.out⟩

end Go.Proofs.YthoffbibaimjlaaDoor
