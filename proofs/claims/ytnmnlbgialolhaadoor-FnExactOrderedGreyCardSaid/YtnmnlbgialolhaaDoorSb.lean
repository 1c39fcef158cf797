/- Contracts of single functions, and plain lemmas, on which the exact laws of this seat rest; each holds under the conditions that it states. -/
import Derived.Test.YtnmnlbgialolhaaDoorPb
namespace Go.Proofs.YtnmnlbgialolhaaDoor
set_option linter.unusedVariables false
open Go.RowKit

set_option maxHeartbeats 4000000 in
set_option maxRecDepth 100000 in
theorem l01Make_any (lb off cap wd h : Nat) (bs : List Bool) (w : World) (hw : 1 ≤ wd ∧ wd ≤ 16) (hh : 1 ≤ h ∧ h ≤ 16) (hbl : bs.length = wd * h) (hb : Bools w lb off bs) :
    Calls Tryd.prog 72 #[.int .i64 wd, .slice (some ⟨lb, off, none⟩) (wd * h) cap] w (TookPic w (mkPic wd h (fun y x => bs.getD (y * wd + x) false))) := by
  obtain ⟨i0, hi, hz0, hz1, hz2⟩ := info_parts Tryd.info9
  obtain ⟨j0, hj, hy0, hy1, hy2⟩ := info_parts Tryd.info5
  obtain ⟨f, hf⟩ : ∃ f : Nat → Nat → Bool, (fun y x => bs.getD (y * wd + x) false) = f := ⟨_, rfl⟩
  have hfv : ∀ y x, y < h → x < wd → w.cell? ⟨lb, off + (y * wd + x), none⟩ = some (.bool (f y x)) := fun y x hy hx => by
    have h1 : (y + 1) * wd ≤ h * wd := Nat.mul_le_mul_right _ hy
    rw [Nat.add_mul, Nat.one_mul] at h1
    rw [hb.2 (y * wd + x) (by rw [hbl, Nat.mul_comm wd h]; omega), ← hf]
  rw [hf]
  have HF := Lib.hid hfv
  have hlb := hb.1
  obtain ⟨N, hN⟩ : ∃ N, wd * h = N := ⟨_, rfl⟩
  have hNle : N ≤ 256 := by rw [← hN]; exact Nat.mul_le_mul hw.2 hh.2
  rw [hN]
  have HN := Lib.hid hN
  clear hfv hf hbl hb hN
  obtain ⟨hw1, hw2⟩ := hw
  obtain ⟨hh1, hh2⟩ := hh
  go_enter Tryd.func72, Tryd.ntmps72
  go_wp2
  go_loopw [6] (fun fv wr => ∃ (y g c F : Nat), y ≤ h ∧ y * wd = F ∧ fv = .int .i64 F ∧ wr.heap[w.heap.size + 1 + 1]? = some (.cells #[.slice (some ⟨g, 0, none⟩) y c] 26 (0, 0)) ∧ OwnP wr w.heap.size (.slice (some ⟨g, 0, none⟩) y c) (mkPic wd y f) ∧ wr.heap[w.heap.size]? = some (.cells #[.slice none 0 0] 26 (0, 0)) ∧ Below w.heap.size w wr) (fun fv _ => N - (intOf fv).toNat)
  case atStart =>
    refine ⟨0, w.heap.size + 1, 0, 0, Nat.zero_le _, by omega, rfl, ?_, ?_, ?_, Joins.below_alloc3 _ _ _ _⟩
    · have := heap_alloc_last ((w.alloc (.cells #[.slice none 0 0] 26)).alloc (.cells #[] 9)) (.cells #[.slice (some ⟨w.heap.size + 1, 0, none⟩) 0 0] 26)
      simp only [World.size_alloc] at this
      exact this
    · have := World.ownsRow_lit (base := w.heap.size) (e := 9) (size := 1) (w.alloc (.cells #[.slice none 0 0] 26)) #[] 0 (by simp) (by unfold maxLen; omega) rfl
      simp only [World.size_alloc] at this
      exact this.alloc _
    · rw [Below.heap_alloc _ _ _ (by simp; omega), Below.heap_alloc _ _ _ (by simp)]
      exact heap_alloc_last _ _
  case round =>
    obtain ⟨y, g, c, F, hy, hyF, rfl, hP, hrows, hH, hbel⟩ := hrel
    obtain ⟨wo, rfl⟩ : ∃ wo : World, wo = wr := ⟨_, rfl⟩
    by_cases hlt : y < h
    · have hFN : F + wd ≤ N := by
        have h1 : (y + 1) * wd ≤ h * wd := Nat.mul_le_mul_right _ hlt
        rw [Nat.add_mul, Nat.one_mul, hyF, Nat.mul_comm h wd, HN.out] at h1
        exact h1
      have HyF := Lib.hid hyF
      have HP := Lib.hid hP
      have HR := Lib.hid hrows
      have HH := Lib.hid hH
      have HB := Lib.hid hbel
      clear hyF hP hrows hH hbel
      have hFN' : (F : Int) < (N : Int) := by omega
      go_wp2
      go_loopw [7, 8, 9] (fun rv xv _ wr => ∃ (x : Nat), x ≤ wd ∧ xv = .int .i64 x ∧ wr.ownsRow w.heap.size 5 1 rv x (bytesV (mkRow (f y) x)) ∧ wr.heap[w.heap.size + 1 + 1]? = some (.cells #[.slice (some ⟨g, 0, none⟩) y c] 26 (0, 0)) ∧ OwnP wr w.heap.size (.slice (some ⟨g, 0, none⟩) y c) (mkPic wd y f) ∧ wr.heap[w.heap.size]? = some (.cells #[.slice none 0 0] 26 (0, 0)) ∧ Below w.heap.size w wr) (fun _ xv _ _ => wd - (intOf xv).toNat)
      case atStart =>
        have hs := HB.out.size
        refine ⟨0, Nat.zero_le _, rfl, World.ownsRow_lit (base := w.heap.size) (e := 5) (size := 1) wo #[] 0 hs (by unfold maxLen; omega) rfl, ?_, HR.out.alloc _, ?_, HB.out.alloc hs _⟩
        · rw [Below.heap_alloc _ _ _ (Array.getElem?_eq_some_iff.1 HP.out).1]; exact HP.out
        · rw [Below.heap_alloc _ _ _ (Array.getElem?_eq_some_iff.1 HH.out).1]; exact HH.out
      case round =>
        obtain ⟨x, hx, rfl, hown, hP, hrows, hH, hbel⟩ := hrel
        by_cases hxw : x < wd
        · have hcell := (hbel.cell (p := ⟨lb, off + (y * wd + x), none⟩) hlb).trans (HF.out y x hlt hxw)
          rw [HyF.out] at hcell
          have hsn := mkRow_snoc (f y) x
          have hs := hbel.size
          have kx0 : (0 : Int) ≤ (x : Int) := by omega
          have kF : (F : Int) + (x : Int) < (N : Int) := by omega
          have HO := Lib.hid hown
          have HP := Lib.hid hP
          have HR := Lib.hid hrows
          have HH := Lib.hid hH
          have HB2 := Lib.hid hbel
          clear hown hP hrows hH hbel
          cases hbit : f y x with
          | true =>
            rw [hbit] at hcell hsn
            have HSN : Hid (mkRow (f y) (x + 1) = mkRow (f y) x ++ [35]) := hsn
            clear hbit hsn
            go_wp2_with (at_builtin; refine wpList_append_own _ rfl _ _ 50 rfl w.heap.size 5 j0 (.int .u8 0) 1 1 Tryd.underlying50 hj hy0 hy1 hy2 rfl (by decide) _ _ _ rfl (HO.out.alloc _) ⟨wr.heap.size, 0, none⟩ 1 1 [.int .u8 35] rfl rfl (cell_one_new _ _ _) (by intro u hu; simp at hu; subst hu; rfl) (by unfold maxLen; omega) (by omega) (by simp; omega) ?_)
            intro v' w1 hown' hgrow _
            have R := make_step HO.out HP.out HR.out HH.out HB2.out hgrow
            have hown2 : w1.ownsRow w.heap.size 5 1 v' (x + 1) (bytesV (mkRow (f y) (x + 1))) := by
              rw [HSN.out, bytesV_snoc]; exact hown'
            have HO2 := Lib.hid hown2
            have HRR := Lib.hid R
            clear hown' hgrow hown2 R
            go_wp2
            go_roundw
            case rel =>
              exact ⟨x + 1, by omega, by go_num, HO2.out, HRR.out.1, HRR.out.2.1, HRR.out.2.2.1, HRR.out.2.2.2⟩
            case measure => simp [intOf]; omega
          | false =>
            rw [hbit] at hcell hsn
            have HSN : Hid (mkRow (f y) (x + 1) = mkRow (f y) x ++ [46]) := hsn
            clear hbit hsn
            go_wp2_with (at_builtin; refine wpList_append_own _ rfl _ _ 50 rfl w.heap.size 5 j0 (.int .u8 0) 1 1 Tryd.underlying50 hj hy0 hy1 hy2 rfl (by decide) _ _ _ rfl (HO.out.alloc _) ⟨wr.heap.size, 0, none⟩ 1 1 [.int .u8 46] rfl rfl (cell_one_new _ _ _) (by intro u hu; simp at hu; subst hu; rfl) (by unfold maxLen; omega) (by omega) (by simp; omega) ?_)
            intro v' w1 hown' hgrow _
            have R := make_step HO.out HP.out HR.out HH.out HB2.out hgrow
            have hown2 : w1.ownsRow w.heap.size 5 1 v' (x + 1) (bytesV (mkRow (f y) (x + 1))) := by
              rw [HSN.out, bytesV_snoc]; exact hown'
            have HO2 := Lib.hid hown2
            have HRR := Lib.hid R
            clear hown' hgrow hown2 R
            go_wp2
            go_roundw
            case rel =>
              exact ⟨x + 1, by omega, by go_num, HO2.out, HRR.out.1, HRR.out.2.1, HRR.out.2.2.1, HRR.out.2.2.2⟩
            case measure => simp [intOf]; omega
        · obtain rfl : x = wd := by omega
          obtain ⟨gr, cr, rfl⟩ := Joins.ownsRow_form hown (by omega)
          have hl : (mkRow (f y) x).length = x := mkRow_len _ _
          have hcv : (convert 50 9 (.slice (some ⟨gr, 0, none⟩) x cr)).run Tryd.prog wr = .ok (.string (rowOf (f y) x)) wr := by
            have := run_convert_bytes_back (P := Tryd.prog) wr 50 9 5 ⟨gr, 0, none⟩ cr (mkRow (f y) x) Tryd.underlying50 Tryd.underlying5 Tryd.underlying9
              (fun j hj => hown.cells (g := gr) rfl j _ (by unfold bytesV; rw [List.getElem?_map, List.getElem?_eq_getElem hj]; rfl))
            rwa [hl] at this
          have hsn := mkPic_snoc x y f
          obtain ⟨s, hs⟩ : ∃ s, rowOf (f y) x = s := ⟨_, rfl⟩
          rw [hs] at hcv hsn
          have hPc : wr.cell? ⟨w.heap.size + 1 + 1, 0, none⟩ = some (.slice (some ⟨g, 0, none⟩) y c) := Joins.cell_of_block hP 0
          have hlen := mkPic_len x y f
          have hrow' : wr.ownsRow w.heap.size 9 1 (.slice (some ⟨g, 0, none⟩) y c) y ((mkPic x y f).map Value.string) := by
            have := hrows
            unfold OwnP at this
            rwa [hlen] at this
          have HR := Lib.hid hrow'
          have HP := Lib.hid hP
          have HH := Lib.hid hH
          have HB2 := Lib.hid hbel
          have HSN := Lib.hid hsn
          have hsz := hbel.size
          clear hown hP hrows hrow' hH hbel hsn hs hl hlen
          go_wp2_with (at_builtin; refine wpList_append_own _ rfl _ _ 22 rfl w.heap.size 9 i0 (.string ⟨#[]⟩) 1 16 Tryd.underlying22 hi hz0 hz1 hz2 rfl (by decide) _ _ _ rfl (HR.out.alloc _) ⟨wr.heap.size, 0, none⟩ 1 1 [.string s] rfl rfl (cell_one_new _ _ _) (by intro u hu; simp at hu; subst hu; rfl) (by unfold maxLen; omega) (by omega) (by simp; omega) ?_)
          intro v' w1 hown' hgrow _
          have hP1 := var_far (by rw [Below.heap_alloc _ _ _ (Array.getElem?_eq_some_iff.1 HP.out).1]; exact HP.out) (HR.out.alloc _) (by decide) hgrow
          have hH1 := var_far (by rw [Below.heap_alloc _ _ _ (Array.getElem?_eq_some_iff.1 HH.out).1]; exact HH.out) (HR.out.alloc _) (by decide) hgrow
          have o1 := HR.out.alloc (.cells #[.string s] 9)
          have hbel1 : Below w.heap.size w w1 := (HB2.out.alloc hsz _).grown hgrow (by simp; omega) (fun k hk => (o1.lt k hk).1)
          have hP1c : w1.cell? ⟨w.heap.size + 1 + 1, 0, none⟩ = some (.slice (some ⟨g, 0, none⟩) y c) := Joins.cell_of_block hP1 0
          have hfr : w1.frozen? ⟨w.heap.size + 1 + 1, 0, none⟩ = false := free_of_one hP1
          obtain ⟨g', c', rfl⟩ := Joins.ownsRow_form hown' (by omega)
          go_wp2
          go_roundw
          case rel =>
            have hne := own_ne hown' hP1 (by decide)
            have hR2 : OwnP (w1.setCell ⟨w.heap.size + 1 + 1, 0, none⟩ (.slice (some ⟨g', 0, none⟩) (y + 1) c')) w.heap.size (.slice (some ⟨g', 0, none⟩) (y + 1) c') (mkPic x (y + 1) f) := by
              have := ownsRow_setCell_other hown' (a := ⟨w.heap.size + 1 + 1, 0, none⟩) hne (.slice (some ⟨g', 0, none⟩) (y + 1) c')
              unfold OwnP
              rw [HSN.out, List.length_append, mkPic_len, List.map_append]
              exact this
            exact ⟨y + 1, g', c', F + x, hlt, by rw [Nat.add_mul, Nat.one_mul, HyF.out], by go_num, one_setCell hP1, hR2, (Below.heap_setCell _ _ _ _ (by simp; omega)).trans hH1, hbel1.setCell (by simp; omega) _⟩
          case measure => simp [intOf]; omega
    · obtain rfl : y = h := by omega
      have hFN : F = N := by rw [← hyF, ← HN.out, Nat.mul_comm]
      subst hFN
      have hPc : wo.cell? ⟨w.heap.size + 1 + 1, 0, none⟩ = some (.slice (some ⟨g, 0, none⟩) y c) := Joins.cell_of_block hP 0
      have hHc : wo.cell? ⟨w.heap.size, 0, none⟩ = some (.slice none 0 0) := Joins.cell_of_block hH 0
      have hfr : wo.frozen? ⟨w.heap.size, 0, none⟩ = false := free_of_one hH
      have HR := Lib.hid hrows
      have HP := Lib.hid hP
      have HH := Lib.hid hH
      have HB2 := Lib.hid hbel
      clear hrows hP hH hbel hyF
      go_wp2
      refine bodyPost_ret (v := .agg #[.slice (some ⟨g, 0, none⟩) y c]) (by simp [results, Tryd.results72, go_sem, cell_of_one (one_setCell HH.out)]) rfl ⟨g, c, by rw [mkPic_len], ?_, HB2.out.setCell (by simp) _⟩
      rw [mkPic_len]
      exact Joins.ownsRow_le (ownsRow_setCell_other HR.out (a := ⟨w.heap.size, 0, none⟩) (own_ne HR.out HH.out (by decide)) _) (by omega)
end Go.Proofs.YtnmnlbgialolhaaDoor

/- Contracts of single functions, and plain lemmas, on which the exact laws of this seat rest; each holds under the conditions that it states. -/
namespace Go.Proofs.YtnmnlbgialolhaaDoor
set_option linter.unusedVariables false
open Go.RowKit

/-- the pixels of a function, in reading order -/
def listF (f : Nat → Nat → Bool) (wd N : Nat) : List Bool := (List.range N).map fun i => f (i / wd) (i % wd)
theorem listF_len (f : Nat → Nat → Bool) (wd N : Nat) : (listF f wd N).length = N := by simp [listF]
theorem listF_snoc (f : Nat → Nat → Bool) (wd y x : Nat) (hx : x < wd) : boolV (listF f wd (y * wd + x + 1)) = boolV (listF f wd (y * wd + x)) ++ [.bool (f y x)] := by
  have h1 : (y * wd + x) / wd = y := by rw [Nat.mul_comm, Nat.mul_add_div (by omega), Nat.div_eq_of_lt hx, Nat.add_zero]
  have h2 : (y * wd + x) % wd = x := by rw [Nat.mul_comm, Nat.mul_add_mod, Nat.mod_eq_of_lt hx]
  simp [boolV, listF, List.range_succ, h1, h2]
theorem listF_at (f : Nat → Nat → Bool) (wd h y x : Nat) (hy : y < h) (hx : x < wd) : (listF f wd (wd * h)).getD (y * wd + x) false = f y x := by
  have h1 : (y * wd + x) / wd = y := by rw [Nat.mul_comm, Nat.mul_add_div (by omega), Nat.div_eq_of_lt hx, Nat.add_zero]
  have h2 : (y * wd + x) % wd = x := by rw [Nat.mul_comm, Nat.mul_add_mod, Nat.mod_eq_of_lt hx]
  have h3 : (y + 1) * wd ≤ h * wd := Nat.mul_le_mul_right _ hy
  rw [Nat.add_mul, Nat.one_mul, Nat.mul_comm h wd] at h3
  have hlt : y * wd + x < wd * h := by omega
  simp [listF, List.getD, hlt, h1, h2]
theorem listF_pic (f : Nat → Nat → Bool) (wd h : Nat) : mkPic wd h (fun y x => (listF f wd (wd * h)).getD (y * wd + x) false) = mkPic wd h f :=
  mkPic_congr fun y hy x hx => listF_at f wd h y x hy hx

/-- a picture made of the list -/
theorem make_list (f : Nat → Nat → Bool) (lb cap wd h : Nat) (w : World) (hw : 1 ≤ wd ∧ wd ≤ 16) (hh : 1 ≤ h ∧ h ≤ 16) (hb : Bools w lb 0 (listF f wd (wd * h))) :
    Calls Tryd.prog 72 #[.int .i64 wd, .slice (some ⟨lb, 0, none⟩) (wd * h) cap] w (TookPic w (mkPic wd h f)) := by
  have := l01Make_any lb 0 cap wd h (listF f wd (wd * h)) w hw hh (listF_len _ _ _) hb
  rwa [listF_pic] at this
end Go.Proofs.YtnmnlbgialolhaaDoor

/- Contracts of single functions, and plain lemmas, on which the exact laws of this seat rest; each holds under the conditions that it states. -/
namespace Go.Proofs.YtnmnlbgialolhaaDoor
set_option linter.unusedVariables false
open Go.RowKit

/-- a shifted pixel -/
def shF (ss : List ByteArray) (dx dy : Int) (y x : Nat) : Bool := pixI ss ((x : Int) - dx) ((y : Int) - dy)

end Go.Proofs.YtnmnlbgialolhaaDoor

/- Contracts of single functions, and plain lemmas, on which the exact laws of this seat rest; each holds under the conditions that it states. -/
namespace Go.Proofs.YtnmnlbgialolhaaDoor
set_option linter.unusedVariables false
open Go.RowKit

def shOk (ss : List ByteArray) (dx dy : Int) : Bool := validB ss && inB dx (-16) 16 && inB dy (-16) 16
def shP (ss : List ByteArray) (dx dy : Int) : List ByteArray := if shOk ss dx dy then mkPic (row0 ss).size ss.length (shF ss dx dy) else []

end Go.Proofs.YtnmnlbgialolhaaDoor
