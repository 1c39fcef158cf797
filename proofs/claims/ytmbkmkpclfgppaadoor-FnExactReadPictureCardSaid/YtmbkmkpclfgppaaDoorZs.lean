/- Contracts of single functions, and plain lemmas, on which the exact laws of this seat rest; each holds under the conditions that it states. -/
import Derived.Test.YtmbkmkpclfgppaaDoorZr
import Derived.Test.YtmbkmkpclfgppaaDoorPc
namespace Go.Proofs.YtmbkmkpclfgppaaDoor
set_option linter.unusedVariables false
set_option linter.unusedSimpArgs false
open Go.RowKit

/-- the two errors and the type of errors lie there -/
structure TextVars (w : World) : Prop where
  len : ∃ x, w.cell? ⟨1, 0, none⟩ = some (.iface 98 x)
  cnt : ∃ T x, w.cell? ⟨0, 0, none⟩ = some (.iface T x)
  typ : ErrType w
theorem TextVars.below {w w' : World} (h : TextVars w) (hb : Below w.heap.size w w') : TextVars w' := by
  obtain ⟨⟨x, h1⟩, ⟨T, y, h2⟩, h3⟩ := h
  exact ⟨⟨x, cell_kept hb h1⟩, ⟨T, y, cell_kept hb h2⟩, h3.below hb⟩
theorem TextVars.errLen {w : World} (h : TextVars w) : ErrLen w := by
  obtain ⟨x, h1⟩ := h.len
  exact ⟨_, x, h1⟩
/-- what rowsOfText says -/
def SaysRows (s : ByteArray) (w : World) (e : Ending) (w' : World) : Prop :=
  (∃ v, e = .returned (.tuple #[v, .nilIface]) ∧ OwnP w' w.heap.size v (piecesP s) ∧ Below w.heap.size w w')
  ∨ (validB (piecesP s) = false ∧ ∃ v T x, e = .returned (.tuple #[v, .iface T x]) ∧ Below w.heap.size w w')

set_option maxHeartbeats 4000000 in
set_option maxRecDepth 100000 in
theorem rowsOfText_any (s : ByteArray) (w : World) (hs : s.size ≤ 1048576) (hv : TextVars w) : Calls Tryd.prog 10 #[.string s] w (SaysRows s w) := by
  obtain ⟨i0, hi, hz0, hz1, hz2⟩ := info_parts Tryd.info9
  have HV := Lib.hid (fun W (hb : Below w.heap.size w W) => hv.below hb)
  have H0 : Hid (RowI s [] s) := ⟨rfl, Nat.le_refl _⟩
  clear hv
  go_enter Tryd.func10, Tryd.ntmps10
  go_wp2
  go_loopw [0, 4, 8] (fun sv ov iv wr => ∃ (u : Value) (k : Nat) (done : List ByteArray) (rest : ByteArray), u = ov ∧ iv = .int .i64 k ∧ sv = .string rest ∧ k ≤ 16 ∧ done.length = k ∧ Hid (RowI s done rest) ∧ wr.ownsRow w.heap.size 9 1 u k (done.map Value.string) ∧ Below w.heap.size w wr) (fun _ _ iv _ => 16 - (intOf iv).toNat)
  case atStart => exact ⟨_, 0, [], s, rfl, rfl, rfl, by omega, rfl, H0.out, World.ownsRow_nil _ _ _ _, Below.refl _ _⟩
  case round =>
    clear H0
    obtain ⟨u, k, done, rest, rfl, rfl, rfl, hk, hdl, HR, hown, hbel⟩ := hrel
    have hrs := HR.out.2
    have HO := Lib.hid hown
    have HB := Lib.hid hbel
    have hs1 := hbel.size
    clear hown hbel
    by_cases hlt : k < 16
    · have klt : (k : Int) < 16 := by omega
      have HVw := HV.out _ HB.out
      have hsn := Lib.hid (fun x => strs_snocP done x)
      have HDl := Lib.hid hdl
      by_cases hg : goodRow rest
      · have C := Lib.hid (wordOfRow_yes rest wr hg)
        have HE := Lib.hid (good_end HR.out hg)
        clear hg HVw hdl
        go_wp2_with fail
        refine C.out.mono ?_
        rintro e w1 ⟨rfl, hb1⟩
        have B1 := Lib.hid (HB.out.trans (hb1.mono hs1))
        have O1 := Lib.hid (own_below HO.out hb1)
        have hs2 := B1.out.size
        clear hb1
        go_wp2_with fail
        refine (as_nil _ _).mono ?_
        rintro e w3 ⟨rfl, rfl⟩
        have B3 : Hid (Below w.heap.size w (w1.alloc (.cells #[.pointer none] 48))) := B1.out.alloc hs2 _
        have O3 : Hid ((w1.alloc (.cells #[.pointer none] 48)).ownsRow w.heap.size 9 1 u k (done.map Value.string)) := O1.out.alloc _
        have hs3 := B3.out.size
        obtain ⟨w3, hw3⟩ : ∃ W, w1.alloc (.cells #[.pointer none] 48) = W := ⟨_, rfl⟩
        rw [hw3] at B3 O3 hs3 ⊢
        clear hw3
        go_wp2_with (at_builtin; refine wpList_append_own _ rfl _ _ 22 rfl w.heap.size 9 i0 (.string ⟨#[]⟩) 1 16 Tryd.underlying22 hi hz0 hz1 hz2 rfl (by decide) _ _ _ rfl (O3.out.alloc _) ⟨w3.heap.size, 0, none⟩ 1 1 [.string rest] rfl rfl (cell_one_new _ _ _) (by intro u hu; simp at hu; subst hu; rfl) (by unfold maxLen; omega) (by omega) (by simp; omega) ?_)
        intro v' w4 hown' hgr _
        have o1 := O3.out.alloc (.cells #[.string rest] 9)
        have B4 : Hid (Below w.heap.size w w4) := (B3.out.alloc hs3 _).grown hgr (by simp; omega) (fun k hk => (o1.lt k hk).1)
        have O4 : Hid (OwnP w4 w.heap.size v' (piecesP s)) := by
          show World.ownsRow _ _ _ _ _ _ _
          rw [HE.out, (hsn.out rest), List.length_append, HDl.out]; exact hown'
        clear hown' hgr o1
        go_wp2
        go_ret2
        exact Or.inl ⟨_, rfl, O4.out, B4.out⟩
      · have C := Lib.hid (wordOfRow_bad rest wr hg HVw.errLen)
        have HLn := Lib.hid HVw.len
        clear hg HVw hdl
        go_wp2_with fail
        refine C.out.mono ?_
        rintro e w1 (⟨x, r, b, hst, rfl, hbb, hblk, hb1⟩ | ⟨hlg, v, rfl, hve, hb1⟩)
        · have B1 := Lib.hid (HB.out.trans (hb1.mono hs1))
          have O1 := Lib.hid (own_below HO.out hb1)
          have HSt := Lib.hid hst
          have hs2 := B1.out.size
          have HT := Lib.hid (HV.out _ (B1.out.alloc hs2 (.cells #[.pointer none] 48))).typ
          have hbl : b < w1.heap.size := (Array.getElem?_eq_some_iff.1 hblk).1
          have HK := Lib.hid hblk
          have hxr : x ≤ 16 ∧ x < rest.size := ⟨hst.1, hst.2.1.1⟩
          clear hb1 hst hblk
          go_wp2_with fail
          refine (as_hit ⟨b, 0, none⟩ ⟨w1.heap.size, 0, none⟩ (.pointer none) _ HT.out (by rw [World.cell?_alloc_mark]; rfl) (by simp)).mono ?_
          rintro e w3 ⟨rfl, w2, hb2, hw3⟩
          have hb3 : Below w1.heap.size w1 w3 := by
            rw [hw3]
            exact ((Joins.below_alloc1 w1 _).trans (hb2.mono (by simp))).setCell (Nat.le_refl _) _
          have ct : w3.cell? ⟨w1.heap.size, 0, none⟩ = some (.pointer (some ⟨b, 0, none⟩)) := by
            rw [hw3]
            exact World.cell?_setCell_same _ _ _ ((hb2.cell (p := ⟨w1.heap.size, 0, none⟩) (by simp)).trans (by rw [World.cell?_alloc_mark]; rfl))
          have cx : w3.cell? ⟨b, 0, none⟩ = some (.int .i64 x) := (hb3.cell (p := ⟨b, 0, none⟩) hbl).trans (Joins.cell_of_block HK.out 0)
          have cr : w3.cell? ⟨b, 1, none⟩ = some (.int .i32 r) := (hb3.cell (p := ⟨b, 1, none⟩) hbl).trans (Joins.cell_of_block HK.out 1)
          have HKb : Hid (w3.heap[b]? = some (.cells #[.int .i64 x, .int .i32 r] 52 (0, 0))) := (hb3.block b hbl).trans HK.out
          have HKt : Hid (w3.heap[w1.heap.size]? = some (.cells #[.pointer (some ⟨b, 0, none⟩)] 48 (0, 0))) := by
            show _ = _
            rw [hw3]
            exact one_setCell ((hb2.block w1.heap.size (by simp)).trans (heap_alloc_last w1 _))
          have B3 := Lib.hid (B1.out.trans (hb3.mono hs2))
          have O3 := Lib.hid (own_below O1.out hb3)
          have hs3 := B3.out.size
          clear hw3 hb2 hb3
          by_cases h47 : r = 47
          · subst h47
            have HR2 := Lib.hid (slash_step HR.out HSt.out)
            have kx0 : (0 : Int) ≤ (x : Int) := by omega
            have kx1 : (x : Int) ≤ (rest.size : Int) := by omega
            have kx2 : (x : Int) + 1 ≤ (rest.size : Int) := by omega
            obtain ⟨p, hp⟩ : ∃ p, rest.extract 0 x = p := ⟨_, rfl⟩
            rw [hp] at HR2
            go_wp2_with (at_builtin; refine wpList_append_own _ rfl _ _ 22 rfl w.heap.size 9 i0 (.string ⟨#[]⟩) 1 16 Tryd.underlying22 hi hz0 hz1 hz2 rfl (by decide) _ _ _ rfl (O3.out.alloc _) ⟨w3.heap.size, 0, none⟩ 1 1 [.string p] rfl rfl (cell_one_new _ _ _) (by intro u hu; simp at hu; subst hu; rfl) (by unfold maxLen; omega) (by omega) (by simp; omega) ?_)
            intro v' w4 hown' hgr _
            have o1 := O3.out.alloc (.cells #[.string p] 9)
            have B4 : Hid (Below w.heap.size w w4) := (B3.out.alloc hs3 _).grown hgr (by simp; omega) (fun k hk => (o1.lt k hk).1)
            have O4 : Hid (w4.ownsRow w.heap.size 9 1 v' (k + 1) ((done ++ [p]).map Value.string)) := by
              show World.ownsRow _ _ _ _ _ _ _
              rw [hsn.out p]; exact hown'
            have c4t : w4.cell? ⟨w1.heap.size, 0, none⟩ = some (.pointer (some ⟨b, 0, none⟩)) := Joins.cell_of_block (var_far (by rw [Below.heap_alloc _ _ _ (Array.getElem?_eq_some_iff.1 HKt.out).1]; exact HKt.out) o1 (by decide) hgr) 0
            have c4x : w4.cell? ⟨b, 0, none⟩ = some (.int .i64 x) := Joins.cell_of_block (var_far (by rw [Below.heap_alloc _ _ _ (Array.getElem?_eq_some_iff.1 HKb.out).1]; exact HKb.out) o1 (by decide) hgr) 0
            clear hown' hgr o1
            go_wp2
            go_roundw
            case rel => exact ⟨_, k + 1, done ++ [p], _, rfl, by go_num, rfl, by omega, by rw [List.length_append, HDl.out]; rfl, HR2.out, O4.out, B4.out⟩
            case measure => simp [intOf]; omega
          · have HBad := Lib.hid (strange_bad HR.out HSt.out h47)
            have hr47 : ((r : Int) != 47) = true := by rw [bne_iff_ne]; omega
            clear h47
            go_wp2_with (at_builtin; refine wpList_append_own _ rfl _ _ 22 rfl w.heap.size 9 i0 (.string ⟨#[]⟩) 1 16 Tryd.underlying22 hi hz0 hz1 hz2 rfl (by decide) _ _ _ rfl (O3.out.alloc _) ⟨w3.heap.size, 0, none⟩ 1 1 [.string rest] rfl rfl (cell_one_new _ _ _) (by intro u hu; simp at hu; subst hu; rfl) (by unfold maxLen; omega) (by omega) (by simp; omega) ?_)
            intro v' w4 hown' hgr _
            have o1 := O3.out.alloc (.cells #[.string rest] 9)
            have B4 : Hid (Below w.heap.size w w4) := (B3.out.alloc hs3 _).grown hgr (by simp; omega) (fun k hk => (o1.lt k hk).1)
            clear hown' hgr o1
            go_wp2
            go_ret2
            exact Or.inr ⟨HBad.out, _, _, _, rfl, B4.out⟩
        · obtain ⟨y, hy⟩ := HLn.out
          obtain rfl : v = .iface 98 y := Option.some.inj (hve.symm.trans hy)
          have HBad := Lib.hid (long_bad HR.out hlg)
          have B1 := Lib.hid (HB.out.trans (hb1.mono hs1))
          have O1 := Lib.hid (own_below HO.out hb1)
          have hs2 := B1.out.size
          have HT := Lib.hid (HV.out _ (B1.out.alloc hs2 (.cells #[.pointer none] 48))).typ
          clear hb1 hlg hve hy
          go_wp2_with fail
          refine (as_miss y ⟨w1.heap.size, 0, none⟩ _ HT.out).mono ?_
          rintro e w3 ⟨rfl, hb2⟩
          have hb3 : Below w1.heap.size w1 w3 := (Joins.below_alloc1 w1 _).trans (hb2.mono (by simp))
          have B3 := Lib.hid (B1.out.trans (hb3.mono hs2))
          have O3 := Lib.hid (own_below O1.out hb3)
          have hs3 := B3.out.size
          clear hb2 hb3
          go_wp2_with (at_builtin; refine wpList_append_own _ rfl _ _ 22 rfl w.heap.size 9 i0 (.string ⟨#[]⟩) 1 16 Tryd.underlying22 hi hz0 hz1 hz2 rfl (by decide) _ _ _ rfl (O3.out.alloc _) ⟨w3.heap.size, 0, none⟩ 1 1 [.string rest] rfl rfl (cell_one_new _ _ _) (by intro u hu; simp at hu; subst hu; rfl) (by unfold maxLen; omega) (by omega) (by simp; omega) ?_)
          intro v' w4 hown' hgr _
          have o1 := O3.out.alloc (.cells #[.string rest] 9)
          have B4 : Hid (Below w.heap.size w w4) := (B3.out.alloc hs3 _).grown hgr (by simp; omega) (fun k hk => (o1.lt k hk).1)
          clear hown' hgr o1
          go_wp2
          go_ret2
          exact Or.inr ⟨HBad.out, _, _, _, rfl, B4.out⟩
    · obtain rfl : k = 16 := by omega
      have HBad := Lib.hid (many_bad HR.out hdl)
      obtain ⟨T, y, hy⟩ := (HV.out _ HB.out).cnt
      go_wp2
      go_quiet (fail)
      go_wp2
      go_ret2
      exact Or.inr ⟨HBad.out, _, _, _, rfl, HB.out.trans (Joins.below_draws _ _ _)⟩
end Go.Proofs.YtmbkmkpclfgppaaDoor
