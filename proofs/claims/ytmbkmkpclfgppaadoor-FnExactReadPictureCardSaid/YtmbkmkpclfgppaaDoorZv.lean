/- Contracts of single functions, and plain lemmas, on which the exact laws of this seat rest; each holds under the conditions that it states. -/
import Derived.Test.YtmbkmkpclfgppaaDoorZu
namespace Go.Proofs.YtmbkmkpclfgppaaDoor
set_option linter.unusedVariables false
set_option linter.unusedSimpArgs false
open Go.RowKit

set_option maxHeartbeats 2000000 in
set_option maxRecDepth 100000 in
theorem impl_ReadPicture (s : ByteArray) (w : World) (hs : s.size ≤ 1048576) (hv : TextVars w) : Calls Tryd.prog 5 #[.string s] w (SaysPic (readPic s) (validB (piecesP s)) w) := by
  have hP0 : Hid ((w.alloc (.cells #[.slice none 0 0] 24)).heap[w.heap.size]? = some (.cells #[.slice none 0 0] 24 (0, 0))) := heap_alloc_last w _
  have HW0 : Hid (w.heap.size < (w.alloc (.cells #[.slice none 0 0] 24)).heap.size) := by show _ < _; simp
  have B0 := Lib.hid (Joins.below_alloc1 w (.cells #[.slice none 0 0] 24))
  have HV := Lib.hid (fun W (hb : Below w.heap.size w W) => hv.below hb)
  obtain ⟨hz, hN⟩ := piece_sizeP hs
  have CR : Hid (∀ W, Below w.heap.size w W → Calls Tryd.prog 10 #[.string s] W (SaysRows s W)) := fun W hb => rowsOfText_any s W hs (hv.below hb)
  unfold SaysRows at CR
  have CM : Hid (∀ v W, Sl W v (piecesP s) → Below w.heap.size w W → Calls Tryd.prog 11 #[.agg #[v]] W (MatOf (piecesP s) W)) := fun v W hsl hb => matrixOf_any v (piecesP s) W (by unfold maxLen; omega) (fun p hp => by unfold maxLen; have := hz p hp; omega) hsl (hv.below hb).errLen
  unfold MatOf at CM
  have hsz := matC_size (piecesP s)
  have hone := matC_one (piecesP s)
  have CP : Hid (validB (piecesP s) = true → ∀ W, Calls Tryd.prog 12 #[.agg (matC (piecesP s))] W (TookPic W (readPic s))) := fun hok W => by
    have V := vp_of hok
    have := picture_any (matC (piecesP s)) _ _ _ W (matC_yes hok) V.w16 V.n16 (words_ltR V)
    rw [pic_back V] at this
    rw [readPic_yes hok]
    exact this
  have RN := Lib.hid (@readPic_no s)
  obtain ⟨M, hM⟩ : ∃ M, matC (piecesP s) = M := ⟨_, rfl⟩
  rw [hM] at CM CP hsz hone
  obtain ⟨R, hR⟩ : ∃ R, readPic s = R := ⟨_, rfl⟩
  rw [hR] at CP RN ⊢
  obtain ⟨P, hP⟩ : ∃ P, piecesP s = P := ⟨_, rfl⟩
  rw [hP] at CR CM CP RN ⊢
  obtain ⟨ok, hok⟩ : ∃ b, validB P = b := ⟨_, rfl⟩
  rw [hok] at CR CM CP RN ⊢
  have HI : Hid ((Tryd.prog.info? 37).map (·.size) = some M.size) := by show _ = _; rw [hsz]; exact infoM
  have HZ := Lib.hid (zeros_size.trans hsz.symm)
  have HOn := Lib.hid hone
  clear hM hR hP hok hsz hone hs hz hN hv
  go_enter Tryd.func5, Tryd.ntmps5
  go_wp2_with fail
  refine (CR.out _ B0.out).mono ?_
  rintro e w1 (⟨v, rfl, ho, hb1⟩ | ⟨hno, v, T, x, rfl, hb1⟩)
  · obtain ⟨ao1, cap1, rfl⟩ := own_formR ho
    have B1 := Lib.hid (B0.out.trans (hb1.mono (Nat.le_of_lt HW0.out)))
    have P1 := Lib.hid ((hb1.block w.heap.size HW0.out).trans hP0.out)
    have S1 := Lib.hid (OwnP.sl ho)
    have hs1 := B1.out.size
    have hl1 : w.heap.size < w1.heap.size := Nat.lt_of_lt_of_le HW0.out hb1.size
    clear ho hb1
    go_wp2_with fail
    refine (CM.out _ _ S1.out B1.out).mono ?_
    rintro e w2 ⟨rfl, hb2⟩
    have B2 := Lib.hid (B1.out.trans (hb2.mono hs1))
    have P2 := Lib.hid ((hb2.block w.heap.size hl1).trans P1.out)
    have hl2 : w.heap.size < w2.heap.size := Nat.lt_of_lt_of_le hl1 hb2.size
    have hs2 := B2.out.size
    clear hb2
    cases ok with
    | false =>
      obtain rfl := RN.out rfl
      have hp3 := (Below.heap_alloc w2 (.cells M 37) _ hl2).trans P2.out
      have hfr : (w2.alloc (.cells M 37)).frozen? ⟨w.heap.size, 0, none⟩ = false := free_of_one hp3
      have hc2 : (w2.alloc (.cells M 37)).cell? ⟨w.heap.size, 0, none⟩ = some (.slice none 0 0) := cell_of_one hp3
      have P3 := Lib.hid hp3
      have B3 := Lib.hid (B2.out.alloc hs2 (.cells M 37))
      have hss : (w2.setCell ⟨w.heap.size, 0, none⟩ (.slice none 0 0)).heap.size = w2.heap.size := by simp [World.setCell]
      have HX := Lib.hid (cell_of_one ((Below.heap_alloc (w2.setCell ⟨w.heap.size, 0, none⟩ (.slice none 0 0)) (.cells M 37) w.heap.size (by rw [hss]; exact hl2)).trans (one_setCell P2.out)))
      have HBX := Lib.hid ((B2.out.setCell (p := ⟨w.heap.size, 0, none⟩) (Nat.le_refl _) (.slice none 0 0)).alloc (by rw [hss]; exact hs2) (.cells M 37))
      clear hp3 hss
      go_wp2_with (refine wpList_store_new w2 rfl 37 _ _ rfl M rfl rfl 37 zeros HI.out HZ.out HOn.out ?_)
      exact bodyPost_ret (v := .tuple #[.agg #[.slice none 0 0], .bool false]) (by simp [results, Tryd.results5, go_sem, HX.out]) rfl ⟨_, _, _, rfl, World.ownsRow_nil _ _ _ _, HBX.out⟩
    | true =>
      have C3 := Lib.hid (CP.out rfl)
      go_wp2_with (first | (refine wpList_store_new w2 rfl 37 _ _ rfl M rfl rfl 37 zeros HI.out HZ.out HOn.out ?_) | (refine wpList_load_row_g rfl 37 _ rfl w2.heap.size rfl 37 M (0, 0) _ (heap_alloc_last w2 _) Tryd.underlying37 rfl HI.out ?_))
      refine (C3.out _).mono ?_
      rintro e w3 ⟨g, cap, rfl, ho3, hb3⟩
      have hp3 := (hb3.block w.heap.size (by simp; omega)).trans ((Below.heap_alloc w2 (.cells M 37) _ hl2).trans P2.out)
      have hfr : w3.frozen? ⟨w.heap.size, 0, none⟩ = false := free_of_one hp3
      have hc2 : w3.cell? ⟨w.heap.size, 0, none⟩ = some (.slice none 0 0) := cell_of_one hp3
      have O3 := Lib.hid (own_set (u := .slice (some ⟨g, 0, none⟩) R.length cap) ho3 hp3 (by decide))
      have P3 := Lib.hid hp3
      have B3 := Lib.hid ((B2.out.alloc hs2 (.cells M 37)).trans (hb3.mono (by simp; omega)))
      clear ho3 hp3 hb3
      go_wp2_with fail
      refine bodyPost_ret (v := .tuple #[.agg #[.slice (some ⟨g, 0, none⟩) R.length cap], .bool true]) (by simp [results, Tryd.results5, go_sem, cell_of_one (one_setCell P3.out)]) rfl ⟨_, _, _, rfl, Joins.ownsRow_le O3.out (by simp; omega), B3.out.setCell (by simp) _⟩
  · obtain rfl := RN.out hno
    obtain rfl := hno
    have B1 := Lib.hid (B0.out.trans (hb1.mono (Nat.le_of_lt HW0.out)))
    have P1 := Lib.hid ((hb1.block w.heap.size HW0.out).trans hP0.out)
    have hfr : w1.frozen? ⟨w.heap.size, 0, none⟩ = false := free_of_one P1.out
    have hc2 : w1.cell? ⟨w.heap.size, 0, none⟩ = some (.slice none 0 0) := cell_of_one P1.out
    clear hb1
    go_wp2_with fail
    exact bodyPost_ret (v := .tuple #[.agg #[.slice none 0 0], .bool false]) (by simp [results, Tryd.results5, go_sem, cell_of_one (one_setCell P1.out)]) rfl ⟨_, _, _, rfl, World.ownsRow_nil _ _ _ _, B1.out.setCell (by simp) _⟩
end Go.Proofs.YtmbkmkpclfgppaaDoor
