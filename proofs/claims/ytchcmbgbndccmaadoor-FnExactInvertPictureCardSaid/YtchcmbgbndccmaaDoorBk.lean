/- Contracts of single functions, and plain lemmas, on which the exact laws of this seat rest; each holds under the conditions that it states. -/
import Derived.Test.YtchcmbgbndccmaaDoorPc
import Derived.Test.YtchcmbgbndccmaaDoorMc
namespace Go.Proofs.YtchcmbgbndccmaaDoor
set_option linter.unusedVariables false
open Go.RowKit

/-- a picture of the call's own and a bool handed back -/
def SaysPic (ss : List ByteArray) (ok : Bool) (w : World) (e : Ending) (w' : World) : Prop :=
  ∃ ao n cap, e = .returned (.tuple #[.agg #[.slice ao n cap], .bool ok]) ∧ OwnP w' w.heap.size (.slice ao n cap) ss ∧ Below w.heap.size w w'
def NoPic (w : World) (e : Ending) (w' : World) : Prop := SaysPic [] false w e w'

theorem Tryd.info4 : (Tryd.prog.info? 4).map (fun i => (i.zero, i.size, i.bytes)) = some (some (.bool false), 1, 1) := by kernel_rfl

theorem own_set {w : World} {base n s P : Nat} {e : TypeId} {v u : Value} {cs : Array Value} {t : TypeId} {xs : List Value} (h : w.ownsRow base e s v n xs) (hP : w.heap[P]? = some (.cells cs t (0, 0))) (he : t ≠ e) : (w.setCell ⟨P, 0, none⟩ u).ownsRow base e s v n xs :=
  ownsRow_setCell_other h (a := ⟨P, 0, none⟩) (own_ne h hP he) u

theorem rep_false (n : Nat) (i : Nat) : (List.replicate n false).getD i false = false := by
  by_cases h : i < n
  · simp [List.getD, h]
  · simp [List.getD, h]

set_option maxHeartbeats 1000000 in
set_option maxRecDepth 100000 in
theorem l01Blank_any (wd h : Nat) (w : World) (hw : 1 ≤ wd ∧ wd ≤ 16) (hh : 1 ≤ h ∧ h ≤ 16) :
    Calls Tryd.prog 56 #[.int .i64 wd, .int .i64 h] w (TookPic w (mkPic wd h (fun _ _ => false))) := by
  obtain ⟨i0, hi, hz0, hz1, hz2⟩ := info_parts Tryd.info4
  have hNle : wd * h ≤ 256 := Nat.mul_le_mul hw.2 hh.2
  have C := Lib.hid (fun (b cap : Nat) (W : World) (hB : Bools W b 0 (List.replicate (wd * h) false)) => l01Make_any b 0 cap wd h (List.replicate (wd * h) false) W hw hh (by simp) hB)
  have he : (fun y x => (List.replicate (wd * h) false).getD (y * wd + x) false) = (fun _ _ : Nat => false) := by
    funext y x; exact rep_false _ _
  rw [he] at C
  obtain ⟨pic, hpic⟩ : ∃ p, mkPic wd h (fun _ _ => false) = p := ⟨_, rfl⟩
  rw [hpic] at C ⊢
  have hc : (wd : Int) * (h : Int) = ((wd * h : Nat) : Int) := by push_cast; rfl
  obtain ⟨N, hN⟩ : ∃ N, wd * h = N := ⟨_, rfl⟩
  rw [hN] at C hNle hc
  have hP0 : Hid ((w.alloc (.cells #[.slice none 0 0] 27)).heap[w.heap.size]? = some (.cells #[.slice none 0 0] 27 (0, 0))) := heap_alloc_last w _
  clear hw hh he hpic hN
  go_enter Tryd.func56, Tryd.ntmps56
  go_wp2_with (at_make; refine wpList_make_full _ rfl _ _ 80 rfl w.heap.size 4 i0 (.bool false) 1 Tryd.underlying80 hi hz0 hz1 _ _ _ _ N rfl rfl rfl rfl ?c1 ?c2 (by simp) ?_)
  case c1 => rw [hz2]; omega
  case c2 => unfold maxLen; omega
  intro w1 hown hgr
  rw [toList_madeCells_one] at hown
  have hbel : Below w.heap.size w w1 := (Joins.below_alloc1 w _).grown hgr (by simp) (fun k h => by cases h)
  have hp1 : w1.heap[w.heap.size]? = some (.cells #[.slice none 0 0] 27 (0, 0)) := (hgr.block _ (by simp) (by simp)).trans hP0.out
  have hlt1 : w.heap.size + 1 < w1.heap.size := (hown.lt (w.heap.size + 1) rfl).2
  have hB : Bools w1 (w.heap.size + 1) 0 (List.replicate N false) := ⟨hlt1, fun i hi => by
    rw [List.length_replicate] at hi
    rw [rep_false]
    have := hown.cells (g := w.heap.size + 1) rfl i (.bool false) (by rw [List.getElem?_replicate, if_pos hi])
    have e1 : (⟨w.heap.size + 1, 0, none⟩ : Addr).add i = ⟨w.heap.size + 1, 0 + i, none⟩ := by
      simp only [Addr.add, Nat.zero_add]
      split <;> simp_all
    rwa [e1] at this⟩
  have hs1 := hbel.size
  have HB := Lib.hid hB
  have HP1 := Lib.hid hp1
  have HBe := Lib.hid hbel
  clear hgr hown hbel hp1 hB
  go_wp2_with fail
  refine (C.out _ _ _ HB.out).mono ?_
  rintro e w2 ⟨g, cap, rfl, hown2, hb2⟩
  have hp2 := (hb2.block _ (by omega)).trans HP1.out
  have hfr : w2.frozen? ⟨w.heap.size, 0, none⟩ = false := free_of_one hp2
  have hc2 : w2.cell? ⟨w.heap.size, 0, none⟩ = some (.slice none 0 0) := cell_of_one hp2
  have O2 := Lib.hid (own_set (u := .slice (some ⟨g, 0, none⟩) pic.length cap) hown2 hp2 (by decide))
  have P2 := Lib.hid hp2
  have B2 := Lib.hid (HBe.out.trans (hb2.mono hs1))
  clear hown2 hp2 hb2
  go_wp2_with fail
  refine bodyPost_ret (v := .agg #[.slice (some ⟨g, 0, none⟩) pic.length cap]) (by simp [results, Tryd.results56, go_sem, cell_of_one (one_setCell P2.out)]) rfl ⟨g, cap, rfl, Joins.ownsRow_le O2.out hs1, B2.out.setCell (by simp) _⟩

def sideOk (a b : Int) : Bool := inB a 1 16 && inB b 1 16

set_option maxHeartbeats 1000000 in
set_option maxRecDepth 100000 in
theorem spec_Blank_yes (wd h : Nat) (w : World) (hw : 1 ≤ wd ∧ wd ≤ 16) (hh : 1 ≤ h ∧ h ≤ 16) :
    Calls Tryd.prog 20 #[.int .i64 wd, .int .i64 h] w (SaysPic (mkPic wd h (fun _ _ => false)) true w) := by
  have h1 := Lib.hid (inB_yes (n := (wd : Int)) (a := 1) (b := 16) (by omega) (by omega))
  have h2 := Lib.hid (inB_yes (n := (h : Int)) (a := 1) (b := 16) (by omega) (by omega))
  have C := Lib.hid (fun W => l01Blank_any wd h W hw hh)
  obtain ⟨pic, hpic⟩ : ∃ p, mkPic wd h (fun _ _ => false) = p := ⟨_, rfl⟩
  rw [hpic] at C ⊢
  have hP0 : Hid ((w.alloc (.cells #[.slice none 0 0] 27)).heap[w.heap.size]? = some (.cells #[.slice none 0 0] 27 (0, 0))) := heap_alloc_last w _
  clear hpic hw hh
  go_enter Tryd.func20, Tryd.ntmps20
  go_wp2_with fail
  refine (l01Side_any _ _).mono ?_
  rintro e w' ⟨rfl, rfl⟩
  rw [h1.out]
  go_wp2_with fail
  refine (l01Side_any _ _).mono ?_
  rintro e w' ⟨rfl, rfl⟩
  rw [h2.out]
  go_wp2_with fail
  refine (C.out _).mono ?_
  rintro e w2 ⟨g, cap, rfl, hown2, hb2⟩
  have hp2 := (hb2.block w.heap.size (by simp)).trans hP0.out
  have hfr : w2.frozen? ⟨w.heap.size, 0, none⟩ = false := free_of_one hp2
  have hc2 : w2.cell? ⟨w.heap.size, 0, none⟩ = some (.slice none 0 0) := cell_of_one hp2
  have O2 := Lib.hid (own_set (u := .slice (some ⟨g, 0, none⟩) pic.length cap) hown2 hp2 (by decide))
  have P2 := Lib.hid hp2
  have B2 := Lib.hid ((Joins.below_alloc1 w (.cells #[.slice none 0 0] 27)).trans (hb2.mono (by simp)))
  clear hown2 hp2 hb2
  go_wp2_with fail
  refine bodyPost_ret (v := .tuple #[.agg #[.slice (some ⟨g, 0, none⟩) pic.length cap], .bool true]) (by simp [results, Tryd.results20, go_sem, cell_of_one (one_setCell P2.out)]) rfl ⟨_, _, _, rfl, Joins.ownsRow_le O2.out (by simp), B2.out.setCell (by simp) _⟩
set_option maxHeartbeats 1000000 in
set_option maxRecDepth 100000 in
theorem spec_Blank_no (a b : Int) (w : World) (h : ¬ ((1 ≤ a ∧ a ≤ 16) ∧ (1 ≤ b ∧ b ≤ 16))) : Calls Tryd.prog 20 #[.int .i64 a, .int .i64 b] w (SaysPic [] false w) := by
  have hP0 : Hid ((w.alloc (.cells #[.slice none 0 0] 27)).heap[w.heap.size]? = some (.cells #[.slice none 0 0] 27 (0, 0))) := heap_alloc_last w _
  by_cases ha : 1 ≤ a ∧ a ≤ 16
  · have h1 := Lib.hid (inB_yes ha.1 ha.2)
    have h2 := Lib.hid (inB_no (n := b) (a := 1) (b := 16) (by omega))
    clear h ha
    go_enter Tryd.func20, Tryd.ntmps20
    go_wp2_with fail
    refine (l01Side_any _ _).mono ?_
    rintro e w' ⟨rfl, rfl⟩
    rw [h1.out]
    go_wp2_with fail
    refine (l01Side_any _ _).mono ?_
    rintro e w' ⟨rfl, rfl⟩
    rw [h2.out]
    go_wp2_with fail
    refine bodyPost_ret (v := .tuple #[.agg #[.slice none 0 0], .bool false]) (by simp [results, Tryd.results20, go_sem, cell_of_one hP0.out]) rfl ⟨_, _, _, rfl, World.ownsRow_nil _ _ _ _, Joins.below_alloc1 w _⟩
  · have h1 := Lib.hid (inB_no (n := a) (a := 1) (b := 16) (by omega))
    clear h ha
    go_enter Tryd.func20, Tryd.ntmps20
    go_wp2_with fail
    refine (l01Side_any _ _).mono ?_
    rintro e w' ⟨rfl, rfl⟩
    rw [h1.out]
    go_wp2_with fail
    refine bodyPost_ret (v := .tuple #[.agg #[.slice none 0 0], .bool false]) (by simp [results, Tryd.results20, go_sem, cell_of_one hP0.out]) rfl ⟨_, _, _, rfl, World.ownsRow_nil _ _ _ _, Joins.below_alloc1 w _⟩

theorem blackB_zero (a b : Nat) (x y : Int) : blackB a b (fun _ => 0) x y = false := by simp [blackB]

set_option maxHeartbeats 1000000 in
set_option maxRecDepth 100000 in
theorem impl_Blank_yes (wd h : Nat) (w : World) (hw : 1 ≤ wd ∧ wd ≤ 16) (hh : 1 ≤ h ∧ h ≤ 16) :
    Calls Tryd.prog 21 #[.int .i64 wd, .int .i64 h] w (SaysPic (mkPic wd h (fun _ _ => false)) true w) := by
  have hM := Lib.hid (fun W => blankMatrix_yes (wd : Int) (h : Int) W (by omega) (by omega))
  have hC : ∀ W, Calls Tryd.prog 58 #[.agg (mcells wd h (fun _ => 0))] W (TookPic W (mkPic wd h (fun _ _ => false))) := fun W => by
    have := picture_any (mat wd h (fun _ => 0)) wd h (fun _ => 0) W rfl hw.2 hh.2 (fun _ => by omega)
    simp only [blackB_zero] at this
    exact this
  have hsz := mcells_size (wd : Int) (h : Int) (fun _ => 0)
  have hone := mcells_one (wd : Int) (h : Int) (fun _ => 0)
  unfold RetMat at hM
  obtain ⟨M, hMe⟩ : ∃ M, mcells (wd : Int) (h : Int) (fun _ => 0) = M := ⟨_, rfl⟩
  rw [hMe] at hM hC hsz hone
  obtain ⟨pic, hpic⟩ : ∃ p, mkPic wd h (fun _ _ => false) = p := ⟨_, rfl⟩
  rw [hpic] at hC ⊢
  have C := Lib.hid hC
  have HI : Hid ((Tryd.prog.info? 71).map (·.size) = some M.size) := by show _ = _; rw [hsz]; exact infoM
  have HZ := Lib.hid (zeros_size.trans hsz.symm)
  have HO := Lib.hid hone
  have hP0 : Hid ((w.alloc (.cells #[.slice none 0 0] 27)).heap[w.heap.size]? = some (.cells #[.slice none 0 0] 27 (0, 0))) := heap_alloc_last w _
  clear hsz hone hMe hpic hC hw hh
  go_enter Tryd.func21, Tryd.ntmps21
  go_wp2_with fail
  refine (hM.out _).mono ?_
  rintro e w1 ⟨rfl, hb⟩
  have hp1 := (hb.block w.heap.size (by simp)).trans hP0.out
  have HB : Hid (Below w.heap.size w w1) := (Joins.below_alloc1 w (.cells #[.slice none 0 0] 27)).trans (hb.mono (by simp))
  have HP1 := Lib.hid hp1
  have hs1 := HB.out.size
  have hl1 := (Array.getElem?_eq_some_iff.1 hp1).1
  clear hb hp1
  go_wp2_with (first | (refine wpList_store_new w1 rfl 71 _ _ rfl M rfl rfl 71 zeros HI.out HZ.out HO.out ?_) | (refine wpList_load_row_g rfl 71 _ rfl w1.heap.size rfl 71 M (0, 0) _ (heap_alloc_last w1 _) Tryd.underlying71 rfl HI.out ?_))
  refine (C.out _).mono ?_
  rintro e w2 ⟨g, cap, rfl, hown2, hb2⟩
  have hp2 := (hb2.block w.heap.size (by simp; omega)).trans ((Below.heap_alloc w1 (.cells M 71) _ hl1).trans HP1.out)
  have hfr : w2.frozen? ⟨w.heap.size, 0, none⟩ = false := free_of_one hp2
  have hc2 : w2.cell? ⟨w.heap.size, 0, none⟩ = some (.slice none 0 0) := cell_of_one hp2
  have O2 := Lib.hid (own_set (u := .slice (some ⟨g, 0, none⟩) pic.length cap) hown2 hp2 (by decide))
  have P2 := Lib.hid hp2
  have B2 := Lib.hid ((HB.out.alloc hs1 (.cells M 71)).trans (hb2.mono (by simp; omega)))
  clear hown2 hp2 hb2
  go_wp2_with fail
  refine bodyPost_ret (v := .tuple #[.agg #[.slice (some ⟨g, 0, none⟩) pic.length cap], .bool true]) (by simp [results, Tryd.results21, go_sem, cell_of_one (one_setCell P2.out)]) rfl ⟨_, _, _, rfl, Joins.ownsRow_le O2.out (by simp; omega), B2.out.setCell (by simp) _⟩

set_option maxHeartbeats 1000000 in
set_option maxRecDepth 100000 in
theorem impl_Blank_no (a b : Int) (w : World) (h : ¬ ((1 ≤ a ∧ a ≤ 16) ∧ (1 ≤ b ∧ b ≤ 16))) : Calls Tryd.prog 21 #[.int .i64 a, .int .i64 b] w (SaysPic [] false w) := by
  have hM := Lib.hid (fun W => blankMatrix_no a b W h)
  have hsz := mcells_size 0 0 (fun _ => 0)
  have hone := mcells_one 0 0 (fun _ => 0)
  unfold RetMat at hM
  obtain ⟨M, hMe⟩ : ∃ M, mcells 0 0 (fun _ => 0) = M := ⟨_, rfl⟩
  rw [hMe] at hM hsz hone
  have HI : Hid ((Tryd.prog.info? 71).map (·.size) = some M.size) := by show _ = _; rw [hsz]; exact infoM
  have HZ := Lib.hid (zeros_size.trans hsz.symm)
  have HO := Lib.hid hone
  have hP0 : Hid ((w.alloc (.cells #[.slice none 0 0] 27)).heap[w.heap.size]? = some (.cells #[.slice none 0 0] 27 (0, 0))) := heap_alloc_last w _
  clear hsz hone hMe h
  go_enter Tryd.func21, Tryd.ntmps21
  go_wp2_with fail
  refine (hM.out _).mono ?_
  rintro e w1 ⟨rfl, hb⟩
  have hp1 := (hb.block w.heap.size (by simp)).trans hP0.out
  have HB : Hid (Below w.heap.size w w1) := (Joins.below_alloc1 w (.cells #[.slice none 0 0] 27)).trans (hb.mono (by simp))
  have hs1 := HB.out.size
  have hl1 := (Array.getElem?_eq_some_iff.1 hp1).1
  have hp2 := (Below.heap_alloc w1 (.cells M 71) _ hl1).trans hp1
  have hfr : (w1.alloc (.cells M 71)).frozen? ⟨w.heap.size, 0, none⟩ = false := free_of_one hp2
  have hc2 : (w1.alloc (.cells M 71)).cell? ⟨w.heap.size, 0, none⟩ = some (.slice none 0 0) := cell_of_one hp2
  have hss : (w1.setCell ⟨w.heap.size, 0, none⟩ (.slice none 0 0)).heap.size = w1.heap.size := by simp [World.setCell]
  have HX := Lib.hid (cell_of_one ((Below.heap_alloc (w1.setCell ⟨w.heap.size, 0, none⟩ (.slice none 0 0)) (.cells M 71) w.heap.size (by rw [hss]; exact hl1)).trans (one_setCell hp1)))
  have HBX := Lib.hid ((HB.out.setCell (p := ⟨w.heap.size, 0, none⟩) (Nat.le_refl _) (.slice none 0 0)).alloc (by rw [hss]; exact hs1) (.cells M 71))
  clear hb hp1 hp2 hss
  go_wp2_with (refine wpList_store_new w1 rfl 71 _ _ rfl M rfl rfl 71 zeros HI.out HZ.out HO.out ?_)
  refine bodyPost_ret (v := .tuple #[.agg #[.slice none 0 0], .bool false]) (by simp [results, Tryd.results21, go_sem, HX.out]) rfl ⟨_, _, _, rfl, World.ownsRow_nil _ _ _ _, HBX.out⟩
end Go.Proofs.YtchcmbgbndccmaaDoor
