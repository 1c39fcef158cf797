/- Contracts of single functions, and plain lemmas, on which the exact laws of this seat rest; each holds under the conditions that it states. -/
import Derived.Test.YtaopdhncapoefaaDoorV7
import Derived.Test.YtaopdhncapoefaaDoorCc
import Derived.Test.YtaopdhncapoefaaDoorSu
namespace Go.Proofs.YtaopdhncapoefaaDoor
set_option linter.unusedVariables false
set_option linter.unusedSimpArgs false
open Go.RowKit

theorem word_pix {ss : List ByteArray} (V : VP ss) (y x : Nat) (hy : y < ss.length) : (wordsOf ss y).testBit x = pixI ss (x : Int) (y : Int) := by
  by_cases hx : x < (row0 ss).size
  · rw [words_at V y x hy hx]
    unfold pixI pixF insB inB
    rw [decide_eq_true (show (0 : Int) ≤ (x : Int) by omega), decide_eq_true (show (x : Int) ≤ ((row0 ss).size : Int) - 1 by omega), decide_eq_true (show (0 : Int) ≤ (y : Int) by omega), decide_eq_true (show (y : Int) ≤ (ss.length : Int) - 1 by omega)]
    simp
  · have h1 := words_lt_pow V y
    have h2 : 2 ^ (row0 ss).size ≤ 2 ^ x := Nat.pow_le_pow_right (by omega) (by omega)
    rw [Nat.testBit_lt_two_pow (by omega)]
    cases e : pixI ss (x : Int) (y : Int) with
    | false => rfl
    | true => have := (pixI_in' ss _ _ e).1.2; omega
theorem runsL_congr {R Q : Nat → Nat → Bool} : ∀ b, (∀ y, y < b → ∀ x, R y x = Q y x) → runsL R b = runsL Q b
  | 0, _ => rfl
  | b + 1, h => by
    show runsL R b ++ rowR (R b) b 17 = runsL Q b ++ rowR (Q b) b 17
    rw [runsL_congr b (fun y hy => h y (by omega))]
    unfold rowR
    rw [(rl_congr 17 (fun i _ => h b (by omega) i)).1]
def runsV (ss : List ByteArray) : List (List Int) := if validB ss = true then runsL (fun y x => pixI ss (x : Int) (y : Int)) ss.length else []
theorem runsV_len (ss : List ByteArray) : (runsV ss).length ≤ 1000 := by
  unfold runsV
  split
  · rename_i h
    have V := vp_of h
    have := V.n16
    have h1 := runsL_len (fun y x => pixI ss (x : Int) (y : Int)) ss.length
    omega
  · simp
theorem runsL_three (R : Nat → Nat → Bool) : ∀ b x, x ∈ runsL R b → x.length = 3
  | 0, x, h => by simp [runsL] at h
  | b + 1, x, h => by
    rcases List.mem_append.1 h with h | h
    · exact runsL_three R b x h
    · unfold rowR at h
      obtain ⟨q, _, rfl⟩ := List.mem_map.1 h
      rfl
theorem runsV_three (ss : List ByteArray) (i : Nat) : ((runsV ss).getD i []).length ≤ 3 := by
  rw [List.getD_eq_getElem?_getD]
  cases h : (runsV ss)[i]? with
  | none => simp
  | some x =>
    have hm := List.mem_of_getElem? h
    unfold runsV at hm
    split at hm
    · have := runsL_three _ _ _ hm
      simp [this]
    · simp at hm

/-- rows of the call's own and a bool handed back -/
def SaysR (xss : List (List Int)) (ok : Bool) (w : World) (e : Ending) (w' : World) : Prop := ∃ v us, e = .returned (.tuple #[v, .bool ok]) ∧ OwnL w' w.heap.size w'.heap.size v us xss ∧ Below w.heap.size w w'

set_option maxHeartbeats 2000000 in
set_option maxRecDepth 100000 in
theorem spec_Runs (v : Value) (ss : List ByteArray) (w : World) (hN : ss.length ≤ maxLen) (hz : ∀ s ∈ ss, s.size ≤ maxLen) (hv : Sl w v ss) :
    Calls Tryd.prog 23 #[.agg #[v]] w (SaysR (runsV ss) (validB ss) w) := by
  have hb0 := Joins.below_alloc1 w (.cells #[v] 28)
  have hc0 : (w.alloc (.cells #[v] 28)).cell? ⟨w.heap.size, 0, none⟩ = some v := by rw [World.cell?_alloc_mark]; rfl
  have C := Lib.hid (l01Is_any w.heap.size 0 v ss (w.alloc (.cells #[v] 28)) hc0 (hv.below hb0) hN hz)
  cases hok : validB ss with
  | false =>
    have e1 : Hid (runsV ss = []) := by show runsV ss = _; unfold runsV; rw [hok]; rfl
    have HOk := Lib.hid hok
    clear hok hv hc0 hb0
    go_enter Tryd.func23, Tryd.ntmps23
    go_wp2_with fail
    refine C.out.mono ?_
    rintro e w' ⟨rfl, hb⟩
    rw [HOk.out]
    have HB := Lib.hid hb
    clear hb
    go_wp2_with fail
    go_ret2
    refine ⟨_, fun _ => .slice none 0 0, rfl, ?_, (Joins.below_alloc1 w _).trans (HB.out.mono (by simp))⟩
    rw [e1.out]
    exact OwnL.start _ _ _
  | true =>
    have V := vp_of hok
    have hp : ∀ W, Below (w.alloc (.cells #[v] 28)).heap.size (w.alloc (.cells #[v] 28)) W → PicAt W w.heap.size 0 ss := fun W hb =>
      ⟨hok, v, cell_kept hb hc0, (hv.below hb0).below hb⟩
    have HOk := Lib.hid hok
    have HC : Hid (∀ W, Below (w.alloc (.cells #[v] 28)).heap.size (w.alloc (.cells #[v] 28)) W → Calls Tryd.prog 54 #[.pointer (some ⟨w.heap.size, 0, none⟩)] W (MadeL (runsV ss) W)) := fun W hb => by
      have e : runsV ss = runsL (fun y x => pixI ss (x : Int) (y : Int)) ss.length := by unfold runsV; rw [if_pos hok]
      rw [e]
      exact l04Runs_any w.heap.size ss W (by have := hb.size; simp at this; omega) V (fun W' h' => hp W' (hb.trans (h'.mono hb.size)))
    clear hok hv hc0 hb0 V hp
    go_enter Tryd.func23, Tryd.ntmps23
    go_wp2_with fail
    refine C.out.mono ?_
    rintro e w1 ⟨rfl, hb⟩
    rw [HOk.out]
    have HB := Lib.hid hb
    clear hb
    go_wp2_with fail
    refine (HC.out _ HB.out).mono ?_
    rintro e w2 ⟨u, us, rfl, ho, hb2⟩
    have HB1 := Lib.hid ((Joins.below_alloc1 w (.cells #[v] 28)).trans (HB.out.mono (by simp)))
    have HO := Lib.hid (OwnR.mono ho (lo' := w.heap.size) HB1.out.size (Nat.le_refl _))
    have HB2 := Lib.hid (HB1.out.trans (hb2.mono HB1.out.size))
    clear ho hb2
    go_wp2_with fail
    go_ret2
    exact ⟨_, _, rfl, HO.out, HB2.out⟩

set_option maxHeartbeats 2000000 in
set_option maxRecDepth 100000 in
theorem impl_Runs (v : Value) (ss : List ByteArray) (w : World) (hN : ss.length ≤ maxLen) (hz : ∀ s ∈ ss, s.size ≤ maxLen) (hv : Sl w v ss) (he : ErrLen w) (hT : TabW w) :
    Calls Tryd.prog 24 #[.agg #[v]] w (SaysR (runsV ss) (validB ss) w) := by
  have hb0 := Joins.below_alloc1 w (.cells #[v] 28)
  have C := Lib.hid (matrixOf_any v ss (w.alloc (.cells #[v] 28)) hN hz (hv.below hb0) (he.below hb0))
  have hsz := matC_size ss
  have hone := matC_one ss
  unfold MatOf at C
  have hMM : validB ss = true → matC ss = mat (row0 ss).size ss.length (wordsOf ss) := matC_yes
  obtain ⟨M, hM⟩ : ∃ M, matC ss = M := ⟨_, rfl⟩
  rw [hM] at C hsz hone hMM
  have HI : Hid ((Tryd.prog.info? 58).map (·.size) = some M.size) := by show _ = _; rw [hsz]; exact infoM
  have HZ := Lib.hid (zeros_size.trans hsz.symm)
  have HO := Lib.hid hone
  have HT : Hid (∀ W, Below w.heap.size w W → TabW W) := fun W hb => hT.below hb
  clear hM hsz hone hb0 hv he hT
  cases hok : validB ss with
  | false =>
    have e1 : Hid (runsV ss = []) := by show runsV ss = _; unfold runsV; rw [hok]; rfl
    have HOk := Lib.hid hok
    clear hok hMM
    go_enter Tryd.func24, Tryd.ntmps24
    go_wp2_with fail
    refine C.out.mono ?_
    rintro e w1 ⟨rfl, hb⟩
    rw [HOk.out]
    have HB := Lib.hid hb
    clear hb
    go_wp2_with (refine wpList_store_row rfl 58 _ _ rfl w1.heap.size M rfl rfl 58 zeros (heap_alloc_last w1 _) HI.out HZ.out HO.out ?_)
    go_ret2
    have h1 : Below w.heap.size w w1 := (Joins.below_alloc1 w _).trans (HB.out.mono (by simp))
    refine ⟨_, fun _ => .slice none 0 0, rfl, ?_, setRow_below (h1.alloc h1.size _) h1.size _⟩
    rw [e1.out]
    exact OwnL.start _ _ _
  | true =>
    have V := vp_of hok
    have hMM := hMM hok
    have e : runsV ss = runsL (fun y => (wordsOf ss y).testBit) ss.length := by
      unfold runsV
      rw [if_pos hok]
      exact runsL_congr ss.length (fun y hy x => (word_pix V y x hy).symm)
    have HR : Hid (∀ W, TabW W → Calls Tryd.prog 55 #[.agg M] W (MadeL (runsV ss) W)) := fun W hW => by
      rw [e]
      exact runs_any M (row0 ss).size ss.length (wordsOf ss) W hMM V.n16 (fun j => words_small V j) hW
    have HOk := Lib.hid hok
    clear hok hMM V e
    go_enter Tryd.func24, Tryd.ntmps24
    go_wp2_with fail
    refine C.out.mono ?_
    rintro e w1 ⟨rfl, hb⟩
    rw [HOk.out]
    have HB : Hid (Below w.heap.size w w1) := (Joins.below_alloc1 w (.cells #[v] 28)).trans (hb.mono (by simp))
    have HB1 := Lib.hid (HB.out.alloc HB.out.size (.cells M 58))
    have TW := Lib.hid (HT.out _ HB1.out)
    clear hb
    go_wp2_with (first | (refine wpList_store_new w1 rfl 58 _ _ rfl M rfl rfl 58 zeros HI.out HZ.out HO.out ?_) | (refine wpList_load_row rfl 58 _ rfl w1.heap.size rfl 58 M (0, 0) _ (heap_alloc_last w1 _) Tryd.underlying58 rfl HI.out ?_))
    refine (HR.out _ TW.out).mono ?_
    rintro e w2 ⟨u, us, rfl, ho, hb2⟩
    have HO := Lib.hid (OwnR.mono ho (lo' := w.heap.size) HB1.out.size (Nat.le_refl _))
    have HB2 := Lib.hid (HB1.out.trans (hb2.mono HB1.out.size))
    clear ho hb2
    go_wp2_with fail
    go_ret2
    exact ⟨_, _, rfl, HO.out, HB2.out⟩
end Go.Proofs.YtaopdhncapoefaaDoor
