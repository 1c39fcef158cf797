/- Contracts of single functions, and plain lemmas, on which the exact laws of this seat rest; each holds under the conditions that it states. -/
import Derived.Test.YthkmfiipmhlbjaaDoorV2
import Derived.Test.YthkmfiipmhlbjaaDoorV4
namespace Go.Proofs.YthkmfiipmhlbjaaDoor
set_option linter.unusedVariables false
set_option linter.unusedSimpArgs false
open Go.RowKit

theorem less_and (x m : Nat) (hx : x < 4294967296) (hm : m < 4294967296) : x &&& (4294967295 - m) = lessW x m := by
  apply Nat.eq_of_testBit_eq
  intro j
  have := Nat.testBit_two_pow_sub_succ (x := m) (n := 32) (by omega) j
  rw [show 2 ^ 32 - (m + 1) = 4294967295 - m from by omega] at this
  rw [lessW_bit, Nat.testBit_and, this]
  by_cases h : j < 32
  · simp [h]
  · rw [Nat.testBit_lt_two_pow (x := x) (Nat.lt_of_lt_of_le hx (by
      have : 2 ^ 32 ≤ 2 ^ j := Nat.pow_le_pow_right (by omega) (by omega)
      omega))]
    simp

/-- a list of rows of the call's own -/
def OwnL (w : World) (lo hi : Nat) (v : Value) (us : Nat → Value) (xss : List (List Int)) : Prop := OwnR w lo hi v us xss.length (fun i => xss.getD i [])
theorem OwnL.start (w : World) (lo hi : Nat) : OwnL w lo hi (.slice none 0 0) (fun _ => .slice none 0 0) [] := OwnR.nil _ _ _ _ _
theorem infoSl : (Tryd.prog.info? 75).map (fun i => (i.zero, i.size, i.bytes)) = some (some (.slice none 0 0), 1, 24) := by kernel_rfl
theorem OwnR.snoc {W w' : World} {lo n : Nat} {v v' : Value} {us : Nat → Value} {f : Nat → List Int} (h : OwnR W lo W.heap.size v us n f) (hlo : lo ≤ W.heap.size) (cs : Array Value) (x : List Int) (hx : cs.toList = numsV x) (hm : x.length ≤ maxLen) (o : Obj)
    (hown : w'.ownsRow lo 75 1 v' (n + 1) ((List.range n).map us ++ [.slice (some ⟨W.heap.size, 0, none⟩) x.length x.length])) (hg : ((W.alloc (.cells cs 2)).alloc o).grownBy w' v.ownBlock) :
    OwnR w' lo w'.heap.size v' (fun i => if i = n then .slice (some ⟨W.heap.size, 0, none⟩) x.length x.length else us i) (n + 1) (fun i => if i = n then x else f i) := by
  have hs : W.heap.size + 2 ≤ w'.heap.size := by have := hg.size; simp at this; omega
  have hcs : cs.size = x.length * 1 := by have := congrArg List.length hx; simpa [numsV] using this
  have old : ∀ i, i < n → OwnN w' lo (us i) (f i) := fun i hi => by
    have h1 := h.each i hi
    have h2 : ((W.alloc (.cells cs 2)).alloc o).ownsRow lo 2 1 (us i) (f i).length (numsV (f i)) := (World.ownsRow.alloc h1 _).alloc _
    exact own_keep h2 (fun k e => hg.block k (h2.lt k e).2 (fun e2 => own_two h.row h1 (by decide) k e2.symm e))
  have new : OwnN w' lo (.slice (some ⟨W.heap.size, 0, none⟩) x.length x.length) x := by
    have h1 := World.ownsRow_lit (base := lo) (e := 2) (size := 1) W cs x.length hlo hm hcs
    rw [hx] at h1
    have h2 := World.ownsRow.alloc h1 o
    exact own_keep h2 (fun k e => hg.block k (h2.lt k e).2 (fun e2 => by
      have a1 := (h.row.lt k e2.symm).2
      have a2 : W.heap.size = k := by simpa [Value.ownBlock] using e
      omega))
  refine ⟨?_, fun i hi => ?_, fun i hi k e => ?_, fun k e => (hown.lt k e).2, fun i j hi hj hne k e => ?_⟩
  · have : (List.range (n + 1)).map (fun i => if i = n then .slice (some ⟨W.heap.size, 0, none⟩) x.length x.length else us i) = (List.range n).map us ++ [.slice (some ⟨W.heap.size, 0, none⟩) x.length x.length] := by
      rw [List.range_succ, List.map_append]
      congr 1
      · refine List.map_congr_left fun i hi => ?_
        rw [List.mem_range] at hi
        rw [if_neg (by omega)]
      · simp
    rw [this]
    exact hown
  · by_cases e : i = n
    · subst e
      simpa using new
    · simpa [e] using old i (by omega)
  · by_cases e2 : i = n
    · subst e2
      have a2 : W.heap.size = k := by simpa [Value.ownBlock] using e
      omega
    · simp only [e2, if_false] at e
      have := h.up i (by omega) k e
      omega
  · by_cases ei : i = n
    · have ej : j ≠ n := fun e2 => hne (ei.trans e2.symm)
      simp only [ei, if_true] at e
      simp only [ej, if_false]
      have a2 : W.heap.size = k := by simpa [Value.ownBlock] using e
      intro e3
      have := h.up j (by omega) k e3
      omega
    · simp only [ei, if_false] at e
      by_cases ej : j = n
      · simp only [ej, if_true]
        have := h.up i (by omega) k e
        intro e3
        have a2 : W.heap.size = k := by simpa [Value.ownBlock] using e3
        omega
      · simp only [ej, if_false]
        exact h.apart i j (by omega) (by omega) hne k e
theorem OwnL.snoc {W w' : World} {lo : Nat} {v v' : Value} {us : Nat → Value} {xss : List (List Int)} (h : OwnL W lo W.heap.size v us xss) (hlo : lo ≤ W.heap.size) (cs : Array Value) (x : List Int) (hx : cs.toList = numsV x) (hm : x.length ≤ maxLen) (o : Obj)
    (hown : w'.ownsRow lo 75 1 v' (xss.length + 1) ((List.range xss.length).map us ++ [.slice (some ⟨W.heap.size, 0, none⟩) x.length x.length])) (hg : ((W.alloc (.cells cs 2)).alloc o).grownBy w' v.ownBlock) :
    ∃ us', OwnL w' lo w'.heap.size v' us' (xss ++ [x]) := by
  have := OwnR.snoc h hlo cs x hx hm o hown hg
  refine ⟨fun i => if i = xss.length then .slice (some ⟨W.heap.size, 0, none⟩) x.length x.length else us i, ?_⟩
  unfold OwnL
  rw [List.length_append]
  refine this.congr fun i hi => ?_
  simp only [List.getD_eq_getElem?_getD]
  by_cases e : i = xss.length
  · subst e; simp
  · rw [if_neg e, List.getElem?_append_left (by omega)]
theorem OwnL.below {W W' : World} {lo : Nat} {v : Value} {us : Nat → Value} {xss : List (List Int)} (h : OwnL W lo W.heap.size v us xss) (hb : Below W.heap.size W W') : OwnL W' lo W'.heap.size v us xss :=
  (OwnR.below h (Nat.le_refl _) hb).mono (Nat.le_refl _) hb.size

/-! ### the runs of all rows -/
def rowR (r : Nat → Bool) (y t : Nat) : List (List Int) := (rl r t).map fun q => [(y : Int), (q.1 : Int), (q.2 : Int)]
def runsL (R : Nat → Nat → Bool) : Nat → List (List Int)
  | 0 => []
  | y + 1 => runsL R y ++ rowR (R y) y 17
theorem rowR_len (r : Nat → Bool) (y t : Nat) : (rowR r y t).length ≤ t := by unfold rowR; rw [List.length_map]; exact rl_len r t
theorem runsL_len (R : Nat → Nat → Bool) : ∀ y, (runsL R y).length ≤ y * 17
  | 0 => Nat.le_refl _
  | y + 1 => by
    have h1 := runsL_len R y
    have h2 := rowR_len (R y) y 17
    show (runsL R y ++ _).length ≤ _
    rw [List.length_append]
    omega
end Go.Proofs.YthkmfiipmhlbjaaDoor
