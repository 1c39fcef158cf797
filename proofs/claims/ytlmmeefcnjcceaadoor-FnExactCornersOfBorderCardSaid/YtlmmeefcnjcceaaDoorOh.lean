/- Contracts of single functions, and plain lemmas, on which the exact laws of this seat rest; each holds under the conditions that it states. -/
import Derived.Test.YtlmmeefcnjcceaaDoorOe
import Derived.Deep.QuietTactic
import Derived.BigQuiet
import Derived.Lib.BufferMore
namespace Go.Proofs.YtlmmeefcnjcceaaDoor
set_option linter.unusedVariables false
set_option linter.unusedSimpArgs false
open Go.RowKit Go.Maps

theorem way_at (s : ByteArray) (k : Nat) (hk : k < s.size) (w : World) : Calls Tryd.prog 38 #[.int .u8 ((s[k]'hk).toNat : Int)] w fun e w' => e = .returned (.int .i64 (wy s k)) ∧ w = w' :=
  (l04Way_any _ w).mono fun e w' ⟨he, hw⟩ => ⟨by rw [he, byI_eq s k hk]; rfl, hw⟩

/-- the number of a step -/
def ixI (x y d : Int) : Int := (y * 17 + x) * 4 + d
theorem ix_inj {x y d x' y' d' : Int} (h1 : corn x y) (h2 : corn x' y') (h3 : 0 ≤ d ∧ d ≤ 3) (h4 : 0 ≤ d' ∧ d' ≤ 3) (e : ixI x y d = ixI x' y' d') : x = x' ∧ y = y' ∧ d = d' := by
  unfold ixI at e; unfold corn at h1 h2; omega
theorem ix_range {x y d : Int} (h1 : corn x y) (h3 : 0 ≤ d ∧ d ≤ 3) : 0 ≤ ixI x y d ∧ ixI x y d < 1156 := by
  unfold ixI; unfold corn at h1; omega
def mdB (X Y : Int) (s : ByteArray) (k t : Nat) : Bool := (List.range k).any fun j => decide (ixI (px X s j) (py Y s j) (wy s j) = (t : Int))
def mdL (X Y : Int) (s : ByteArray) (k : Nat) : List Value := (List.range 1156).map fun t => Value.bool (mdB X Y s k t)
theorem mdL_zero (X Y : Int) (s : ByteArray) : mdL X Y s 0 = List.replicate 1156 (.bool false) := by
  unfold mdL mdB
  simp only [List.range_zero, List.any_nil]
  rw [List.map_const', List.length_range]
theorem mdL_at (X Y : Int) (s : ByteArray) (k t : Nat) (h : t < 1156) : (mdL X Y s k)[t]? = some (.bool (mdB X Y s k t)) := by simp [mdL, h]
theorem mdB_snoc (X Y : Int) (s : ByteArray) (k t : Nat) : mdB X Y s (k + 1) t = (mdB X Y s k t || decide (ixI (px X s k) (py Y s k) (wy s k) = (t : Int))) := by
  unfold mdB
  rw [List.range_succ, List.any_append]
  simp
theorem mdL_set (X Y : Int) (s : ByteArray) (k q : Nat) (hq : ixI (px X s k) (py Y s k) (wy s k) = (q : Int)) : (mdL X Y s k).set q (.bool true) = mdL X Y s (k + 1) := by
  apply List.ext_getElem
  · simp [mdL]
  · intro t h1 h2
    have ht : t < 1156 := by simpa [mdL] using h2
    rw [List.getElem_set]
    by_cases e : q = t
    · subst e
      rw [if_pos rfl]
      simp only [mdL, List.getElem_map, List.getElem_range]
      rw [mdB_snoc, decide_eq_true hq, Bool.or_true]
    · rw [if_neg e]
      simp only [mdL, List.getElem_map, List.getElem_range]
      rw [mdB_snoc, decide_eq_false (by omega), Bool.or_false]
/-- the steps before the step k, all of them made from corners -/
theorem mdB_iff {X Y : Int} {s : ByteArray} {k q : Nat} (hg : Good X Y s k) (hc : corn (px X s k) (py Y s k)) (hw : 0 ≤ wy s k) (hq : ixI (px X s k) (py Y s k) (wy s k) = (q : Int)) :
    mdB X Y s k q = true ↔ ∃ i : Nat, i < k ∧ px X s i = px X s k ∧ py Y s i = py Y s k ∧ wy s i = wy s k := by
  unfold mdB
  rw [List.any_eq_true]
  constructor
  · rintro ⟨j, hj, e⟩
    have hj := List.mem_range.1 hj
    have e := of_decide_eq_true e
    rw [← hq] at e
    obtain ⟨h1, h2, h3⟩ := ix_inj (hg j hj).2.1 hc ⟨(hg j hj).1, (wy_range s j).2⟩ ⟨hw, (wy_range s k).2⟩ e
    exact ⟨j, hj, h1, h2, h3⟩
  · rintro ⟨j, hj, h1, h2, h3⟩
    exact ⟨j, List.mem_range.2 hj, decide_eq_true (by rw [h1, h2, h3, hq])⟩

theorem nb1 {X Y : Int} {s : ByteArray} {k : Nat} (hk : k < s.size) (h : ¬ 0 ≤ wy s k) : ¬ OKb X Y s := fun ⟨_, _, hg, _⟩ => h (hg k hk).1
theorem nb2 {X Y : Int} {s : ByteArray} {k : Nat} (hk : k < s.size) (h : ¬ 0 ≤ wy s (prv s k)) : ¬ OKb X Y s := nb1 (prv_lt s k (by omega)) h
theorem nb3 {X Y : Int} {s : ByteArray} {k : Nat} (hk : k < s.size) (h : trn s k = 2) : ¬ OKb X Y s := fun ⟨_, _, _, _, _, h2⟩ => h2 k hk h
theorem nb4 {X Y : Int} {s : ByteArray} {k : Nat} (hk : k < s.size) (h : ∃ i : Nat, i < k ∧ px X s i = px X s k ∧ py Y s i = py Y s k ∧ wy s i = wy s k) : ¬ OKb X Y s := fun ⟨_, _, hg, _⟩ => by
  obtain ⟨i, hi, e⟩ := h
  exact (hg k hk).2.2 i hi e
theorem nb5 {X Y : Int} {s : ByteArray} {k : Nat} (hk : k < s.size) (h : ¬ corn (px X s (k + 1)) (py Y s (k + 1))) : ¬ OKb X Y s := fun ⟨h4, _, hg, h1, h2, _⟩ => by
  by_cases e : k + 1 = s.size
  · rw [e, h1, h2] at h
    exact h (hg 0 (by omega)).2.1
  · exact h (hg (k + 1) (by omega)).2.1

/-- the world in l04Is's loop -/
structure BdSt (w wx : World) (A G : Nat) (X Y : Int) (s : ByteArray) (k : Nat) (x y : Int) : Prop where
  at' : wx.heap[A]? = some (.cells #[.int .i64 x, .int .i64 y] 28 (0, 0))
  own : wx.ownsRow w.heap.size 4 1 (.slice (some ⟨G, 0, none⟩) 1156 1156) 1156 (mdL X Y s k)
  bel : Below w.heap.size w wx
  ge : w.heap.size ≤ A
theorem BdSt.below {w wx wy : World} {A G : Nat} {X Y : Int} {s : ByteArray} {k : Nat} {x y : Int} (h : BdSt w wx A G X Y s k x y) (hb : Below wx.heap.size wx wy) : BdSt w wy A G X Y s k x y :=
  ⟨(hb.block A (Array.getElem?_eq_some_iff.1 h.at').1).trans h.at', own_below h.own hb, h.bel.trans (hb.mono h.bel.size), h.ge⟩
theorem BdSt.drew {w wx : World} {A G : Nat} {X Y : Int} {s : ByteArray} {k : Nat} {x y : Int} (h : BdSt w wx A G X Y s k x y) : BdSt w wx.drew A G X Y s k x y := h.below (Below.refl _ _).drew
theorem BdSt.c0 {w wx : World} {A G : Nat} {X Y : Int} {s : ByteArray} {k : Nat} {x y : Int} (h : BdSt w wx A G X Y s k x y) : wx.cell? ⟨A, 0, none⟩ = some (.int .i64 x) := by rw [Joins.cell_of_block h.at' 0]; rfl
theorem BdSt.c1 {w wx : World} {A G : Nat} {X Y : Int} {s : ByteArray} {k : Nat} {x y : Int} (h : BdSt w wx A G X Y s k x y) : wx.cell? ⟨A, 1, none⟩ = some (.int .i64 y) := by rw [Joins.cell_of_block h.at' 1]; rfl
theorem BdSt.f {w wx : World} {A G : Nat} {X Y : Int} {s : ByteArray} {k : Nat} {x y : Int} (h : BdSt w wx A G X Y s k x y) (o : Nat) : wx.frozen? ⟨A, o, none⟩ = false := by simp [World.frozen?, h.at']
theorem BdSt.lt {w wx : World} {A G : Nat} {X Y : Int} {s : ByteArray} {k : Nat} {x y : Int} (h : BdSt w wx A G X Y s k x y) : A < wx.heap.size := (Array.getElem?_eq_some_iff.1 h.at').1
theorem BdSt.set0 {w wx : World} {A G : Nat} {X Y : Int} {s : ByteArray} {k : Nat} {x y : Int} (h : BdSt w wx A G X Y s k x y) (v : Int) : BdSt w (wx.setCell ⟨A, 0, none⟩ (.int .i64 v)) A G X Y s k v y :=
  ⟨Lib.heap_setCell_same (i := 0) h.at' _, ownsRow_setCell_other (a := ⟨A, 0, none⟩) h.own (own_ne h.own h.at' (by decide)) _, h.bel.setCell h.ge _, h.ge⟩
theorem BdSt.set1 {w wx : World} {A G : Nat} {X Y : Int} {s : ByteArray} {k : Nat} {x y : Int} (h : BdSt w wx A G X Y s k x y) (v : Int) : BdSt w (wx.setCell ⟨A, 1, none⟩ (.int .i64 v)) A G X Y s k x v :=
  ⟨Lib.heap_setCell_same (i := 1) h.at' _, ownsRow_setCell_other (a := ⟨A, 1, none⟩) h.own (own_ne h.own h.at' (by decide)) _, h.bel.setCell h.ge _, h.ge⟩
theorem BdSt.put {w wx : World} {A G : Nat} {X Y : Int} {s : ByteArray} {k q : Nat} {x y : Int} (h : BdSt w wx A G X Y s k x y) (hq : ixI (px X s k) (py Y s k) (wy s k) = (q : Int)) : BdSt w (wx.setCell ⟨G, q, none⟩ (.bool true)) A G X Y s (k + 1) x y := by
  have hs := (h.own.stored q (.bool true)).1
  rw [mdL_set X Y s k q hq] at hs
  have hne : A ≠ G := fun e => own_ne h.own h.at' (by decide) (by rw [e]; rfl)
  exact ⟨(Below.heap_setCell _ _ _ _ hne).trans h.at', hs, h.bel.setCell (h.own.lt G rfl).1 _, h.ge⟩
end Go.Proofs.YtlmmeefcnjcceaaDoor
