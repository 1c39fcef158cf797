/- Contracts of single functions, and plain lemmas, on which the exact laws of this seat rest; each holds under the conditions that it states. -/
import Derived.Test.YtdeagfmldpociaaA2
import Derived.Test.YtdeagfmldpociaaPb
namespace Go.Proofs.Ytdeagfmldpociaa
set_option linter.unusedVariables false
set_option linter.unusedSimpArgs false
open Go.RowKit

/-- an element and a bool handed back -/
def SaysElB (xs : List (Int × Int)) (ok : Bool) (w : World) (e : Ending) (w' : World) : Prop :=
  ∃ ao n cap, e = .returned (.tuple #[.agg #[.slice ao n cap], .bool ok]) ∧ OwnS w' w.heap.size (.slice ao n cap) xs ∧ Below w.heap.size w w'

/-- the rule of a square -/
def sqF (size x y : Int) : Bool := decide (0 ≤ min x y) && decide (max x y < size)

end Go.Proofs.Ytdeagfmldpociaa

/- Contracts of single functions, and plain lemmas, on which the exact laws of this seat rest; each holds under the conditions that it states. -/
namespace Go.Proofs.Ytdeagfmldpociaa
set_option linter.unusedVariables false
set_option linter.unusedSimpArgs false
open Go.RowKit

/-- the first k places of a square from o on that a rule allows -/
def grL (n : Nat) (o : Int) (f : Int → Int → Bool) (k : Nat) : List (Int × Int) := (List.range k).filterMap fun i => if f (((i % n : Nat) : Int) + o) (((i / n : Nat) : Int) + o) then some (((i % n : Nat) : Int) + o, ((i / n : Nat) : Int) + o) else none
theorem grL_len (n : Nat) (o : Int) (f : Int → Int → Bool) (k : Nat) : (grL n o f k).length ≤ k := by
  unfold grL
  have := List.length_filterMap_le (fun i => if f (((i % n : Nat) : Int) + o) (((i / n : Nat) : Int) + o) then some (((i % n : Nat) : Int) + o, ((i / n : Nat) : Int) + o) else none) (List.range k)
  simpa using this
theorem grL_snoc (n : Nat) (o : Int) (f : Int → Int → Bool) (y x : Nat) (hx : x < n) : grL n o f (y * n + x + 1) = grL n o f (y * n + x) ++ (if f ((x : Int) + o) ((y : Int) + o) then [((x : Int) + o, (y : Int) + o)] else []) := by
  have h1 : (y * n + x) / n = y := by rw [Nat.mul_comm, Nat.mul_add_div (by omega), Nat.div_eq_of_lt hx, Nat.add_zero]
  have h2 : (y * n + x) % n = x := by rw [Nat.mul_comm, Nat.mul_add_mod, Nat.mod_eq_of_lt hx]
  unfold grL
  rw [List.range_succ, List.filterMap_append]
  congr 1
  simp only [List.filterMap_cons, List.filterMap_nil, h1, h2]
  split <;> simp_all
theorem grL_zero (n : Nat) (o : Int) (f : Int → Int → Bool) : grL n o f 0 = [] := rfl

/-- an element that is being made in a variable; the result's variable -/
structure ElSt (w W : World) (R B : Nat) (v : Value) (L : List (Int × Int)) : Prop where
  r : W.heap[R]? = some (.cells #[.slice none 0 0] 34 (0, 0))
  b : W.heap[B]? = some (.cells #[v] 34 (0, 0))
  own : OwnS W w.heap.size v L
  bel : Below w.heap.size w W
  geB : w.heap.size ≤ B
  geR : w.heap.size ≤ R
  ne : R ≠ B
section
variable {w W W' : World} {R B : Nat} {v : Value} {L : List (Int × Int)}
theorem ElSt.below (h : ElSt w W R B v L) (hb : Below W.heap.size W W') : ElSt w W' R B v L :=
  ⟨(hb.block R (Array.getElem?_eq_some_iff.1 h.r).1).trans h.r, (hb.block B (Array.getElem?_eq_some_iff.1 h.b).1).trans h.b, own_below h.own hb, h.bel.trans (hb.mono h.bel.size), h.geB, h.geR, h.ne⟩
theorem ElSt.appended {w1 : World} {v' : Value} (h : ElSt w W R B v L) (a b : Int)
    (hown' : w1.ownsRow w.heap.size 25 2 v' (L.length + 1) (flat2 L ++ [.int .i64 a, .int .i64 b]))
    (hgr : (W.alloc (.cells #[.int .i64 a, .int .i64 b] 25)).grownBy w1 v.ownBlock) :
    w1.heap[B]? = some (.cells #[v] 34 (0, 0)) ∧ ElSt w (w1.setCell ⟨B, 0, none⟩ v') R B v' (L ++ [(a, b)]) := by
  have hB : Boxed W B 34 v := h.b
  have hR : Boxed W R 34 (.slice none 0 0) := h.r
  obtain ⟨h1, h2, h3, _, h5⟩ := hB.appended (by decide) h.own h.bel.size h.geB hown' hgr
  refine ⟨h1, ((hR.alloc _).kept hgr (hR.not_row (by decide) h.own)).other h.ne _, h2, ?_, h.bel.trans h5, h.geB, h.geR, h.ne⟩
  unfold OwnS
  rw [flat2_snoc, List.length_append]
  exact h3
theorem ElSt.start (w : World) : ElSt w (((w.alloc (.cells #[.slice none 0 0] 34)).alloc (.cells #[] 25)).alloc (.cells #[.slice (some ⟨w.heap.size + 1, 0, none⟩) 0 0] 34)) w.heap.size (w.heap.size + 1 + 1) (.slice (some ⟨w.heap.size + 1, 0, none⟩) 0 0) [] := by
  refine ⟨?_, ?_, ?_, Joins.below_alloc3 _ _ _ _, by omega, Nat.le_refl _, by omega⟩
  · rw [Below.heap_alloc _ _ _ (by simp; omega), Below.heap_alloc _ _ _ (by simp)]
    exact heap_alloc_last w _
  · have := heap_alloc_last ((w.alloc (.cells #[.slice none 0 0] 34)).alloc (.cells #[] 25)) (.cells #[.slice (some ⟨w.heap.size + 1, 0, none⟩) 0 0] 34)
    simp only [World.size_alloc] at this
    exact this
  · have := World.ownsRow_lit (base := w.heap.size) (e := 25) (size := 2) (w.alloc (.cells #[.slice none 0 0] 34)) #[] 0 (by simp) (by unfold maxLen; omega) rfl
    rw [World.size_alloc] at this
    exact World.ownsRow.alloc this _
theorem ElSt.own_out (h : ElSt w W R B v L) (u : Value) : OwnS (W.setCell ⟨R, 0, none⟩ u) w.heap.size v L := own_set (u := u) h.own h.r (by decide)
theorem ElSt.cell (h : ElSt w W R B v L) : W.cell? ⟨B, 0, none⟩ = some v := cell_of_one h.b
theorem ElSt.fr (h : ElSt w W R B v L) : W.frozen? ⟨B, 0, none⟩ = false := free_of_one h.b
theorem ElSt.cellR (h : ElSt w W R B v L) : W.cell? ⟨R, 0, none⟩ = some (.slice none 0 0) := cell_of_one h.r
theorem ElSt.frR (h : ElSt w W R B v L) : W.frozen? ⟨R, 0, none⟩ = false := free_of_one h.r
theorem ElSt.ltB (h : ElSt w W R B v L) : B < W.heap.size := (Array.getElem?_eq_some_iff.1 h.b).1
end

end Go.Proofs.Ytdeagfmldpociaa
