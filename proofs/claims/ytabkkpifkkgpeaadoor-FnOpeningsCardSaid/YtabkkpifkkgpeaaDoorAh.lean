/- Contracts of single functions, and plain lemmas, on which the exact laws of this seat rest; each holds under the conditions that it states. -/
import Derived.Test.YtabkkpifkkgpeaaDoorA3
import Derived.Test.YtabkkpifkkgpeaaDoorLt
import Derived.Deep.QuietTactic
import Derived.BigQuiet
import Derived.Deep.RegionHeld3
namespace Go.Proofs.YtabkkpifkkgpeaaDoor
set_option linter.unusedVariables false
set_option linter.unusedSimpArgs false
open Go.RowKit

/-- an element and a bool handed back -/
def SaysElB (xs : List (Int × Int)) (ok : Bool) (w : World) (e : Ending) (w' : World) : Prop :=
  ∃ ao n cap, e = .returned (.tuple #[.agg #[.slice ao n cap], .bool ok]) ∧ OwnS w' w.heap.size (.slice ao n cap) xs ∧ Below w.heap.size w w'

/-- the rule of a square -/
def sqF (size x y : Int) : Bool := decide (0 ≤ min x y) && decide (max x y < size)

set_option maxHeartbeats 1000000 in
theorem square1_any (x y size : Int) (q : Nat) (w : World) (hq : w.cell? ⟨q, 0, none⟩ = some (.int .i64 size)) :
    Calls Tryd.prog 148 #[.agg #[.int .i64 x, .int .i64 y], .pointer (some ⟨q, 0, none⟩)] w (SaysB (sqF size x y) w) := by
  have hl := blk_lt hq
  go_enter Tryd.func148, Tryd.ntmps148
  go_wp2
  all_goals go_ret
  all_goals exact ⟨ret_bool (by unfold sqF; rw [Bool.eq_iff_iff, Bool.and_eq_true]; simp only [decide_eq_true_eq, true_iff, false_iff, Bool.false_eq_true]; omega), Joins.below_alloc1 _ _⟩

set_option maxHeartbeats 1000000 in
theorem impl_Square_yes (size : Int) (w : World) (h : 1 ≤ size ∧ size ≤ 5) : Calls Tryd.prog 105 #[.int .i64 size] w (SaysElB (elL (sqF size)) true w) := by
  have hq : Hid (((w.alloc (.cells #[.int .i64 size] 2)).alloc (.cells #[.slice none 0 0] 46)).cell? ⟨w.heap.size, 0, none⟩ = some (.int .i64 size)) := cell_kept (Joins.below_alloc1 _ _) (cell_of_one (heap_alloc_last w _))
  have hR0 := heap_alloc_last (w.alloc (.cells #[.int .i64 size] 2)) (.cells #[.slice none 0 0] 46)
  rw [World.size_alloc] at hR0
  have HB0 := Lib.hid (Joins.below_alloc2 w (.cells #[.int .i64 size] 2) (.cells #[.slice none 0 0] 46))
  have C := Lib.hid (elementOf_Square w.heap.size (sqF size) ((w.alloc (.cells #[.int .i64 size] 2)).alloc (.cells #[.slice none 0 0] 46)) (fun x W hb => square1_any _ _ size _ W (cell_kept hb hq.out)))
  have HR0 := Lib.hid hR0
  clear hR0
  have h1 := h.1
  have h2 := h.2
  have hs0 : ((w.alloc (.cells #[.int .i64 size] 2)).alloc (.cells #[.slice none 0 0] 46)).heap.size = w.heap.size + 1 + 1 := by simp
  go_enter Tryd.func105, Tryd.ntmps105
  go_wp2_with fail
  refine C.out.mono ?_
  rintro e w2 ⟨ao, n, cap, rfl, hown, hb⟩
  have hp2 := (hb.block (w.heap.size + 1) (by rw [hs0]; omega)).trans HR0.out
  have hfr : w2.frozen? ⟨w.heap.size + 1, 0, none⟩ = false := free_of_one hp2
  have hc2 : w2.cell? ⟨w.heap.size + 1, 0, none⟩ = some (.slice none 0 0) := cell_of_one hp2
  have O2 := Lib.hid (own_set (u := .slice ao n cap) hown hp2 (by decide))
  have P2 := Lib.hid hp2
  have B2 := Lib.hid (HB0.out.trans (hb.mono (by rw [hs0]; omega)))
  clear hown hp2 hb
  go_wp2_with fail
  refine bodyPost_ret (v := .tuple #[.agg #[.slice ao n cap], .bool true]) (by simp [results, Tryd.results105, go_sem, cell_of_one (one_setCell P2.out)]) rfl ⟨_, _, _, rfl, Joins.ownsRow_le O2.out (by rw [hs0]; omega), B2.out.setCell (by simp) _⟩

set_option maxHeartbeats 1000000 in
theorem impl_Square_no (size : Int) (w : World) (h : ¬ (1 ≤ size ∧ size ≤ 5)) : Calls Tryd.prog 105 #[.int .i64 size] w (SaysElB [] false w) := by
  have hR0 := heap_alloc_last (w.alloc (.cells #[.int .i64 size] 2)) (.cells #[.slice none 0 0] 46)
  rw [World.size_alloc] at hR0
  have HR0 := Lib.hid hR0
  have HB0 := Lib.hid (Joins.below_alloc2 w (.cells #[.int .i64 size] 2) (.cells #[.slice none 0 0] 46))
  clear hR0
  by_cases h1 : size < 1
  · clear h
    go_enter Tryd.func105, Tryd.ntmps105
    go_wp2_with fail
    refine bodyPost_ret (v := .tuple #[.agg #[.slice none 0 0], .bool false]) (by simp [results, Tryd.results105, go_sem, cell_of_one HR0.out]) rfl ⟨_, _, _, rfl, World.ownsRow_nil _ _ _ _, HB0.out⟩
  · have h2 : 5 < size := by omega
    clear h
    go_enter Tryd.func105, Tryd.ntmps105
    go_wp2_with fail
    refine bodyPost_ret (v := .tuple #[.agg #[.slice none 0 0], .bool false]) (by simp [results, Tryd.results105, go_sem, cell_of_one HR0.out]) rfl ⟨_, _, _, rfl, World.ownsRow_nil _ _ _ _, HB0.out⟩
end Go.Proofs.YtabkkpifkkgpeaaDoor

/- Contracts of single functions, and plain lemmas, on which the exact laws of this seat rest; each holds under the conditions that it states. -/
namespace Go.Proofs.YtabkkpifkkgpeaaDoor
set_option linter.unusedVariables false
set_option linter.unusedSimpArgs false
open Go.RowKit

/-- the first k places of a square from o on that a rule allows -/
def grL (n : Nat) (o : Int) (f : Int → Int → Bool) (k : Nat) : List (Int × Int) := (List.range k).filterMap fun i => if f (((i % n : Nat) : Int) + o) (((i / n : Nat) : Int) + o) then some (((i % n : Nat) : Int) + o, ((i / n : Nat) : Int) + o) else none
theorem grL_len (n : Nat) (o : Int) (f : Int → Int → Bool) (k : Nat) : (grL n o f k).length ≤ k := by
  unfold grL
  have := List.length_filterMap_le (fun i => if f (((i % n : Nat) : Int) + o) (((i / n : Nat) : Int) + o) then some (((i % n : Nat) : Int) + o, ((i / n : Nat) : Int) + o) else none) (List.range k)
  simpa using this
theorem grL_snoc (n : Nat) (o : Int) (f : Int → Int → Bool) (y x : Nat) (hx : x < n) : grL n o f (y * n + x + 1) = grL n o f (y * n + x) ++ (if f ((x : Int) + o) ((y : Int) + o) then [((x : Int) + o, (y : Int) + o)] else []) := by
  have h1 : (y * n + x) / n = y := by rw [Nat.mul_comm, Nat.mul_add_div (by omega), Nat.div_eq_of_lt hx, Nat.add_zero]
  have h2 : (y * n + x) % n = x := by rw [Nat.mul_comm, Nat.mul_add_mod, Nat.mod_eq_of_lt hx]
  unfold grL
  rw [List.range_succ, List.filterMap_append]
  congr 1
  simp only [List.filterMap_cons, List.filterMap_nil, h1, h2]
  split <;> simp_all
theorem grL_zero (n : Nat) (o : Int) (f : Int → Int → Bool) : grL n o f 0 = [] := rfl

/-- an element that is being made in a variable; the result's variable -/
structure ElSt (w W : World) (R B : Nat) (v : Value) (L : List (Int × Int)) : Prop where
  r : W.heap[R]? = some (.cells #[.slice none 0 0] 46 (0, 0))
  b : W.heap[B]? = some (.cells #[v] 46 (0, 0))
  own : OwnS W w.heap.size v L
  bel : Below w.heap.size w W
  geB : w.heap.size ≤ B
  geR : w.heap.size ≤ R
  ne : R ≠ B
section
variable {w W W' : World} {R B : Nat} {v : Value} {L : List (Int × Int)}
theorem ElSt.below (h : ElSt w W R B v L) (hb : Below W.heap.size W W') : ElSt w W' R B v L :=
  ⟨(hb.block R (Array.getElem?_eq_some_iff.1 h.r).1).trans h.r, (hb.block B (Array.getElem?_eq_some_iff.1 h.b).1).trans h.b, own_below h.own hb, h.bel.trans (hb.mono h.bel.size), h.geB, h.geR, h.ne⟩
theorem ElSt.appended {w1 : World} {v' : Value} (h : ElSt w W R B v L) (a b : Int)
    (hown' : w1.ownsRow w.heap.size 29 2 v' (L.length + 1) (flat2 L ++ [.int .i64 a, .int .i64 b]))
    (hgr : (W.alloc (.cells #[.int .i64 a, .int .i64 b] 29)).grownBy w1 v.ownBlock) :
    w1.heap[B]? = some (.cells #[v] 46 (0, 0)) ∧ ElSt w (w1.setCell ⟨B, 0, none⟩ v') R B v' (L ++ [(a, b)]) := by
  have hB : Boxed W B 46 v := h.b
  have hR : Boxed W R 46 (.slice none 0 0) := h.r
  obtain ⟨h1, h2, h3, _, h5⟩ := hB.appended (by decide) h.own h.bel.size h.geB hown' hgr
  refine ⟨h1, ((hR.alloc _).kept hgr (hR.not_row (by decide) h.own)).other h.ne _, h2, ?_, h.bel.trans h5, h.geB, h.geR, h.ne⟩
  unfold OwnS
  rw [flat2_snoc, List.length_append]
  exact h3
theorem ElSt.start (w : World) : ElSt w (((w.alloc (.cells #[.slice none 0 0] 46)).alloc (.cells #[] 29)).alloc (.cells #[.slice (some ⟨w.heap.size + 1, 0, none⟩) 0 0] 46)) w.heap.size (w.heap.size + 1 + 1) (.slice (some ⟨w.heap.size + 1, 0, none⟩) 0 0) [] := by
  refine ⟨?_, ?_, ?_, Joins.below_alloc3 _ _ _ _, by omega, Nat.le_refl _, by omega⟩
  · rw [Below.heap_alloc _ _ _ (by simp; omega), Below.heap_alloc _ _ _ (by simp)]
    exact heap_alloc_last w _
  · have := heap_alloc_last ((w.alloc (.cells #[.slice none 0 0] 46)).alloc (.cells #[] 29)) (.cells #[.slice (some ⟨w.heap.size + 1, 0, none⟩) 0 0] 46)
    simp only [World.size_alloc] at this
    exact this
  · have := World.ownsRow_lit (base := w.heap.size) (e := 29) (size := 2) (w.alloc (.cells #[.slice none 0 0] 46)) #[] 0 (by simp) (by unfold maxLen; omega) rfl
    rw [World.size_alloc] at this
    exact World.ownsRow.alloc this _
theorem ElSt.own_out (h : ElSt w W R B v L) (u : Value) : OwnS (W.setCell ⟨R, 0, none⟩ u) w.heap.size v L := own_set (u := u) h.own h.r (by decide)
theorem ElSt.cell (h : ElSt w W R B v L) : W.cell? ⟨B, 0, none⟩ = some v := cell_of_one h.b
theorem ElSt.fr (h : ElSt w W R B v L) : W.frozen? ⟨B, 0, none⟩ = false := free_of_one h.b
theorem ElSt.cellR (h : ElSt w W R B v L) : W.cell? ⟨R, 0, none⟩ = some (.slice none 0 0) := cell_of_one h.r
theorem ElSt.frR (h : ElSt w W R B v L) : W.frozen? ⟨R, 0, none⟩ = false := free_of_one h.r
theorem ElSt.ltB (h : ElSt w W R B v L) : B < W.heap.size := (Array.getElem?_eq_some_iff.1 h.b).1
end

end Go.Proofs.YtabkkpifkkgpeaaDoor

/- Contracts of single functions, and plain lemmas, on which the exact laws of this seat rest; each holds under the conditions that it states. -/
namespace Go.Proofs.YtabkkpifkkgpeaaDoor
set_option linter.unusedVariables false
set_option linter.unusedSimpArgs false
open Go.RowKit

def absI (x : Int) : Int := max x (-x)
theorem absI_range (x : Int) (h : -100 ≤ x ∧ x ≤ 100) : 0 ≤ absI x ∧ absI x ≤ 100 := by unfold absI; omega
theorem absolute_any (x : Int) (w : World) (h : -100 ≤ x ∧ x ≤ 100) : Calls Tryd.prog 125 #[.int .i64 x] w fun e w' => e = .returned (.int .i64 (absI x)) ∧ w = w' := by
  go_enter Tryd.func125, Tryd.ntmps125
  go_wp2
  all_goals go_ret
  all_goals exact ⟨ret_int (by unfold absI; omega), rfl⟩

/-- the rule of a cross -/
def crF (r x y : Int) : Bool := decide (absI x + absI y ≤ r)

end Go.Proofs.YtabkkpifkkgpeaaDoor

/- Contracts of single functions, and plain lemmas, on which the exact laws of this seat rest; each holds under the conditions that it states. -/
namespace Go.Proofs.YtabkkpifkkgpeaaDoor
set_option linter.unusedVariables false
set_option linter.unusedSimpArgs false
open Go.RowKit

/-! ### elements that are valid -/
def okO (p : Int × Int) : Bool := decide (-4 ≤ p.1) && decide (p.1 ≤ 4) && (decide (-4 ≤ p.2) && decide (p.2 ≤ 4))
def befB (a b : Int × Int) : Bool := decide (a.2 < b.2) || (decide (a.2 = b.2) && decide (a.1 < b.1))
def stepOk (xs : List (Int × Int)) (i : Nat) : Bool := okO (xs.getD i (0, 0)) && (decide (i = 0) || befB (xs.getD (i - 1) (0, 0)) (xs.getD i (0, 0)))
def elB (xs : List (Int × Int)) : Bool := (List.range xs.length).all (stepOk xs) && (decide (1 ≤ xs.length) && decide (xs.length ≤ 50))
theorem elB_bad {xs : List (Int × Int)} {i : Nat} (hi : i < xs.length) (h : stepOk xs i = false) : elB xs = false := by
  unfold elB
  rw [Bool.and_eq_false_iff]
  left
  rw [List.all_eq_false]
  exact ⟨i, List.mem_range.2 hi, by rw [h]; simp⟩
theorem elB_good {xs : List (Int × Int)} (h : ∀ i, i < xs.length → stepOk xs i = true) : elB xs = (decide (1 ≤ xs.length) && decide (xs.length ≤ 50)) := by
  unfold elB
  rw [show (List.range xs.length).all (stepOk xs) = true from List.all_eq_true.2 (fun i hi => h i (List.mem_range.1 hi)), Bool.true_and]

set_option maxHeartbeats 1000000 in
theorem l03Before_any (a b c d : Int) (w : World) : Calls Tryd.prog 134 #[.agg #[.int .i64 a, .int .i64 b], .agg #[.int .i64 c, .int .i64 d]] w (SaysB (befB (a, b) (c, d)) w) := by
  by_cases h1 : b < d
  · have HV : Hid (befB (a, b) (c, d) = true) := by show _ = _; simp [befB, h1]
    go_enter Tryd.func134, Tryd.ntmps134
    go_wp2
    go_ret
    exact ⟨ret_bool HV.out.symm, Joins.below_alloc2 _ _ _⟩
  · have h1' : decide (b < d) = false := decide_eq_false h1
    by_cases h2 : b = d
    · have h2' : (b == d) = true := beq_iff_eq.2 h2
      by_cases h3 : a < c
      · have HV : Hid (befB (a, b) (c, d) = true) := by show _ = _; simp [befB, h2, h3]
        clear h2
        go_enter Tryd.func134, Tryd.ntmps134
        go_wp2
        go_ret
        exact ⟨ret_bool HV.out.symm, Joins.below_alloc2 _ _ _⟩
      · have h3' : decide (a < c) = false := decide_eq_false h3
        have HV : Hid (befB (a, b) (c, d) = false) := by show _ = _; simp [befB, h2]; omega
        clear h2
        go_enter Tryd.func134, Tryd.ntmps134
        go_wp2
        go_ret
        exact ⟨ret_bool HV.out.symm, Joins.below_alloc2 _ _ _⟩
    · have h2' : (b == d) = false := by simpa using h2
      have HV : Hid (befB (a, b) (c, d) = false) := by show _ = _; simp [befB, h2]; omega
      clear h2
      go_enter Tryd.func134, Tryd.ntmps134
      go_wp2
      go_ret
      exact ⟨ret_bool HV.out.symm, Joins.below_alloc2 _ _ _⟩
end Go.Proofs.YtabkkpifkkgpeaaDoor

/- Contracts of single functions, and plain lemmas, on which the exact laws of this seat rest; each holds under the conditions that it states. -/
namespace Go.Proofs.YtabkkpifkkgpeaaDoor
set_option linter.unusedVariables false
set_option linter.unusedSimpArgs false
open Go.RowKit

/-! ### valid elements are those that an element of their own offsets is -/
theorem bef_iff (a b : Int × Int) : befB a b = true ↔ (a.2 < b.2 ∨ (a.2 = b.2 ∧ a.1 < b.1)) := by simp [befB]
theorem bef_trans {a b c : Int × Int} (h : befB a b = true) (k : befB b c = true) : befB a c = true := by
  rw [bef_iff] at *; omega
theorem bef_irr (a : Int × Int) : ¬ befB a a = true := by rw [bef_iff]; omega
theorem bef_asym {a b : Int × Int} (h : befB a b = true) : ¬ befB b a = true := by rw [bef_iff] at *; omega
abbrev Srt (l : List (Int × Int)) : Prop := l.Pairwise (fun a b => befB a b = true)
theorem srt_eq : ∀ {l1 l2 : List (Int × Int)}, Srt l1 → Srt l2 → (∀ p, p ∈ l1 ↔ p ∈ l2) → l1 = l2
  | [], [], _, _, _ => rfl
  | [], b :: l2, _, _, h => absurd ((h b).2 (List.mem_cons_self ..)) (by simp)
  | a :: l1, [], _, _, h => absurd ((h a).1 (List.mem_cons_self ..)) (by simp)
  | a :: l1, b :: l2, h1, h2, h => by
    have k1 := List.pairwise_cons.1 h1
    have k2 := List.pairwise_cons.1 h2
    have e : a = b := by
      rcases List.mem_cons.1 ((h a).1 (List.mem_cons_self ..)) with e | e
      · exact e
      · rcases List.mem_cons.1 ((h b).2 (List.mem_cons_self ..)) with e' | e'
        · exact e'.symm
        · exact absurd (k2.1 a e) (bef_asym (k1.1 b e'))
    subst e
    congr 1
    refine srt_eq k1.2 k2.2 fun p => ⟨fun hp => ?_, fun hp => ?_⟩
    · rcases List.mem_cons.1 ((h p).1 (List.mem_cons_of_mem _ hp)) with e | e
      · subst e; exact absurd (k1.1 _ hp) (bef_irr _)
      · exact e
    · rcases List.mem_cons.1 ((h p).2 (List.mem_cons_of_mem _ hp)) with e | e
      · subst e; exact absurd (k2.1 _ hp) (bef_irr _)
      · exact e

set_option maxRecDepth 100000 in
theorem offL_srt : (offL 81).Pairwise (fun a b => befB a.1 b.1 = true) := by decide +kernel
theorem off_mem (x : Off) : x ∈ offL 81 := by
  obtain ⟨⟨a, b⟩, ⟨h1, h2⟩, h3, h4⟩ := x
  simp only at h1 h2 h3 h4
  unfold offL
  refine List.mem_map.2 ⟨((b + 4) * 9 + (a + 4)).toNat, List.mem_range.2 (by omega), ?_⟩
  apply Subtype.ext
  simp only [offAt]
  refine Prod.ext ?_ ?_
  · show ((((b + 4) * 9 + (a + 4)).toNat % 9 : Nat) : Int) - 4 = a
    omega
  · show ((((b + 4) * 9 + (a + 4)).toNat / 9 % 9 : Nat) : Int) - 4 = b
    omega
theorem elL_srt (f : Int → Int → Bool) : Srt (elL f) := by
  unfold elL selL Srt
  rw [List.pairwise_map]
  exact offL_srt.filter _
theorem elL_mem (f : Int → Int → Bool) (p : Int × Int) : p ∈ elL f ↔ (((-4 ≤ p.1 ∧ p.1 ≤ 4) ∧ (-4 ≤ p.2 ∧ p.2 ≤ 4)) ∧ f p.1 p.2 = true) := by
  unfold elL selL
  rw [List.mem_map]
  constructor
  · rintro ⟨x, hx, rfl⟩
    exact ⟨x.2, (List.mem_filter.1 hx).2⟩
  · rintro ⟨h, hf⟩
    exact ⟨⟨p, h⟩, List.mem_filter.2 ⟨off_mem _, hf⟩, rfl⟩
theorem okO_iff (p : Int × Int) : okO p = true ↔ ((-4 ≤ p.1 ∧ p.1 ≤ 4) ∧ (-4 ≤ p.2 ∧ p.2 ≤ 4)) := by simp [okO]

theorem getD_of_lt {xs : List (Int × Int)} {i : Nat} (h : i < xs.length) : xs.getD i (0, 0) = xs[i] := by
  rw [List.getD_eq_getElem?_getD, List.getElem?_eq_getElem h]; rfl
theorem srt_of_steps {xs : List (Int × Int)} (h : ∀ i, i < xs.length → stepOk xs i = true) : Srt xs := by
  have key : ∀ j, ∀ i, i < j → (hj : j < xs.length) → befB (xs.getD i (0, 0)) (xs.getD j (0, 0)) = true := by
    intro j
    induction j with
    | zero => intro i hi; omega
    | succ j ih =>
      intro i hi hj
      have hs := h (j + 1) hj
      unfold stepOk at hs
      simp at hs
      by_cases e : i = j
      · subst e; simpa using hs.2
      · exact bef_trans (ih i (by omega) (by omega)) (by simpa using hs.2)
  unfold Srt
  rw [List.pairwise_iff_getElem]
  intro i j hi hj hij
  have := key j i hij hj
  rwa [getD_of_lt hi, getD_of_lt hj] at this
theorem steps_of_srt {xs : List (Int × Int)} (h : Srt xs) (hr : ∀ p ∈ xs, okO p = true) : ∀ i, i < xs.length → stepOk xs i = true := by
  intro i hi
  unfold stepOk
  rw [getD_of_lt hi, hr _ (List.getElem_mem hi), Bool.true_and]
  by_cases e : i = 0
  · simp [e]
  · rw [getD_of_lt (show i - 1 < xs.length by omega)]
    unfold Srt at h
    rw [List.pairwise_iff_getElem] at h
    rw [h (i - 1) i (by omega) hi (by omega), Bool.or_true]

def memB (xs : List (Int × Int)) (x y : Int) : Bool := decide ((x, y) ∈ xs)
/-- how many different ones are among the first k -/
def dC (xs : List (Int × Int)) : Nat → Nat
  | 0 => 0
  | k + 1 => if xs.getD k (0, 0) ∈ xs.take k then dC xs k else dC xs k + 1
theorem dC_le (xs : List (Int × Int)) : ∀ k, dC xs k ≤ k
  | 0 => Nat.le_refl _
  | k + 1 => by have := dC_le xs k; simp only [dC]; split <;> omega
theorem dC_srt {xs : List (Int × Int)} (h : Srt xs) : ∀ k, k ≤ xs.length → dC xs k = k
  | 0, _ => rfl
  | k + 1, hk => by
    have ih := dC_srt h k (by omega)
    simp only [dC]
    rw [if_neg, ih]
    intro hm
    obtain ⟨j, hj, e⟩ := List.mem_take_iff_getElem.1 hm
    unfold Srt at h
    rw [List.pairwise_iff_getElem] at h
    have := h j k (by omega) (by omega) (by omega)
    rw [e, getD_of_lt (by omega)] at this
    exact bef_irr _ this

theorem el_self {xs : List (Int × Int)} (h : ∀ i, i < xs.length → stepOk xs i = true) : elL (memB xs) = xs := by
  refine srt_eq (elL_srt _) (srt_of_steps h) fun p => ?_
  rw [elL_mem]
  constructor
  · rintro ⟨_, h2⟩
    exact of_decide_eq_true h2
  · intro hp
    obtain ⟨i, hi, e⟩ := List.mem_iff_getElem.1 hp
    have hs := h i hi
    unfold stepOk at hs
    rw [getD_of_lt hi, Bool.and_eq_true] at hs
    rw [e] at hs
    exact ⟨(okO_iff p).1 hs.1, decide_eq_true hp⟩

/-- what ValidElement reckons -/
theorem valid_eq (xs : List (Int × Int)) : (decide ((elL (memB xs)).length = dC xs xs.length) && (decide (1 ≤ dC xs xs.length) && decide (dC xs xs.length ≤ 50)) && decide (elL (memB xs) = xs)) = elB xs := by
  by_cases h : ∀ i, i < xs.length → stepOk xs i = true
  · have e := el_self h
    rw [e, dC_srt (srt_of_steps h) _ (Nat.le_refl _), elB_good h]
    simp
  · obtain ⟨i, hi⟩ : ∃ i, ¬ (i < xs.length → stepOk xs i = true) := Classical.not_forall.1 h
    have hlt : i < xs.length := Classical.byContradiction fun k => hi (fun h' => absurd h' k)
    have hst : stepOk xs i = false := by
      cases e : stepOk xs i with
      | false => rfl
      | true => exact absurd (fun _ => e) hi
    rw [elB_bad hlt hst]
    have hne : elL (memB xs) ≠ xs := fun e => h (by
      have hs := elL_srt (memB xs)
      rw [e] at hs
      refine steps_of_srt hs fun p hp => ?_
      rw [← e] at hp
      exact (okO_iff p).2 ((elL_mem _ _).1 hp).1)
    rw [decide_eq_false hne, Bool.and_false]
end Go.Proofs.YtabkkpifkkgpeaaDoor
