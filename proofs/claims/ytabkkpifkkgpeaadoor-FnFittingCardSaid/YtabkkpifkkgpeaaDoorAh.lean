/- Contracts of single functions, and plain lemmas, on which the exact laws of this seat rest; each holds under the conditions that it states. -/
import Derived.Test.YtabkkpifkkgpeaaDoorQa
import Derived.Test.YtabkkpifkkgpeaaDoorRc
import Derived.RangeFuncNested
import Derived.RangeFuncBound
import Derived.RangeFuncCalls
import Derived.RangeFuncLeaves
import Derived.RangeFuncBox
import Derived.Shelf.Abstract
import Derived.Shelf.RegionOpen
import Derived.WalkKit
import Derived.OwnWalkIn
import Derived.TacticsInMore
import Derived.LoopNIn
import Derived.LoopIn
import Derived.Maps.AppendAt
import Derived.Test.YtabkkpifkkgpeaaDoorLt
import Derived.Deep.QuietTactic
import Derived.BigQuiet
import Derived.Deep.RegionHeld3
namespace Go.Proofs.YtabkkpifkkgpeaaDoor
set_option linter.unusedVariables false
set_option linter.unusedSimpArgs false
open Go.RowKit

def spotC (xs : List (Int × Int)) (j : Nat) : Int := if j % 2 = 0 then (xs.getD (j / 2) (0, 0)).1 else (xs.getD (j / 2) (0, 0)).2
/-- the cells of a row of spots -/
def flat2 (xs : List (Int × Int)) : List Value := (List.range (xs.length * 2)).map fun j => Value.int .i64 (spotC xs j)
theorem flat2_len (xs : List (Int × Int)) : (flat2 xs).length = xs.length * 2 := by simp [flat2]
theorem flat2_at (xs : List (Int × Int)) (j : Nat) (h : j < xs.length * 2) : (flat2 xs)[j]? = some (.int .i64 (spotC xs j)) := by simp [flat2, h]
theorem spotC_x (xs : List (Int × Int)) (i : Nat) : spotC xs (i * 2) = (xs.getD i (0, 0)).1 := by
  unfold spotC; rw [if_pos (by omega), show i * 2 / 2 = i from by omega]
theorem spotC_y (xs : List (Int × Int)) (i : Nat) : spotC xs (i * 2 + 1) = (xs.getD i (0, 0)).2 := by
  unfold spotC; rw [if_neg (by omega), show (i * 2 + 1) / 2 = i from by omega]
/-- a slice of spots of the call's own -/
def OwnS (w : World) (base : Nat) (v : Value) (xs : List (Int × Int)) : Prop := w.ownsRow base 29 2 v xs.length (flat2 xs)
theorem OwnS.sl {w : World} {base : Nat} {v : Value} {xs : List (Int × Int)} (h : OwnS w base v xs) : SlS w v xs := by
  rcases Joins.ownsRow_forms h with ⟨rfl, h0⟩ | ⟨g, cap, rfl⟩
  · exact Or.inl ⟨none, 0, rfl, List.length_eq_zero_iff.1 h0⟩
  · by_cases h0 : xs.length = 0
    · have := List.length_eq_zero_iff.1 h0
      subst this
      exact Or.inl ⟨_, _, rfl, rfl⟩
    · refine Or.inr ⟨g, cap, rfl, by omega, (h.lt g rfl).2, fun i hi => ⟨?_, ?_⟩⟩
      · rw [h.cellAt (i * 2) (by omega), flat2_at xs _ (by omega), spotC_x]
      · rw [h.cellAt (i * 2 + 1) (by omega), flat2_at xs _ (by omega), spotC_y]

theorem OwnS.spots {w : World} {base g n cap : Nat} {xs : List (Int × Int)} (h : OwnS w base (.slice (some ⟨g, 0, none⟩) n cap) xs) : Spots w g xs := by
  refine ⟨(h.lt g rfl).2, fun i hi => ⟨?_, ?_⟩⟩
  · rcases Joins.ownsRow_forms h with ⟨h1, _⟩ | ⟨g', cap', h1⟩
    · cases h1
    · cases h1
      rw [h.cellAt (i * 2) (by omega), flat2_at xs _ (by omega), spotC_x]
  · rcases Joins.ownsRow_forms h with ⟨h1, _⟩ | ⟨g', cap', h1⟩
    · cases h1
    · cases h1
      rw [h.cellAt (i * 2 + 1) (by omega), flat2_at xs _ (by omega), spotC_y]

def marksS (k n : Nat) : List (Int × Int) := (List.range n).map fun i => (((k + i * 2 : Nat) : Int), ((k + i * 2 + 1 : Nat) : Int))
theorem marksS_len (k n : Nat) : (marksS k n).length = n := by simp [marksS]
theorem marksS_at (k n i : Nat) (h : i < n) : (marksS k n).getD i (0, 0) = (((k + i * 2 : Nat) : Int), ((k + i * 2 + 1 : Nat) : Int)) := by simp [marksS, h]
/-- the first c cells are marked -/
def partS (xs : List (Int × Int)) (k n c : Nat) : List Value := (List.range (n * 2)).map fun j => if j < c then Value.int .i64 ((k + j : Nat) : Int) else Value.int .i64 (spotC xs j)
theorem partS_zero (xs : List (Int × Int)) (k : Nat) : partS xs k xs.length 0 = flat2 xs := by
  unfold partS flat2
  simp only [Nat.not_lt_zero, if_false]
theorem partS_full (xs : List (Int × Int)) (k n : Nat) : partS xs k n (n * 2) = flat2 (marksS k n) := by
  unfold partS flat2
  rw [marksS_len]
  apply List.map_congr_left
  intro j hj
  simp only [List.mem_range] at hj
  rw [if_pos hj]
  rcases Nat.mod_two_eq_zero_or_one j with h | h
  · have e : j = j / 2 * 2 := by omega
    rw [e, spotC_x, marksS_at _ _ _ (by omega)]
  · have e : j = j / 2 * 2 + 1 := by omega
    rw [e, spotC_y, marksS_at _ _ _ (by omega)]
    rfl
theorem partS_set (xs : List (Int × Int)) (k n c : Nat) : (partS xs k n c).set c (.int .i64 ((k + c : Nat) : Int)) = partS xs k n (c + 1) := by
  unfold partS
  rw [set_map_range]
  apply List.map_congr_left
  intro j hj
  by_cases h1 : j = c
  · subst h1; simp
  · by_cases h2 : j < c
    · simp [h1, h2, show j < c + 1 from by omega]
    · simp [h1, h2, show ¬ j < c + 1 from by omega]
theorem partS_at (xs : List (Int × Int)) (k n c : Nat) (h : c < n * 2) : (partS xs k n c)[c]? = some (.int .i64 (spotC xs c)) := by
  unfold partS
  simp [h]

def MarkedS (w : World) (base : Nat) (v : Value) (k n : Nat) (e : Ending) (w' : World) : Prop := e = .returned (.int .i64 ((k + n * 2 : Nat) : Int)) ∧ OwnS w' base v (marksS k n) ∧ w.grownBy w' v.ownBlock

/-- a slice of spots and a bool handed back -/
def SaysSp (xs : List (Int × Int)) (ok : Bool) (w : World) (e : Ending) (w' : World) : Prop :=
  ∃ ao n cap, e = .returned (.tuple #[.slice ao n cap, .bool ok]) ∧ OwnS w' w.heap.size (.slice ao n cap) xs ∧ Below w.heap.size w w'
end Go.Proofs.YtabkkpifkkgpeaaDoor

/- Contracts of single functions, and plain lemmas, on which the exact laws of this seat rest; each holds under the conditions that it states. -/
namespace Go.Proofs.YtabkkpifkkgpeaaDoor
set_option linter.unusedVariables false
set_option linter.unusedSimpArgs false
open Go.RowKit

theorem flat2_snoc (xs : List (Int × Int)) (a b : Int) : flat2 (xs ++ [(a, b)]) = flat2 xs ++ [.int .i64 a, .int .i64 b] := by
  have hl : ∀ i, i < xs.length → (xs ++ [(a, b)]).getD i (0, 0) = xs.getD i (0, 0) := fun i hi => by
    rw [List.getD_eq_getElem?_getD, List.getD_eq_getElem?_getD, List.getElem?_append_left hi]
  have hr : (xs ++ [(a, b)]).getD xs.length (0, 0) = (a, b) := by
    rw [List.getD_eq_getElem?_getD, List.getElem?_append_right (Nat.le_refl _), Nat.sub_self]; rfl
  apply List.ext_getElem?
  intro j
  by_cases h1 : j < xs.length * 2
  · rw [flat2_at _ _ (by simp; omega), List.getElem?_append_left (by rw [flat2_len]; exact h1), flat2_at _ _ h1]
    unfold spotC
    rw [hl _ (by omega)]
  · by_cases h2 : j < xs.length * 2 + 2
    · rw [flat2_at _ _ (by simp; omega), List.getElem?_append_right (by rw [flat2_len]; omega), flat2_len]
      by_cases h3 : j = xs.length * 2
      · subst h3
        rw [spotC_x, hr, Nat.sub_self]; rfl
      · obtain rfl : j = xs.length * 2 + 1 := by omega
        rw [spotC_y, hr, show xs.length * 2 + 1 - xs.length * 2 = 1 from by omega]; rfl
    · rw [List.getElem?_eq_none (by rw [flat2_len]; simp; omega), List.getElem?_eq_none (by rw [List.length_append, flat2_len]; simp; omega)]

theorem two_cells_new (w : World) (a b : Value) (t : TypeId) : ∀ j u, [a, b][j]? = some u → (w.alloc (.cells #[a, b] t)).cell? ((⟨w.heap.size, 0, none⟩ : Addr).add j) = some u := fun j u h => by
  rw [Addr.add_mid, Nat.zero_add, Joins.cell_of_block (heap_alloc_last w _) j]
  simpa using h

end Go.Proofs.YtabkkpifkkgpeaaDoor

/- Contracts of single functions, and plain lemmas, on which the exact laws of this seat rest; each holds under the conditions that it states. -/
namespace Go.Proofs.YtabkkpifkkgpeaaDoor
set_option linter.unusedVariables false
set_option linter.unusedSimpArgs false
open Go.RowKit Go.Shelf
attribute [local go_sem] Oper.semAt_some

/-! ### offsets, in their order -/
abbrev Off := { p : Int × Int // (-4 ≤ p.1 ∧ p.1 ≤ 4) ∧ (-4 ≤ p.2 ∧ p.2 ≤ 4) }
def offAt (i : Nat) : Off := ⟨(((i % 9 : Nat) : Int) - 4, ((i / 9 % 9 : Nat) : Int) - 4), by omega, by omega⟩
def offL (k : Nat) : List Off := (List.range k).map offAt
theorem offL_len (k : Nat) : (offL k).length = k := by simp [offL]
theorem offL_snoc (k : Nat) : offL (k + 1) = offL k ++ [offAt k] := by simp [offL, List.range_succ]
def encO (x : Off) : Array Value := #[.agg #[.int .i64 x.1.1, .int .i64 x.1.2]]
theorem encO_at (y x : Nat) (hy : y < 9) (hx : x < 9) : encO (offAt (y * 9 + x)) = #[.agg #[.int .i64 ((x : Int) - 4), .int .i64 ((y : Int) - 4)]] := by
  have e1 : (y * 9 + x) % 9 = x := by omega
  have e2 : (y * 9 + x) / 9 % 9 = y := by omega
  simp only [encO, offAt, e1, e2]
/-- those that a rule allows -/
def selL (f : Int → Int → Bool) (xs : List Off) : List (Int × Int) := (xs.filter fun p => f p.1.1 p.1.2).map (·.1)
theorem selL_hit (f : Int → Int → Bool) (pre : List Off) {x : Off} (h : f x.1.1 x.1.2 = true) : selL f (pre ++ [x]) = selL f pre ++ [(x.1.1, x.1.2)] := by simp [selL, h]
theorem selL_miss (f : Int → Int → Bool) (pre : List Off) {x : Off} (h : f x.1.1 x.1.2 = false) : selL f (pre ++ [x]) = selL f pre := by simp [selL, h]
theorem selL_len (f : Int → Int → Bool) (xs : List Off) : (selL f xs).length ≤ xs.length := by
  unfold selL
  rw [List.length_map]
  exact List.length_filter_le _ _
/-- the element of a rule -/
def elL (f : Int → Int → Bool) : List (Int × Int) := selL f (offL 81)
theorem elL_len (f : Int → Int → Bool) : (elL f).length ≤ 81 := by
  have := selL_len f (offL 81)
  rwa [offL_len] at this

set_option maxRecDepth 100000 in
set_option maxHeartbeats 1000000 in
/-- the iterator over all offsets -/
theorem allOffsets_in (F : Fence) (n : Nat) (hF : F.fn 158) (hro : F.round = none) (hn : 1 ≤ n) (l : Nat) (J Jx : List Off → World → Prop) (Kp : World → World → Prop)
    (hY : ∀ pre x W, J pre W → pre.length < 81 → YieldAt F (n - 1) Tryd.prog l (encO x) W fun e W' =>
      (e = .returned (.bool true) ∧ J (pre ++ [x]) W' ∧ Kp W W') ∨ (e = .returned (.bool false) ∧ Jx (pre ++ [x]) W'))
    (W : World) (h0 : J [] W) :
    CallsIn F n Tryd.prog 158 #[.func (.yield l) #[] #[]] W fun e W' => (∃ v, e = .returned v) ∧
      ((∃ ys, ys = offL 81 ∧ J ys W') ∨ (∃ pre, True ∧ Jx pre W')) := by
  refine callsIn_of_wp Tryd.func158 rfl hF ?_ hro
  simp only [Tryd.ntmps158, List.size_toArray, List.length_cons, List.length_nil, Nat.reduceAdd, Nat.reduceSub, Array.replicate_succ, Array.replicate_zero, List.push_toArray, List.append_toArray, List.nil_append, List.cons_append]
  gi_wp2
  gi_loopw [2] (fun yv wr => ∃ y : Nat, y ≤ 9 ∧ yv = .int .i64 ((y : Int) - 4) ∧ J (offL (y * 9)) wr) (fun yv _ => (5 - intOf yv).toNat)
  case atStart => exact ⟨0, by omega, rfl, h0⟩
  case round =>
    obtain ⟨y, hy, rfl, hJ⟩ := hrel
    by_cases hlt : y < 9
    · have ky : (y : Int) - 4 ≤ 4 := by omega
      gi_wp2
      gi_loopw [3] (fun xv wr => ∃ x : Nat, x ≤ 9 ∧ xv = .int .i64 ((x : Int) - 4) ∧ J (offL (y * 9 + x)) wr) (fun xv _ => (5 - intOf xv).toNat)
      case atStart => exact ⟨0, by omega, rfl, hJ⟩
      case round =>
        clear hJ
        obtain ⟨x, hx, rfl, hJ⟩ := hrel
        by_cases hltx : x < 9
        · have kx : (x : Int) - 4 ≤ 4 := by omega
          have hy0 := hY (offL (y * 9 + x)) (offAt (y * 9 + x)) wr hJ (by rw [offL_len]; omega)
          rw [encO_at y x hlt hltx, ← offL_snoc] at hy0
          obtain ⟨fn, tmps, assign, body, hyv, hR⟩ := hy0
          clear hJ
          gi_wp2
          refine hR.mono ?_
          rintro e W3 (⟨rfl, hJ3, hk3⟩ | ⟨rfl, hJx3⟩)
          · gi_wp2
            go_roundw
            case rel => exact ⟨x + 1, by omega, by go_num, hJ3⟩
            case measure => simp [intOf]; omega
          · gi_wp2
            refine bodyPost_ret (results_none rfl _ _ _) rfl ?_
            exact ⟨⟨_, rfl⟩, .inr ⟨_, trivial, hJx3⟩⟩
        · obtain rfl : x = 9 := by omega
          rw [show y * 9 + 9 = (y + 1) * 9 from by omega] at hJ
          gi_wp2
          go_roundw
          case rel => exact ⟨y + 1, by omega, by go_num, hJ⟩
          case measure => simp [intOf]; omega
    · obtain rfl : y = 9 := by omega
      gi_wp2
      go_end0
      exact ⟨⟨_, rfl⟩, .inl ⟨_, rfl, hJ⟩⟩

theorem allOffsets_stops (F : Fence) (n : Nat) (hF : F.fn 158) (hro : F.round = none) (hn : 1 ≤ n) (Kp : World → World → Prop) (w : World) :
    SeqStopsK F n Tryd.prog 158 #[] encO Kp (fun ys => ys = offL 81) (fun _ => True) 81 w := fun l J Jx W hW _ _ hY h0 =>
  allOffsets_in F n hF hro hn l J Jx Kp hY W h0
end Go.Proofs.YtabkkpifkkgpeaaDoor

/- Contracts of single functions, and plain lemmas, on which the exact laws of this seat rest; each holds under the conditions that it states. -/
namespace Go.Proofs.YtabkkpifkkgpeaaDoor
set_option linter.unusedVariables false
set_option linter.unusedSimpArgs false
open Go.RowKit Go.Shelf
attribute [local go_sem] Oper.semAt_some

/-- a block of two cells that is a variable of the loop's -/
def Two (W : World) (B : Nat) (x : Off) : Prop := W.heap[B]? = some (.cells #[.int .i64 x.1.1, .int .i64 x.1.2] 29 (0, 0))
theorem Two.lt {W : World} {B : Nat} {x : Off} (h : Two W B x) : B < W.heap.size := (Array.getElem?_eq_some_iff.1 h).1
theorem Two.c0 {W : World} {B : Nat} {x : Off} (h : Two W B x) : W.cell? ⟨B, 0, none⟩ = some (.int .i64 x.1.1) := by rw [Joins.cell_of_block h 0]; rfl
theorem Two.c1 {W : World} {B : Nat} {x : Off} (h : Two W B x) : W.cell? ⟨B, 1, none⟩ = some (.int .i64 x.1.2) := by rw [Joins.cell_of_block h 1]; rfl
theorem Two.below {W W' : World} {B : Nat} {x : Off} (h : Two W B x) (hb : Below W.heap.size W W') : Two W' B x := (hb.block B h.lt).trans h
theorem Two.own {β : Type} (B : Nat) (x : Off) : Own (fun (_ : β) W => Two W B x) := fun s X Y row hs hg hrow =>
  (hg.block B hs.lt (fun e' => by obtain ⟨o, ho, hc⟩ := hrow B e'.symm; rw [show X.heap[B]? = _ from hs] at ho; cases ho; cases hc)).trans hs
theorem Boxed.below' {W W' : World} {B : Nat} {t : TypeId} {v : Value} (h : Boxed W B t v) (hb : Below W.heap.size W W') : Boxed W' B t v := (hb.block B h.lt).trans h
theorem keeps_below {W W' : World} (B : Nat) (hb : Below W.heap.size W W') : KeepsFrom B W W' := ⟨hb.size, fun k o _ hk _ => (hb.block k (Array.getElem?_eq_some_iff.1 hk).1).trans hk⟩

/-- an element handed back -/
def SaysEl (xs : List (Int × Int)) (w : World) (e : Ending) (w' : World) : Prop :=
  ∃ ao n cap, e = .returned (.agg #[.slice ao n cap]) ∧ OwnS w' w.heap.size (.slice ao n cap) xs ∧ Below w.heap.size w w'
theorem infoEl : (Tryd.prog.info? 46).map (·.size) = some 1 := by kernel_rfl
end Go.Proofs.YtabkkpifkkgpeaaDoor

/- Contracts of single functions, and plain lemmas, on which the exact laws of this seat rest; each holds under the conditions that it states. -/
namespace Go.Proofs.YtabkkpifkkgpeaaDoor
set_option linter.unusedVariables false
set_option linter.unusedSimpArgs false
open Go.RowKit Go.Shelf
attribute [local go_sem] Oper.semAt_some

set_option maxRecDepth 100000 in
set_option maxHeartbeats 4000000 in
theorem elementOf_Square (q : Nat) (f : Int → Int → Bool) (w : World)
    (hhas : ∀ (x : Off) (W : World), Below w.heap.size w W → Calls Tryd.prog 148 #[.agg #[.int .i64 x.1.1, .int .i64 x.1.2], .pointer (some ⟨q, 0, none⟩)] W (SaysB (f x.1.1 x.1.2) W)) :
    Calls Tryd.prog 137 #[.func (.func 148) #[] #[.pointer (some ⟨q, 0, none⟩)]] w (SaysEl (elL f) w) := by
  refine (callsIn_wide (n := 6)).1 ?_
  have HH := Lib.hid hhas
  clear hhas
  obtain ⟨i0, hi, hz0, hz1, hz2⟩ := info_parts infoSp
  refine callsIn_of_wp_marks Tryd.func137 rfl trivial ?_ rfl
  simp only [Tryd.ntmps137, List.size_toArray, List.length_cons, List.length_nil, Nat.reduceAdd, Nat.reduceSub, Array.replicate_succ, Array.replicate_zero, List.push_toArray, List.append_toArray, List.nil_append, List.cons_append]
  gi_wp2
  have bH := Boxed.new w 79 (.func (.func 148) #[] #[.pointer (some ⟨q, 0, none⟩)])
  have bR := Boxed.new (w.alloc (.cells #[.func (.func 148) #[] #[.pointer (some ⟨q, 0, none⟩)]] 79)) 46 (.slice none 0 0)
  have bE := Boxed.new ((w.alloc (.cells #[.func (.func 148) #[] #[.pointer (some ⟨q, 0, none⟩)]] 79)).alloc (.cells #[.slice none 0 0] 46)) 46 (.slice none 0 0)
  rw [World.size_alloc] at bR bE
  rw [World.size_alloc] at bE
  have hB0 : Below w.heap.size w (((w.alloc (.cells #[.func (.func 148) #[] #[.pointer (some ⟨q, 0, none⟩)]] 79)).alloc (.cells #[.slice none 0 0] 46)).alloc (.cells #[.slice none 0 0] 46)) := Joins.below_alloc3 _ _ _ _
  obtain ⟨W0, hW0⟩ : ∃ W0, (((w.alloc (.cells #[.func (.func 148) #[] #[.pointer (some ⟨q, 0, none⟩)]] 79)).alloc (.cells #[.slice none 0 0] 46)).alloc (.cells #[.slice none 0 0] 46)) = W0 := ⟨_, rfl⟩
  have hsz : W0.heap.size = w.heap.size + 3 := by rw [← hW0]; simp
  have bH0 : Boxed W0 w.heap.size 79 (.func (.func 148) #[] #[.pointer (some ⟨q, 0, none⟩)]) := by rw [← hW0]; exact (bH.alloc _).alloc _
  have bR0 : Boxed W0 (w.heap.size + 1) 46 (.slice none 0 0) := by rw [← hW0]; exact bR.alloc _
  rw [hW0] at hB0 bE ⊢
  clear bH bR hW0
  refine wpIn_rangeFunc_ownH rfl (by omega) (gf := 158) (lb := #[]) rfl trivial (enters_of Tryd.func158 (by kernel_rfl) rfl)
    (allOffsets_stops Fence.wide (6 - 1) trivial rfl (by omega) (Below w.heap.size) W0) belowK_t (belowK_b (by omega)) (Below.refl _ _) (fun _ => rfl)
    (fun pre W => ((Boxed W w.heap.size 79 (.func (.func 148) #[] #[.pointer (some ⟨q, 0, none⟩)]) ∧ Boxed W (w.heap.size + 1) 46 (.slice none 0 0)) ∧ (∃ v, Boxed W (w.heap.size + 1 + 1) 46 v ∧ W.ownsRow w.heap.size 29 2 v (selL f pre).length (flat2 (selL f pre)) ∧ (∃ ao m cap, v = .slice ao m cap))) ∧ Below w.heap.size w W)
    (fun _ _ _ => False)
    (OwnFrom.and (OwnFrom.and (OwnFrom.and (Own.from (boxed_own _ _ _) _) (Own.from (boxed_own _ _ _) _)) (Own.from (holdsRow_own w.heap.size (w.heap.size + 1 + 1) 46 29 2 (fun pre => (selL f pre).length) (fun pre => flat2 (selL f pre)) (fun _ v => ∃ ao m cap, v = .slice ao m cap)) _)) (ownFrom_below (Nat.le_refl _) (by omega)))
    (fun _ _ _ _ _ hs _ _ => hs)
    ⟨⟨⟨bH0, bR0⟩, ⟨_, bE, World.ownsRow_nil _ _ _ _, _, _, _, rfl⟩⟩, hB0⟩
    (fun x a' W => ∃ Bx, w.heap.size + 1 + 1 < Bx ∧ Two W Bx x ∧ a' = { tmps := #[.func (.func 148) #[] #[.pointer (some ⟨q, 0, none⟩)], .pointer (some ⟨w.heap.size, 0, none⟩), .pointer (some ⟨w.heap.size + 1, 0, none⟩), .pointer (some ⟨w.heap.size + 1 + 1, 0, none⟩), .pointer (some ⟨Bx, 0, none⟩), .agg #[.int .i64 x.1.1, .int .i64 x.1.2], undef, undef, undef, undef, undef, undef, undef, undef, undef, undef], defers := [] })
    (fun x a' s X Y row hs hg hrow => by
      obtain ⟨Bx, hBx, h2, he⟩ := hs
      exact ⟨Bx, hBx, Two.own Bx x () X Y row h2 hg (fun r e => (hrow r e).2), he⟩)
    ?assign ?body ?done ?stop
  case assign =>
    rintro l pre x W K ⟨⟨⟨b1, b2⟩, v, b3, hrow, hv⟩, hB⟩ hK
    have hs := hB.size
    have hlt := b3.lt
    simp only [encO]
    gi_wp2
    exact hK _ _ ((KeepsOthers.alloc _ _).from _) ((Below.refl _ W).alloc hs _) ⟨⟨⟨b1.alloc _, b2.alloc _⟩, v, b3.alloc _, hrow.alloc _, hv⟩, hB.alloc hs _⟩ ⟨W.heap.size, hlt, heap_alloc_last W _, rfl⟩
  case body =>
    rintro l pre x a' W hl _ ⟨⟨⟨b1, b2⟩, v, b3, hrow, ao, m, cap, rfl⟩, hB⟩ ⟨Bx, hBx, h2, rfl⟩ hlt
    have hs := hB.size
    have hlt3 := b3.lt
    have hltx := h2.lt
    have c1 := b1.cell
    have x0 := h2.c0
    have x1 := h2.c1
    have hC := Lib.hid (HH.out x W hB)
    have HRow := Lib.hid hrow
    have hlen := selL_len f pre
    clear hrow HH
    obtain ⟨xa, hxa⟩ : ∃ t, x.1.1 = t := ⟨_, rfl⟩
    obtain ⟨xb, hxb⟩ : ∃ t, x.1.2 = t := ⟨_, rfl⟩
    rw [hxa, hxb] at hC ⊢
    rw [hxa] at x0
    rw [hxb] at x1
    cases hf : f xa xb with
    | true =>
      rw [hf] at hC
      have hsel := selL_hit f pre (x := x) (by rw [hxa, hxb]; exact hf)
      rw [hxa, hxb] at hsel
      have HSel := Lib.hid hsel
      obtain ⟨L, hL⟩ : ∃ L, selL f pre = L := ⟨_, rfl⟩
      rw [hL] at HRow HSel hlen
      have hlen2 : L.length ≤ 81 := by omega
      clear hsel hL hlen hf
      gi_wp2_with (refine ⟨trivial, ?_⟩; gi_at_call 148; refine (CallsIn.inRound l (callsIn_wide.2 hC.out)).mono ?_; rintro e w' ⟨rfl, hb⟩; refine Hid.out ?_)
      have hs' := hb.size
      have b1w := Boxed.below' b1 hb
      have b2w := Boxed.below' b2 hb
      have b3w := Boxed.below' b3 hb
      have h2w := h2.below hb
      have hroww := own_below HRow.out hb
      have hBw := hB.trans (hb.mono hs)
      have hsw := hBw.size
      have hc := b3w.cell
      have y0 := h2w.c0
      have y1 := h2w.c1
      have hltw := h2w.lt
      have hlt3w := b3w.lt
      rw [hxa] at y0
      rw [hxb] at y1
      clear x0 x1 c1 hC
      refine Lib.hid ?_
      gi_wp2_with (gi_at_builtin; refine wpListIn_append_own _ rfl _ _ 44 rfl w.heap.size 29 i0 (.agg #[.int .i64 0, .int .i64 0]) 2 16 Tryd.underlying44 hi hz0 hz1 hz2 rfl (by decide) _ _ _ rfl (hroww.alloc _) ⟨w'.heap.size, 0, none⟩ 1 1 [.int .i64 xa, .int .i64 xb] rfl rfl (two_cells_new _ _ _ _) (by intro u hu; simp at hu; rcases hu with rfl | rfl <;> rfl) (by unfold maxLen; omega) (by omega) (by simp; omega) ?_; intro v' w1 hown' hgrow _; obtain ⟨g', cap', rfl⟩ := ownsRow_succ hown'; obtain ⟨hv1, hv2, hr2, hk2, hb2⟩ := b3w.appended (by decide) hroww hsw (by omega) hown' hgrow; have hc1 := hv1.cell; have hf1 := hv1.frozen)
      refine ⟨(keeps_below _ hb).trans (hk2.from _), (hb.mono hs).trans hb2, ⟨⟨⟨((b1w.alloc _).kept hgrow (b1w.not_row (by decide) hroww)).other (by omega) _, ((b2w.alloc _).kept hgrow (b2w.not_row (by decide) hroww)).other (by omega) _⟩, _, hv2, ?_, _, _, _, rfl⟩, hBw.trans hb2⟩⟩
      rw [HSel.out, flat2_snoc, List.length_append]
      exact hr2
    | false =>
      rw [hf] at hC
      have hsel := selL_miss f pre (x := x) (by rw [hxa, hxb]; exact hf)
      gi_wp2_with (refine ⟨trivial, ?_⟩; gi_at_call 148; refine (CallsIn.inRound l (callsIn_wide.2 hC.out)).mono ?_; rintro e w' ⟨rfl, hb⟩)
      refine ⟨keeps_below _ hb, hb.mono hs, ⟨⟨⟨Boxed.below' b1 hb, Boxed.below' b2 hb⟩, _, Boxed.below' b3 hb, ?_, _, _, _, rfl⟩, hB.trans (hb.mono hs)⟩⟩
      rw [hsel]
      exact own_below HRow.out hb
  case done =>
    rintro D ys W hD rfl ⟨⟨⟨b1, b2⟩, v, b3, hrow, ao, m, cap, rfl⟩, hB⟩ hK
    have hc := b3.cell
    have hc2 := b2.cell
    have hf2 := b2.frozen
    gi_wp2
    have hK' : (W.setCell ⟨w.heap.size + 1, 0, none⟩ (.slice ao m cap)).heap[D]? = some (.deferred (some [])) := (KeepsOthers.setCell W ⟨w.heap.size + 1, 0, none⟩ (.slice ao m cap)).same D _ hK rfl
    have hR : Boxed ((W.setCell ⟨w.heap.size + 1, 0, none⟩ (.slice ao m cap)).putObj D (.deferred none)) (w.heap.size + 1) 46 (.slice ao m cap) := (b2.set _).kept (grownBy_putObj' _ D _) (by intro e; have := Option.some.inj e; omega)
    refine ⟨by simp, .inl ⟨_, _, rfl, run_takeDeferred hK', ?_⟩⟩
    refine ⟨_, results_cell1 (p := 2) (ty := 46) Tryd.results137 _ _ (w.heap.size + 1) 46 #[.slice ao m cap] (0, 0) _ rfl hR Tryd.underlying46 rfl infoEl, ao, m, cap, rfl, ?_, ?_⟩
    · exact ownsRow_putObj (hrow.kept (grownBy_setCell' W (w.heap.size + 1) _) (.inr (b2.not_row (by decide) hrow).symm)) _ hK' rfl
    · exact (hB.setCell (p := ⟨w.heap.size + 1, 0, none⟩) (by simp) _).trans (belowK_b (w := w) (Nat.le_refl _) _ D _ _ (by omega) hK' rfl rfl)
  case stop =>
    rintro D c pre W _ _ h _
    exact h.elim
end Go.Proofs.YtabkkpifkkgpeaaDoor

/- Contracts of single functions, and plain lemmas, on which the exact laws of this seat rest; each holds under the conditions that it states. -/
namespace Go.Proofs.YtabkkpifkkgpeaaDoor
set_option linter.unusedVariables false
set_option linter.unusedSimpArgs false
open Go.RowKit

/-- an element and a bool handed back -/
def SaysElB (xs : List (Int × Int)) (ok : Bool) (w : World) (e : Ending) (w' : World) : Prop :=
  ∃ ao n cap, e = .returned (.tuple #[.agg #[.slice ao n cap], .bool ok]) ∧ OwnS w' w.heap.size (.slice ao n cap) xs ∧ Below w.heap.size w w'

/-- the rule of a square -/
def sqF (size x y : Int) : Bool := decide (0 ≤ min x y) && decide (max x y < size)

set_option maxHeartbeats 1000000 in
theorem square1_any (x y size : Int) (q : Nat) (w : World) (hq : w.cell? ⟨q, 0, none⟩ = some (.int .i64 size)) :
    Calls Tryd.prog 148 #[.agg #[.int .i64 x, .int .i64 y], .pointer (some ⟨q, 0, none⟩)] w (SaysB (sqF size x y) w) := by
  have hl := blk_lt hq
  go_enter Tryd.func148, Tryd.ntmps148
  go_wp2
  all_goals go_ret
  all_goals exact ⟨ret_bool (by unfold sqF; rw [Bool.eq_iff_iff, Bool.and_eq_true]; simp only [decide_eq_true_eq, true_iff, false_iff, Bool.false_eq_true]; omega), Joins.below_alloc1 _ _⟩

set_option maxHeartbeats 1000000 in
theorem impl_Square_yes (size : Int) (w : World) (h : 1 ≤ size ∧ size ≤ 5) : Calls Tryd.prog 105 #[.int .i64 size] w (SaysElB (elL (sqF size)) true w) := by
  have hq : Hid (((w.alloc (.cells #[.int .i64 size] 2)).alloc (.cells #[.slice none 0 0] 46)).cell? ⟨w.heap.size, 0, none⟩ = some (.int .i64 size)) := cell_kept (Joins.below_alloc1 _ _) (cell_of_one (heap_alloc_last w _))
  have hR0 := heap_alloc_last (w.alloc (.cells #[.int .i64 size] 2)) (.cells #[.slice none 0 0] 46)
  rw [World.size_alloc] at hR0
  have HB0 := Lib.hid (Joins.below_alloc2 w (.cells #[.int .i64 size] 2) (.cells #[.slice none 0 0] 46))
  have C := Lib.hid (elementOf_Square w.heap.size (sqF size) ((w.alloc (.cells #[.int .i64 size] 2)).alloc (.cells #[.slice none 0 0] 46)) (fun x W hb => square1_any _ _ size _ W (cell_kept hb hq.out)))
  have HR0 := Lib.hid hR0
  clear hR0
  have h1 := h.1
  have h2 := h.2
  have hs0 : ((w.alloc (.cells #[.int .i64 size] 2)).alloc (.cells #[.slice none 0 0] 46)).heap.size = w.heap.size + 1 + 1 := by simp
  go_enter Tryd.func105, Tryd.ntmps105
  go_wp2_with fail
  refine C.out.mono ?_
  rintro e w2 ⟨ao, n, cap, rfl, hown, hb⟩
  have hp2 := (hb.block (w.heap.size + 1) (by rw [hs0]; omega)).trans HR0.out
  have hfr : w2.frozen? ⟨w.heap.size + 1, 0, none⟩ = false := free_of_one hp2
  have hc2 : w2.cell? ⟨w.heap.size + 1, 0, none⟩ = some (.slice none 0 0) := cell_of_one hp2
  have O2 := Lib.hid (own_set (u := .slice ao n cap) hown hp2 (by decide))
  have P2 := Lib.hid hp2
  have B2 := Lib.hid (HB0.out.trans (hb.mono (by rw [hs0]; omega)))
  clear hown hp2 hb
  go_wp2_with fail
  refine bodyPost_ret (v := .tuple #[.agg #[.slice ao n cap], .bool true]) (by simp [results, Tryd.results105, go_sem, cell_of_one (one_setCell P2.out)]) rfl ⟨_, _, _, rfl, Joins.ownsRow_le O2.out (by rw [hs0]; omega), B2.out.setCell (by simp) _⟩

set_option maxHeartbeats 1000000 in
theorem impl_Square_no (size : Int) (w : World) (h : ¬ (1 ≤ size ∧ size ≤ 5)) : Calls Tryd.prog 105 #[.int .i64 size] w (SaysElB [] false w) := by
  have hR0 := heap_alloc_last (w.alloc (.cells #[.int .i64 size] 2)) (.cells #[.slice none 0 0] 46)
  rw [World.size_alloc] at hR0
  have HR0 := Lib.hid hR0
  have HB0 := Lib.hid (Joins.below_alloc2 w (.cells #[.int .i64 size] 2) (.cells #[.slice none 0 0] 46))
  clear hR0
  by_cases h1 : size < 1
  · clear h
    go_enter Tryd.func105, Tryd.ntmps105
    go_wp2_with fail
    refine bodyPost_ret (v := .tuple #[.agg #[.slice none 0 0], .bool false]) (by simp [results, Tryd.results105, go_sem, cell_of_one HR0.out]) rfl ⟨_, _, _, rfl, World.ownsRow_nil _ _ _ _, HB0.out⟩
  · have h2 : 5 < size := by omega
    clear h
    go_enter Tryd.func105, Tryd.ntmps105
    go_wp2_with fail
    refine bodyPost_ret (v := .tuple #[.agg #[.slice none 0 0], .bool false]) (by simp [results, Tryd.results105, go_sem, cell_of_one HR0.out]) rfl ⟨_, _, _, rfl, World.ownsRow_nil _ _ _ _, HB0.out⟩
end Go.Proofs.YtabkkpifkkgpeaaDoor

/- Contracts of single functions, and plain lemmas, on which the exact laws of this seat rest; each holds under the conditions that it states. -/
namespace Go.Proofs.YtabkkpifkkgpeaaDoor
set_option linter.unusedVariables false
set_option linter.unusedSimpArgs false
open Go.RowKit

/-- the first k places of a square from o on that a rule allows -/
def grL (n : Nat) (o : Int) (f : Int → Int → Bool) (k : Nat) : List (Int × Int) := (List.range k).filterMap fun i => if f (((i % n : Nat) : Int) + o) (((i / n : Nat) : Int) + o) then some (((i % n : Nat) : Int) + o, ((i / n : Nat) : Int) + o) else none
theorem grL_len (n : Nat) (o : Int) (f : Int → Int → Bool) (k : Nat) : (grL n o f k).length ≤ k := by
  unfold grL
  have := List.length_filterMap_le (fun i => if f (((i % n : Nat) : Int) + o) (((i / n : Nat) : Int) + o) then some (((i % n : Nat) : Int) + o, ((i / n : Nat) : Int) + o) else none) (List.range k)
  simpa using this
theorem grL_snoc (n : Nat) (o : Int) (f : Int → Int → Bool) (y x : Nat) (hx : x < n) : grL n o f (y * n + x + 1) = grL n o f (y * n + x) ++ (if f ((x : Int) + o) ((y : Int) + o) then [((x : Int) + o, (y : Int) + o)] else []) := by
  have h1 : (y * n + x) / n = y := by rw [Nat.mul_comm, Nat.mul_add_div (by omega), Nat.div_eq_of_lt hx, Nat.add_zero]
  have h2 : (y * n + x) % n = x := by rw [Nat.mul_comm, Nat.mul_add_mod, Nat.mod_eq_of_lt hx]
  unfold grL
  rw [List.range_succ, List.filterMap_append]
  congr 1
  simp only [List.filterMap_cons, List.filterMap_nil, h1, h2]
  split <;> simp_all
theorem grL_zero (n : Nat) (o : Int) (f : Int → Int → Bool) : grL n o f 0 = [] := rfl

/-- an element that is being made in a variable; the result's variable -/
structure ElSt (w W : World) (R B : Nat) (v : Value) (L : List (Int × Int)) : Prop where
  r : W.heap[R]? = some (.cells #[.slice none 0 0] 46 (0, 0))
  b : W.heap[B]? = some (.cells #[v] 46 (0, 0))
  own : OwnS W w.heap.size v L
  bel : Below w.heap.size w W
  geB : w.heap.size ≤ B
  geR : w.heap.size ≤ R
  ne : R ≠ B
section
variable {w W W' : World} {R B : Nat} {v : Value} {L : List (Int × Int)}
theorem ElSt.below (h : ElSt w W R B v L) (hb : Below W.heap.size W W') : ElSt w W' R B v L :=
  ⟨(hb.block R (Array.getElem?_eq_some_iff.1 h.r).1).trans h.r, (hb.block B (Array.getElem?_eq_some_iff.1 h.b).1).trans h.b, own_below h.own hb, h.bel.trans (hb.mono h.bel.size), h.geB, h.geR, h.ne⟩
theorem ElSt.appended {w1 : World} {v' : Value} (h : ElSt w W R B v L) (a b : Int)
    (hown' : w1.ownsRow w.heap.size 29 2 v' (L.length + 1) (flat2 L ++ [.int .i64 a, .int .i64 b]))
    (hgr : (W.alloc (.cells #[.int .i64 a, .int .i64 b] 29)).grownBy w1 v.ownBlock) :
    w1.heap[B]? = some (.cells #[v] 46 (0, 0)) ∧ ElSt w (w1.setCell ⟨B, 0, none⟩ v') R B v' (L ++ [(a, b)]) := by
  have hB : Boxed W B 46 v := h.b
  have hR : Boxed W R 46 (.slice none 0 0) := h.r
  obtain ⟨h1, h2, h3, _, h5⟩ := hB.appended (by decide) h.own h.bel.size h.geB hown' hgr
  refine ⟨h1, ((hR.alloc _).kept hgr (hR.not_row (by decide) h.own)).other h.ne _, h2, ?_, h.bel.trans h5, h.geB, h.geR, h.ne⟩
  unfold OwnS
  rw [flat2_snoc, List.length_append]
  exact h3
theorem ElSt.start (w : World) : ElSt w (((w.alloc (.cells #[.slice none 0 0] 46)).alloc (.cells #[] 29)).alloc (.cells #[.slice (some ⟨w.heap.size + 1, 0, none⟩) 0 0] 46)) w.heap.size (w.heap.size + 1 + 1) (.slice (some ⟨w.heap.size + 1, 0, none⟩) 0 0) [] := by
  refine ⟨?_, ?_, ?_, Joins.below_alloc3 _ _ _ _, by omega, Nat.le_refl _, by omega⟩
  · rw [Below.heap_alloc _ _ _ (by simp; omega), Below.heap_alloc _ _ _ (by simp)]
    exact heap_alloc_last w _
  · have := heap_alloc_last ((w.alloc (.cells #[.slice none 0 0] 46)).alloc (.cells #[] 29)) (.cells #[.slice (some ⟨w.heap.size + 1, 0, none⟩) 0 0] 46)
    simp only [World.size_alloc] at this
    exact this
  · have := World.ownsRow_lit (base := w.heap.size) (e := 29) (size := 2) (w.alloc (.cells #[.slice none 0 0] 46)) #[] 0 (by simp) (by unfold maxLen; omega) rfl
    rw [World.size_alloc] at this
    exact World.ownsRow.alloc this _
theorem ElSt.own_out (h : ElSt w W R B v L) (u : Value) : OwnS (W.setCell ⟨R, 0, none⟩ u) w.heap.size v L := own_set (u := u) h.own h.r (by decide)
theorem ElSt.cell (h : ElSt w W R B v L) : W.cell? ⟨B, 0, none⟩ = some v := cell_of_one h.b
theorem ElSt.fr (h : ElSt w W R B v L) : W.frozen? ⟨B, 0, none⟩ = false := free_of_one h.b
theorem ElSt.cellR (h : ElSt w W R B v L) : W.cell? ⟨R, 0, none⟩ = some (.slice none 0 0) := cell_of_one h.r
theorem ElSt.frR (h : ElSt w W R B v L) : W.frozen? ⟨R, 0, none⟩ = false := free_of_one h.r
theorem ElSt.ltB (h : ElSt w W R B v L) : B < W.heap.size := (Array.getElem?_eq_some_iff.1 h.b).1
end

end Go.Proofs.YtabkkpifkkgpeaaDoor

/- Contracts of single functions, and plain lemmas, on which the exact laws of this seat rest; each holds under the conditions that it states. -/
namespace Go.Proofs.YtabkkpifkkgpeaaDoor
set_option linter.unusedVariables false
set_option linter.unusedSimpArgs false
open Go.RowKit

def absI (x : Int) : Int := max x (-x)
theorem absI_range (x : Int) (h : -100 ≤ x ∧ x ≤ 100) : 0 ≤ absI x ∧ absI x ≤ 100 := by unfold absI; omega
theorem absolute_any (x : Int) (w : World) (h : -100 ≤ x ∧ x ≤ 100) : Calls Tryd.prog 125 #[.int .i64 x] w fun e w' => e = .returned (.int .i64 (absI x)) ∧ w = w' := by
  go_enter Tryd.func125, Tryd.ntmps125
  go_wp2
  all_goals go_ret
  all_goals exact ⟨ret_int (by unfold absI; omega), rfl⟩

/-- the rule of a cross -/
def crF (r x y : Int) : Bool := decide (absI x + absI y ≤ r)

end Go.Proofs.YtabkkpifkkgpeaaDoor

/- Contracts of single functions, and plain lemmas, on which the exact laws of this seat rest; each holds under the conditions that it states. -/
namespace Go.Proofs.YtabkkpifkkgpeaaDoor
set_option linter.unusedVariables false
set_option linter.unusedSimpArgs false
open Go.RowKit

/-! ### elements that are valid -/
def okO (p : Int × Int) : Bool := decide (-4 ≤ p.1) && decide (p.1 ≤ 4) && (decide (-4 ≤ p.2) && decide (p.2 ≤ 4))
def befB (a b : Int × Int) : Bool := decide (a.2 < b.2) || (decide (a.2 = b.2) && decide (a.1 < b.1))
def stepOk (xs : List (Int × Int)) (i : Nat) : Bool := okO (xs.getD i (0, 0)) && (decide (i = 0) || befB (xs.getD (i - 1) (0, 0)) (xs.getD i (0, 0)))
def elB (xs : List (Int × Int)) : Bool := (List.range xs.length).all (stepOk xs) && (decide (1 ≤ xs.length) && decide (xs.length ≤ 50))
theorem elB_bad {xs : List (Int × Int)} {i : Nat} (hi : i < xs.length) (h : stepOk xs i = false) : elB xs = false := by
  unfold elB
  rw [Bool.and_eq_false_iff]
  left
  rw [List.all_eq_false]
  exact ⟨i, List.mem_range.2 hi, by rw [h]; simp⟩
theorem elB_good {xs : List (Int × Int)} (h : ∀ i, i < xs.length → stepOk xs i = true) : elB xs = (decide (1 ≤ xs.length) && decide (xs.length ≤ 50)) := by
  unfold elB
  rw [show (List.range xs.length).all (stepOk xs) = true from List.all_eq_true.2 (fun i hi => h i (List.mem_range.1 hi)), Bool.true_and]

set_option maxHeartbeats 1000000 in
theorem l03Before_any (a b c d : Int) (w : World) : Calls Tryd.prog 134 #[.agg #[.int .i64 a, .int .i64 b], .agg #[.int .i64 c, .int .i64 d]] w (SaysB (befB (a, b) (c, d)) w) := by
  by_cases h1 : b < d
  · have HV : Hid (befB (a, b) (c, d) = true) := by show _ = _; simp [befB, h1]
    go_enter Tryd.func134, Tryd.ntmps134
    go_wp2
    go_ret
    exact ⟨ret_bool HV.out.symm, Joins.below_alloc2 _ _ _⟩
  · have h1' : decide (b < d) = false := decide_eq_false h1
    by_cases h2 : b = d
    · have h2' : (b == d) = true := beq_iff_eq.2 h2
      by_cases h3 : a < c
      · have HV : Hid (befB (a, b) (c, d) = true) := by show _ = _; simp [befB, h2, h3]
        clear h2
        go_enter Tryd.func134, Tryd.ntmps134
        go_wp2
        go_ret
        exact ⟨ret_bool HV.out.symm, Joins.below_alloc2 _ _ _⟩
      · have h3' : decide (a < c) = false := decide_eq_false h3
        have HV : Hid (befB (a, b) (c, d) = false) := by show _ = _; simp [befB, h2]; omega
        clear h2
        go_enter Tryd.func134, Tryd.ntmps134
        go_wp2
        go_ret
        exact ⟨ret_bool HV.out.symm, Joins.below_alloc2 _ _ _⟩
    · have h2' : (b == d) = false := by simpa using h2
      have HV : Hid (befB (a, b) (c, d) = false) := by show _ = _; simp [befB, h2]; omega
      clear h2
      go_enter Tryd.func134, Tryd.ntmps134
      go_wp2
      go_ret
      exact ⟨ret_bool HV.out.symm, Joins.below_alloc2 _ _ _⟩
end Go.Proofs.YtabkkpifkkgpeaaDoor

/- Contracts of single functions, and plain lemmas, on which the exact laws of this seat rest; each holds under the conditions that it states. -/
namespace Go.Proofs.YtabkkpifkkgpeaaDoor
set_option linter.unusedVariables false
set_option linter.unusedSimpArgs false
open Go.RowKit

/-! ### valid elements are those that an element of their own offsets is -/
theorem bef_iff (a b : Int × Int) : befB a b = true ↔ (a.2 < b.2 ∨ (a.2 = b.2 ∧ a.1 < b.1)) := by simp [befB]
theorem bef_trans {a b c : Int × Int} (h : befB a b = true) (k : befB b c = true) : befB a c = true := by
  rw [bef_iff] at *; omega
theorem bef_irr (a : Int × Int) : ¬ befB a a = true := by rw [bef_iff]; omega
theorem bef_asym {a b : Int × Int} (h : befB a b = true) : ¬ befB b a = true := by rw [bef_iff] at *; omega
abbrev Srt (l : List (Int × Int)) : Prop := l.Pairwise (fun a b => befB a b = true)
theorem srt_eq : ∀ {l1 l2 : List (Int × Int)}, Srt l1 → Srt l2 → (∀ p, p ∈ l1 ↔ p ∈ l2) → l1 = l2
  | [], [], _, _, _ => rfl
  | [], b :: l2, _, _, h => absurd ((h b).2 (List.mem_cons_self ..)) (by simp)
  | a :: l1, [], _, _, h => absurd ((h a).1 (List.mem_cons_self ..)) (by simp)
  | a :: l1, b :: l2, h1, h2, h => by
    have k1 := List.pairwise_cons.1 h1
    have k2 := List.pairwise_cons.1 h2
    have e : a = b := by
      rcases List.mem_cons.1 ((h a).1 (List.mem_cons_self ..)) with e | e
      · exact e
      · rcases List.mem_cons.1 ((h b).2 (List.mem_cons_self ..)) with e' | e'
        · exact e'.symm
        · exact absurd (k2.1 a e) (bef_asym (k1.1 b e'))
    subst e
    congr 1
    refine srt_eq k1.2 k2.2 fun p => ⟨fun hp => ?_, fun hp => ?_⟩
    · rcases List.mem_cons.1 ((h p).1 (List.mem_cons_of_mem _ hp)) with e | e
      · subst e; exact absurd (k1.1 _ hp) (bef_irr _)
      · exact e
    · rcases List.mem_cons.1 ((h p).2 (List.mem_cons_of_mem _ hp)) with e | e
      · subst e; exact absurd (k2.1 _ hp) (bef_irr _)
      · exact e

set_option maxRecDepth 100000 in
theorem offL_srt : (offL 81).Pairwise (fun a b => befB a.1 b.1 = true) := by decide +kernel
theorem off_mem (x : Off) : x ∈ offL 81 := by
  obtain ⟨⟨a, b⟩, ⟨h1, h2⟩, h3, h4⟩ := x
  simp only at h1 h2 h3 h4
  unfold offL
  refine List.mem_map.2 ⟨((b + 4) * 9 + (a + 4)).toNat, List.mem_range.2 (by omega), ?_⟩
  apply Subtype.ext
  simp only [offAt]
  refine Prod.ext ?_ ?_
  · show ((((b + 4) * 9 + (a + 4)).toNat % 9 : Nat) : Int) - 4 = a
    omega
  · show ((((b + 4) * 9 + (a + 4)).toNat / 9 % 9 : Nat) : Int) - 4 = b
    omega
theorem elL_srt (f : Int → Int → Bool) : Srt (elL f) := by
  unfold elL selL Srt
  rw [List.pairwise_map]
  exact offL_srt.filter _
theorem elL_mem (f : Int → Int → Bool) (p : Int × Int) : p ∈ elL f ↔ (((-4 ≤ p.1 ∧ p.1 ≤ 4) ∧ (-4 ≤ p.2 ∧ p.2 ≤ 4)) ∧ f p.1 p.2 = true) := by
  unfold elL selL
  rw [List.mem_map]
  constructor
  · rintro ⟨x, hx, rfl⟩
    exact ⟨x.2, (List.mem_filter.1 hx).2⟩
  · rintro ⟨h, hf⟩
    exact ⟨⟨p, h⟩, List.mem_filter.2 ⟨off_mem _, hf⟩, rfl⟩
theorem okO_iff (p : Int × Int) : okO p = true ↔ ((-4 ≤ p.1 ∧ p.1 ≤ 4) ∧ (-4 ≤ p.2 ∧ p.2 ≤ 4)) := by simp [okO]

theorem getD_of_lt {xs : List (Int × Int)} {i : Nat} (h : i < xs.length) : xs.getD i (0, 0) = xs[i] := by
  rw [List.getD_eq_getElem?_getD, List.getElem?_eq_getElem h]; rfl
theorem srt_of_steps {xs : List (Int × Int)} (h : ∀ i, i < xs.length → stepOk xs i = true) : Srt xs := by
  have key : ∀ j, ∀ i, i < j → (hj : j < xs.length) → befB (xs.getD i (0, 0)) (xs.getD j (0, 0)) = true := by
    intro j
    induction j with
    | zero => intro i hi; omega
    | succ j ih =>
      intro i hi hj
      have hs := h (j + 1) hj
      unfold stepOk at hs
      simp at hs
      by_cases e : i = j
      · subst e; simpa using hs.2
      · exact bef_trans (ih i (by omega) (by omega)) (by simpa using hs.2)
  unfold Srt
  rw [List.pairwise_iff_getElem]
  intro i j hi hj hij
  have := key j i hij hj
  rwa [getD_of_lt hi, getD_of_lt hj] at this
theorem steps_of_srt {xs : List (Int × Int)} (h : Srt xs) (hr : ∀ p ∈ xs, okO p = true) : ∀ i, i < xs.length → stepOk xs i = true := by
  intro i hi
  unfold stepOk
  rw [getD_of_lt hi, hr _ (List.getElem_mem hi), Bool.true_and]
  by_cases e : i = 0
  · simp [e]
  · rw [getD_of_lt (show i - 1 < xs.length by omega)]
    unfold Srt at h
    rw [List.pairwise_iff_getElem] at h
    rw [h (i - 1) i (by omega) hi (by omega), Bool.or_true]

def memB (xs : List (Int × Int)) (x y : Int) : Bool := decide ((x, y) ∈ xs)
/-- how many different ones are among the first k -/
def dC (xs : List (Int × Int)) : Nat → Nat
  | 0 => 0
  | k + 1 => if xs.getD k (0, 0) ∈ xs.take k then dC xs k else dC xs k + 1
theorem dC_le (xs : List (Int × Int)) : ∀ k, dC xs k ≤ k
  | 0 => Nat.le_refl _
  | k + 1 => by have := dC_le xs k; simp only [dC]; split <;> omega
theorem dC_srt {xs : List (Int × Int)} (h : Srt xs) : ∀ k, k ≤ xs.length → dC xs k = k
  | 0, _ => rfl
  | k + 1, hk => by
    have ih := dC_srt h k (by omega)
    simp only [dC]
    rw [if_neg, ih]
    intro hm
    obtain ⟨j, hj, e⟩ := List.mem_take_iff_getElem.1 hm
    unfold Srt at h
    rw [List.pairwise_iff_getElem] at h
    have := h j k (by omega) (by omega) (by omega)
    rw [e, getD_of_lt (by omega)] at this
    exact bef_irr _ this

theorem el_self {xs : List (Int × Int)} (h : ∀ i, i < xs.length → stepOk xs i = true) : elL (memB xs) = xs := by
  refine srt_eq (elL_srt _) (srt_of_steps h) fun p => ?_
  rw [elL_mem]
  constructor
  · rintro ⟨_, h2⟩
    exact of_decide_eq_true h2
  · intro hp
    obtain ⟨i, hi, e⟩ := List.mem_iff_getElem.1 hp
    have hs := h i hi
    unfold stepOk at hs
    rw [getD_of_lt hi, Bool.and_eq_true] at hs
    rw [e] at hs
    exact ⟨(okO_iff p).1 hs.1, decide_eq_true hp⟩

/-- what ValidElement reckons -/
theorem valid_eq (xs : List (Int × Int)) : (decide ((elL (memB xs)).length = dC xs xs.length) && (decide (1 ≤ dC xs xs.length) && decide (dC xs xs.length ≤ 50)) && decide (elL (memB xs) = xs)) = elB xs := by
  by_cases h : ∀ i, i < xs.length → stepOk xs i = true
  · have e := el_self h
    rw [e, dC_srt (srt_of_steps h) _ (Nat.le_refl _), elB_good h]
    simp
  · obtain ⟨i, hi⟩ : ∃ i, ¬ (i < xs.length → stepOk xs i = true) := Classical.not_forall.1 h
    have hlt : i < xs.length := Classical.byContradiction fun k => hi (fun h' => absurd h' k)
    have hst : stepOk xs i = false := by
      cases e : stepOk xs i with
      | false => rfl
      | true => exact absurd (fun _ => e) hi
    rw [elB_bad hlt hst]
    have hne : elL (memB xs) ≠ xs := fun e => h (by
      have hs := elL_srt (memB xs)
      rw [e] at hs
      refine steps_of_srt hs fun p hp => ?_
      rw [← e] at hp
      exact (okO_iff p).2 ((elL_mem _ _).1 hp).1)
    rw [decide_eq_false hne, Bool.and_false]
end Go.Proofs.YtabkkpifkkgpeaaDoor
