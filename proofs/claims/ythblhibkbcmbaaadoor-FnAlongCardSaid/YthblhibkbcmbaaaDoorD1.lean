/- Contracts of single functions, and plain lemmas, on which the exact laws of this seat rest; each holds under the conditions that it states. -/
import Derived.Test.YthblhibkbcmbaaaDoorQb
import Derived.RangeFuncNested
import Derived.RangeFuncBound
import Derived.RangeFuncCalls
import Derived.RangeFuncLeaves
import Derived.RangeFuncBox
import Derived.Shelf.Abstract
import Derived.Shelf.RegionOpen
import Derived.WalkKit
import Derived.OwnWalkIn
import Derived.TacticsInMore
import Derived.LoopNIn
import Derived.LoopIn
import Derived.Maps.AppendAt
import Derived.Deep.QuietTactic
import Derived.BigQuiet
import Derived.Deep.RegionHeld3
import Derived.Test.YthblhibkbcmbaaaDoorIs
namespace Go.Proofs.YthblhibkbcmbaaaDoor
set_option linter.unusedVariables false
set_option linter.unusedSimpArgs false
open Go.RowKit

theorem flat2_snoc (xs : List (Int × Int)) (a b : Int) : flat2 (xs ++ [(a, b)]) = flat2 xs ++ [.int .i64 a, .int .i64 b] := by
  have hl : ∀ i, i < xs.length → (xs ++ [(a, b)]).getD i (0, 0) = xs.getD i (0, 0) := fun i hi => by
    rw [List.getD_eq_getElem?_getD, List.getD_eq_getElem?_getD, List.getElem?_append_left hi]
  have hr : (xs ++ [(a, b)]).getD xs.length (0, 0) = (a, b) := by
    rw [List.getD_eq_getElem?_getD, List.getElem?_append_right (Nat.le_refl _), Nat.sub_self]; rfl
  apply List.ext_getElem?
  intro j
  by_cases h1 : j < xs.length * 2
  · rw [flat2_at _ _ (by simp; omega), List.getElem?_append_left (by rw [flat2_len]; exact h1), flat2_at _ _ h1]
    unfold spotC
    rw [hl _ (by omega)]
  · by_cases h2 : j < xs.length * 2 + 2
    · rw [flat2_at _ _ (by simp; omega), List.getElem?_append_right (by rw [flat2_len]; omega), flat2_len]
      by_cases h3 : j = xs.length * 2
      · subst h3
        rw [spotC_x, hr, Nat.sub_self]; rfl
      · obtain rfl : j = xs.length * 2 + 1 := by omega
        rw [spotC_y, hr, show xs.length * 2 + 1 - xs.length * 2 = 1 from by omega]; rfl
    · rw [List.getElem?_eq_none (by rw [flat2_len]; simp; omega), List.getElem?_eq_none (by rw [List.length_append, flat2_len]; simp; omega)]

theorem two_cells_new (w : World) (a b : Value) (t : TypeId) : ∀ j u, [a, b][j]? = some u → (w.alloc (.cells #[a, b] t)).cell? ((⟨w.heap.size, 0, none⟩ : Addr).add j) = some u := fun j u h => by
  rw [Addr.add_mid, Nat.zero_add, Joins.cell_of_block (heap_alloc_last w _) j]
  simpa using h

end Go.Proofs.YthblhibkbcmbaaaDoor

/- Contracts of single functions, and plain lemmas, on which the exact laws of this seat rest; each holds under the conditions that it states. -/
namespace Go.Proofs.YthblhibkbcmbaaaDoor
set_option linter.unusedVariables false
set_option linter.unusedSimpArgs false
open Go.RowKit Go.Shelf
attribute [local go_sem] Oper.semAt_some

/-! ### offsets, in their order -/
abbrev Off := { p : Int × Int // (-4 ≤ p.1 ∧ p.1 ≤ 4) ∧ (-4 ≤ p.2 ∧ p.2 ≤ 4) }
def offAt (i : Nat) : Off := ⟨(((i % 9 : Nat) : Int) - 4, ((i / 9 % 9 : Nat) : Int) - 4), by omega, by omega⟩
def offL (k : Nat) : List Off := (List.range k).map offAt
theorem offL_len (k : Nat) : (offL k).length = k := by simp [offL]
theorem offL_snoc (k : Nat) : offL (k + 1) = offL k ++ [offAt k] := by simp [offL, List.range_succ]
def encO (x : Off) : Array Value := #[.agg #[.int .i64 x.1.1, .int .i64 x.1.2]]
theorem encO_at (y x : Nat) (hy : y < 9) (hx : x < 9) : encO (offAt (y * 9 + x)) = #[.agg #[.int .i64 ((x : Int) - 4), .int .i64 ((y : Int) - 4)]] := by
  have e1 : (y * 9 + x) % 9 = x := by omega
  have e2 : (y * 9 + x) / 9 % 9 = y := by omega
  simp only [encO, offAt, e1, e2]
/-- those that a rule allows -/
def selL (f : Int → Int → Bool) (xs : List Off) : List (Int × Int) := (xs.filter fun p => f p.1.1 p.1.2).map (·.1)
theorem selL_hit (f : Int → Int → Bool) (pre : List Off) {x : Off} (h : f x.1.1 x.1.2 = true) : selL f (pre ++ [x]) = selL f pre ++ [(x.1.1, x.1.2)] := by simp [selL, h]
theorem selL_miss (f : Int → Int → Bool) (pre : List Off) {x : Off} (h : f x.1.1 x.1.2 = false) : selL f (pre ++ [x]) = selL f pre := by simp [selL, h]
theorem selL_len (f : Int → Int → Bool) (xs : List Off) : (selL f xs).length ≤ xs.length := by
  unfold selL
  rw [List.length_map]
  exact List.length_filter_le _ _
/-- the element of a rule -/
def elL (f : Int → Int → Bool) : List (Int × Int) := selL f (offL 81)
theorem elL_len (f : Int → Int → Bool) : (elL f).length ≤ 81 := by
  have := selL_len f (offL 81)
  rwa [offL_len] at this

end Go.Proofs.YthblhibkbcmbaaaDoor

/- Contracts of single functions, and plain lemmas, on which the exact laws of this seat rest; each holds under the conditions that it states. -/
namespace Go.Proofs.YthblhibkbcmbaaaDoor
set_option linter.unusedVariables false
set_option linter.unusedSimpArgs false
open Go.RowKit Go.Shelf
attribute [local go_sem] Oper.semAt_some

/-- a block of two cells that is a variable of the loop's -/
def Two (W : World) (B : Nat) (x : Off) : Prop := W.heap[B]? = some (.cells #[.int .i64 x.1.1, .int .i64 x.1.2] 76 (0, 0))
theorem Two.lt {W : World} {B : Nat} {x : Off} (h : Two W B x) : B < W.heap.size := (Array.getElem?_eq_some_iff.1 h).1
theorem Two.c0 {W : World} {B : Nat} {x : Off} (h : Two W B x) : W.cell? ⟨B, 0, none⟩ = some (.int .i64 x.1.1) := by rw [Joins.cell_of_block h 0]; rfl
theorem Two.c1 {W : World} {B : Nat} {x : Off} (h : Two W B x) : W.cell? ⟨B, 1, none⟩ = some (.int .i64 x.1.2) := by rw [Joins.cell_of_block h 1]; rfl
theorem Two.below {W W' : World} {B : Nat} {x : Off} (h : Two W B x) (hb : Below W.heap.size W W') : Two W' B x := (hb.block B h.lt).trans h
theorem Two.own {β : Type} (B : Nat) (x : Off) : Own (fun (_ : β) W => Two W B x) := fun s X Y row hs hg hrow =>
  (hg.block B hs.lt (fun e' => by obtain ⟨o, ho, hc⟩ := hrow B e'.symm; rw [show X.heap[B]? = _ from hs] at ho; cases ho; cases hc)).trans hs
theorem Boxed.below' {W W' : World} {B : Nat} {t : TypeId} {v : Value} (h : Boxed W B t v) (hb : Below W.heap.size W W') : Boxed W' B t v := (hb.block B h.lt).trans h
theorem keeps_below {W W' : World} (B : Nat) (hb : Below W.heap.size W W') : KeepsFrom B W W' := ⟨hb.size, fun k o _ hk _ => (hb.block k (Array.getElem?_eq_some_iff.1 hk).1).trans hk⟩

/-- an element handed back -/
def SaysEl (xs : List (Int × Int)) (w : World) (e : Ending) (w' : World) : Prop :=
  ∃ ao n cap, e = .returned (.agg #[.slice ao n cap]) ∧ OwnS w' w.heap.size (.slice ao n cap) xs ∧ Below w.heap.size w w'
end Go.Proofs.YthblhibkbcmbaaaDoor

/- Contracts of single functions, and plain lemmas, on which the exact laws of this seat rest; each holds under the conditions that it states. -/
namespace Go.Proofs.YthblhibkbcmbaaaDoor
set_option linter.unusedVariables false
set_option linter.unusedSimpArgs false
open Go.RowKit Go.Shelf
attribute [local go_sem] Oper.semAt_some

/-- the spots of a picture with a margin, row by row; of each one something is known -/
structure Grid (P : Int × Int → Prop) where
  n : Nat
  m : Nat
  k : Nat
  hn : 0 < n
  hm : 0 < m
  hP : ∀ x y : Nat, x < n → y < m → P ((x : Int) - (k : Int), (y : Int) - (k : Int))
section
variable {P : Int × Int → Prop} (G : Grid P)
def Grid.at (i : Nat) : { p : Int × Int // P p } := ⟨(((i % G.n : Nat) : Int) - (G.k : Int), ((i / G.n % G.m : Nat) : Int) - (G.k : Int)), G.hP _ _ (Nat.mod_lt _ G.hn) (Nat.mod_lt _ G.hm)⟩
def Grid.list (t : Nat) : List { p : Int × Int // P p } := (List.range t).map G.at
theorem Grid.list_len (t : Nat) : (G.list t).length = t := by simp [Grid.list]
theorem Grid.list_snoc (t : Nat) : G.list (t + 1) = G.list t ++ [G.at t] := by simp [Grid.list, List.range_succ]
def encP (x : { p : Int × Int // P p }) : Array Value := #[.agg #[.int .i64 x.1.1, .int .i64 x.1.2]]
theorem encP_at (y x : Nat) (hy : y < G.m) (hx : x < G.n) : encP (G.at (y * G.n + x)) = #[.agg #[.int .i64 ((x : Int) - (G.k : Int)), .int .i64 ((y : Int) - (G.k : Int))]] := by
  have e1 : (y * G.n + x) % G.n = x := by rw [Nat.mul_comm, Nat.mul_add_mod, Nat.mod_eq_of_lt hx]
  have e2 : (y * G.n + x) / G.n % G.m = y := by rw [Nat.mul_comm, Nat.mul_add_div G.hn, Nat.div_eq_of_lt hx, Nat.add_zero, Nat.mod_eq_of_lt hy]
  simp only [encP, Grid.at, e1, e2]
end
/-- a round leaves two blocks as they are -/
def Two2 (mb kb : Nat) (A B : World) : Prop := B.heap[mb]? = A.heap[mb]? ∧ B.heap[kb]? = A.heap[kb]?

set_option maxRecDepth 100000 in
set_option maxHeartbeats 2000000 in
/-- the iterator over the spots of a picture -/
theorem spots_in {P : Int × Int → Prop} (G : Grid P) (M : Array Value) (a b mb kb : Nat) (ha : a ≤ 16) (hb : b ≤ 16) (hk2 : G.k ≤ 2) (hna : G.n = a + 2 * G.k) (hmb : G.m = b + 2 * G.k)
    (hM : ∀ W : World, W.heap[mb]? = some (.cells M 59 (0, 0)) → W.cell? ⟨mb, 0, none⟩ = some (.int .i64 a) ∧ W.cell? ⟨mb, 1, none⟩ = some (.int .i64 b))
    (F : Fence) (n : Nat) (hF : F.fn 83) (hro : F.round = none) (hn : 1 ≤ n) (l : Nat) (J Jx : List { p : Int × Int // P p } → World → Prop)
    (hY : ∀ pre x W, J pre W → pre.length < G.m * G.n → YieldAt F (n - 1) Tryd.prog l (encP x) W fun e W' =>
      (e = .returned (.bool true) ∧ J (pre ++ [x]) W' ∧ Two2 mb kb W W') ∨ (e = .returned (.bool false) ∧ Jx (pre ++ [x]) W'))
    (W : World) (h0 : J [] W) (h1 : W.heap[mb]? = some (.cells M 59 (0, 0))) (h2 : W.heap[kb]? = some (.cells #[.int .i64 G.k] 2 (0, 0))) :
    CallsIn F n Tryd.prog 83 #[.func (.yield l) #[] #[], .pointer (some ⟨kb, 0, none⟩), .pointer (some ⟨mb, 0, none⟩)] W fun e W' => (∃ v, e = .returned v) ∧
      ((∃ ys, ys = G.list (G.m * G.n) ∧ J ys W') ∨ (∃ pre, True ∧ Jx pre W')) := by
  have HM := Lib.hid hM
  have H1 := Lib.hid h1
  have H2 := Lib.hid h2
  have hY' := Lib.hid hY
  have HE := Lib.hid (fun y x hy hx => encP_at G y x hy hx)
  have HSn := Lib.hid (fun t => G.list_snoc t)
  have HLn := Lib.hid (fun t => G.list_len t)
  obtain ⟨k, hk⟩ : ∃ k, G.k = k := ⟨_, rfl⟩
  obtain ⟨nn, hnn⟩ : ∃ k, G.n = k := ⟨_, rfl⟩
  obtain ⟨mm, hmm⟩ : ∃ k, G.m = k := ⟨_, rfl⟩
  rw [hk, hnn] at hna HE
  rw [hk, hmm] at hmb
  rw [hmm] at HE
  rw [hk] at hk2 H2
  rw [hmm, hnn] at hY'
  rw [hmm, hnn]
  clear hM h1 h2 hY hk hnn hmm
  refine callsIn_of_wp Tryd.func83 rfl hF ?_ hro
  simp only [Tryd.ntmps83, List.size_toArray, List.length_cons, List.length_nil, Nat.reduceAdd, Nat.reduceSub, Array.replicate_succ, Array.replicate_zero, List.push_toArray, List.append_toArray, List.nil_append, List.cons_append]
  have ck := cell_of_one H2.out
  gi_wp2
  gi_loopw [4] (fun yv wr => ∃ y : Nat, y ≤ mm ∧ yv = .int .i64 ((y : Int) - (k : Int)) ∧ J (G.list (y * nn)) wr ∧ Hid (wr.heap[mb]? = some (.cells M 59 (0, 0))) ∧ Hid (wr.heap[kb]? = some (.cells #[.int .i64 k] 2 (0, 0)))) (fun yv _ => ((b : Int) + (k : Int) - intOf yv).toNat)
  case atStart => exact ⟨0, by omega, by simp, by rw [Nat.zero_mul]; exact h0, H1.out, H2.out⟩
  case round =>
    clear H1 H2 ck h0
    obtain ⟨y, hy, rfl, hJ, H1, H2⟩ := hrel
    have ck := cell_of_one H2.out
    have cm := HM.out wr H1.out
    have cm0 := cm.1
    have cm1 := cm.2
    clear cm
    by_cases hlt : y < mm
    · have ky : (y : Int) - (k : Int) < (b : Int) + (k : Int) := by omega
      gi_wp2
      gi_loopw [5] (fun xv wr => ∃ x : Nat, x ≤ nn ∧ xv = .int .i64 ((x : Int) - (k : Int)) ∧ J (G.list (y * nn + x)) wr ∧ Hid (wr.heap[mb]? = some (.cells M 59 (0, 0))) ∧ Hid (wr.heap[kb]? = some (.cells #[.int .i64 k] 2 (0, 0)))) (fun xv _ => ((a : Int) + (k : Int) - intOf xv).toNat)
      case atStart => exact ⟨0, by omega, by simp, hJ, H1.out, H2.out⟩
      case round =>
        clear hJ H1 H2 ck cm0 cm1
        obtain ⟨x, hx, rfl, hJ, H1, H2⟩ := hrel
        have ck := cell_of_one H2.out
        have cm := HM.out wr H1.out
        have cm0 := cm.1
        have cm1 := cm.2
        clear cm
        by_cases hltx : x < nn
        · have kx : (x : Int) - (k : Int) < (a : Int) + (k : Int) := by omega
          have hlN : y * nn + x < mm * nn := by
            have : (y + 1) * nn ≤ mm * nn := Nat.mul_le_mul hlt (Nat.le_refl _)
            rw [Nat.add_mul, Nat.one_mul] at this
            omega
          have hy0 := hY'.out (G.list (y * nn + x)) (G.at (y * nn + x)) wr hJ (by rw [HLn.out]; exact hlN)
          have he := HE.out y x hlt hltx
          rw [he, ← HSn.out] at hy0
          obtain ⟨fn, tmps, assign, body, hyv, hR⟩ := hy0
          clear hJ he
          gi_wp2
          refine hR.mono ?_
          rintro e W3 (⟨rfl, hJ3, hk3⟩ | ⟨rfl, hJx3⟩)
          · have H13 : Hid (W3.heap[mb]? = some (.cells M 59 (0, 0))) := hk3.1.trans H1.out
            have H23 : Hid (W3.heap[kb]? = some (.cells #[.int .i64 k] 2 (0, 0))) := hk3.2.trans H2.out
            clear hk3 H1 H2 ck cm0 cm1
            gi_wp2
            go_roundw
            case rel => exact ⟨x + 1, by omega, by go_num, hJ3, H13.out, H23.out⟩
            case measure => simp [intOf]; omega
          · gi_wp2
            refine bodyPost_ret (results_none rfl _ _ _) rfl ?_
            exact ⟨⟨_, rfl⟩, .inr ⟨_, trivial, hJx3⟩⟩
        · obtain rfl : x = nn := by omega
          have kx : ¬ (x : Int) - (k : Int) < (a : Int) + (k : Int) := by omega
          have e1 : y * x + x = (y + 1) * x := by rw [Nat.add_mul, Nat.one_mul]
          rw [e1] at hJ
          clear e1
          gi_wp2
          go_roundw
          case rel => exact ⟨y + 1, by omega, by go_num, hJ, H1.out, H2.out⟩
          case measure => simp [intOf]; omega
    · obtain rfl : y = mm := by omega
      have ky : ¬ (y : Int) - (k : Int) < (b : Int) + (k : Int) := by omega
      gi_wp2
      go_end0
      first | exact ⟨⟨_, rfl⟩, .inl ⟨_, rfl, hJ⟩⟩ | exact ⟨⟨_, rfl⟩, .inl (by rw [← hna, ← hmb]; exact hJ)⟩

theorem spots_stops {P : Int × Int → Prop} (G : Grid P) (M : Array Value) (a b mb kb : Nat) (ha : a ≤ 16) (hb : b ≤ 16) (hk2 : G.k ≤ 2) (hna : G.n = a + 2 * G.k) (hmb : G.m = b + 2 * G.k)
    (hM : ∀ W : World, W.heap[mb]? = some (.cells M 59 (0, 0)) → W.cell? ⟨mb, 0, none⟩ = some (.int .i64 a) ∧ W.cell? ⟨mb, 1, none⟩ = some (.int .i64 b))
    (F : Fence) (n : Nat) (hF : F.fn 83) (hro : F.round = none) (hn : 1 ≤ n) (w : World) (h1 : w.heap[mb]? = some (.cells M 59 (0, 0))) (h2 : w.heap[kb]? = some (.cells #[.int .i64 G.k] 2 (0, 0))) :
    SeqStopsK F n Tryd.prog 83 #[.pointer (some ⟨kb, 0, none⟩), .pointer (some ⟨mb, 0, none⟩)] (encP (P := P)) (Two2 mb kb) (fun ys => ys = G.list (G.m * G.n)) (fun _ => True) (G.m * G.n) w := fun l J Jx W hW _ _ hY h0 =>
  spots_in G M a b mb kb ha hb hk2 hna hmb hM F n hF hro hn l J Jx hY W h0 ((hW.block _ (Array.getElem?_eq_some_iff.1 h1).1).trans h1) ((hW.block _ (Array.getElem?_eq_some_iff.1 h2).1).trans h2)
theorem two2_t {mb kb : Nat} {A B C : World} (h : Two2 mb kb A B) (k : Two2 mb kb B C) : Two2 mb kb A C := ⟨k.1.trans h.1, k.2.trans h.2⟩
theorem two2_b {mb kb : Nat} {w : World} (hm : mb < w.heap.size) (hk : kb < w.heap.size) (W : World) (l : Nat) (o o' : Obj) (hl : w.heap.size ≤ l) (_ : W.heap[l]? = some o) (_ : o.isCells = false) (_ : o.isWalk = false) : Two2 mb kb W (W.putObj l o') :=
  ⟨World.putObj_heap_other (by omega), World.putObj_heap_other (by omega)⟩
theorem two2_below {mb kb : Nat} {W W' : World} (hm : mb < W.heap.size) (hk : kb < W.heap.size) (h : Below W.heap.size W W') : Two2 mb kb W W' := ⟨h.block _ hm, h.block _ hk⟩

set_option maxRecDepth 100000 in
set_option maxHeartbeats 1000000 in
/-- the iterator is made -/
theorem spots_any (M : Array Value) (k : Nat) (w : World) (hI : M.size = 18) :
    Calls Tryd.prog 75 #[.agg M, .int .i64 k] w fun e w' => e = .returned (.func (.func 83) #[] #[.pointer (some ⟨w.heap.size + 1, 0, none⟩), .pointer (some ⟨w.heap.size, 0, none⟩)]) ∧ w' = (w.alloc (.cells M 59)).alloc (.cells #[.int .i64 k] 2) := by
  have hmf : ∀ (fn : Fn) (first cap : Array Value) (w : World), (Instr.makeFunc fn first cap).run Tryd.prog w = .ok (.func fn first cap) w := fun _ _ _ _ => rfl
  go_enter Tryd.func75, Tryd.ntmps75
  go_wp2
  go_ret
  exact ⟨rfl, rfl⟩
end Go.Proofs.YthblhibkbcmbaaaDoor

/- Contracts of single functions, and plain lemmas, on which the exact laws of this seat rest; each holds under the conditions that it states. -/
namespace Go.Proofs.YthblhibkbcmbaaaDoor
set_option linter.unusedVariables false
set_option linter.unusedSimpArgs false
open Go.RowKit

/-- an element and a bool handed back -/
def SaysElB (xs : List (Int × Int)) (ok : Bool) (w : World) (e : Ending) (w' : World) : Prop :=
  ∃ ao n cap, e = .returned (.tuple #[.agg #[.slice ao n cap], .bool ok]) ∧ OwnS w' w.heap.size (.slice ao n cap) xs ∧ Below w.heap.size w w'

/-- the rule of a square -/
def sqF (size x y : Int) : Bool := decide (0 ≤ min x y) && decide (max x y < size)

end Go.Proofs.YthblhibkbcmbaaaDoor

/- Contracts of single functions, and plain lemmas, on which the exact laws of this seat rest; each holds under the conditions that it states. -/
namespace Go.Proofs.YthblhibkbcmbaaaDoor
set_option linter.unusedVariables false
set_option linter.unusedSimpArgs false
open Go.RowKit

/-- the first k places of a square from o on that a rule allows -/
def grL (n : Nat) (o : Int) (f : Int → Int → Bool) (k : Nat) : List (Int × Int) := (List.range k).filterMap fun i => if f (((i % n : Nat) : Int) + o) (((i / n : Nat) : Int) + o) then some (((i % n : Nat) : Int) + o, ((i / n : Nat) : Int) + o) else none
theorem grL_len (n : Nat) (o : Int) (f : Int → Int → Bool) (k : Nat) : (grL n o f k).length ≤ k := by
  unfold grL
  have := List.length_filterMap_le (fun i => if f (((i % n : Nat) : Int) + o) (((i / n : Nat) : Int) + o) then some (((i % n : Nat) : Int) + o, ((i / n : Nat) : Int) + o) else none) (List.range k)
  simpa using this
theorem grL_snoc (n : Nat) (o : Int) (f : Int → Int → Bool) (y x : Nat) (hx : x < n) : grL n o f (y * n + x + 1) = grL n o f (y * n + x) ++ (if f ((x : Int) + o) ((y : Int) + o) then [((x : Int) + o, (y : Int) + o)] else []) := by
  have h1 : (y * n + x) / n = y := by rw [Nat.mul_comm, Nat.mul_add_div (by omega), Nat.div_eq_of_lt hx, Nat.add_zero]
  have h2 : (y * n + x) % n = x := by rw [Nat.mul_comm, Nat.mul_add_mod, Nat.mod_eq_of_lt hx]
  unfold grL
  rw [List.range_succ, List.filterMap_append]
  congr 1
  simp only [List.filterMap_cons, List.filterMap_nil, h1, h2]
  split <;> simp_all
theorem grL_zero (n : Nat) (o : Int) (f : Int → Int → Bool) : grL n o f 0 = [] := rfl

section
variable {w W W' : World} {R B : Nat} {v : Value} {L : List (Int × Int)}
end

end Go.Proofs.YthblhibkbcmbaaaDoor

/- Contracts of single functions, and plain lemmas, on which the exact laws of this seat rest; each holds under the conditions that it states. -/
namespace Go.Proofs.YthblhibkbcmbaaaDoor
set_option linter.unusedVariables false
set_option linter.unusedSimpArgs false
open Go.RowKit

def absI (x : Int) : Int := max x (-x)
theorem absI_range (x : Int) (h : -100 ≤ x ∧ x ≤ 100) : 0 ≤ absI x ∧ absI x ≤ 100 := by unfold absI; omega
/-- the rule of a cross -/
def crF (r x y : Int) : Bool := decide (absI x + absI y ≤ r)

end Go.Proofs.YthblhibkbcmbaaaDoor

/- Contracts of single functions, and plain lemmas, on which the exact laws of this seat rest; each holds under the conditions that it states. -/
namespace Go.Proofs.YthblhibkbcmbaaaDoor
set_option linter.unusedVariables false
set_option linter.unusedSimpArgs false
open Go.RowKit

/-! ### distances -/
def farI (k ax ay bx b_y : Int) : Int := if k = 0 then absI (ax - bx) + absI (ay - b_y) else if k = 1 then max (absI (ax - bx)) (absI (ay - b_y)) else absI (ax - bx) * absI (ax - bx) + absI (ay - b_y) * absI (ay - b_y)
def Small (x : Int) : Prop := -40 ≤ x ∧ x ≤ 40
theorem sq_range (a : Int) (h : 0 ≤ a ∧ a ≤ 100) : 0 ≤ a * a ∧ a * a ≤ 10000 := ⟨Int.mul_nonneg h.1 h.1, by have := Int.mul_le_mul h.2 h.2 h.1 (by omega); omega⟩

end Go.Proofs.YthblhibkbcmbaaaDoor
