/- Contracts of single functions, and plain lemmas, on which the exact laws of this seat rest; each holds under the conditions that it states. -/
import Derived.Test.YtabkkpifkkgpeaaDoorOa
import Derived.Deep.QuietTactic
import Derived.BigQuiet
import Derived.Test.YtabkkpifkkgpeaaDoorB1
import Derived.Test.YtabkkpifkkgpeaaDoorLt
import Derived.Deep.RegionHeld3
import Derived.Deep.RegionWith
import Derived.StillTailTactics
import Derived.Test.YtabkkpifkkgpeaaDoorPb
namespace Go.Proofs.YtabkkpifkkgpeaaDoor
set_option linter.unusedVariables false
set_option linter.unusedSimpArgs false
open Go.RowKit

theorem eqI_yes {a b : Int} (h : a = b) : (a == b) = true := beq_iff_eq.2 h
theorem eqI_no {a b : Int} (h : a ≠ b) : (a == b) = false := by simpa using h

end Go.Proofs.YtabkkpifkkgpeaaDoor

/- Contracts of single functions, and plain lemmas, on which the exact laws of this seat rest; each holds under the conditions that it states. -/
namespace Go.Proofs.YtabkkpifkkgpeaaDoor
set_option linter.unusedVariables false
set_option linter.unusedSimpArgs false
open Go.RowKit

def fitIn (X Y : Int) : Bool := inB X (-16) 32 && inB Y (-16) 32
def fitV (ss : List ByteArray) (xs : List (Int × Int)) (X Y : Int) : Bool := validB ss && (elB xs && (fitIn X Y && fitB ss xs X Y))

end Go.Proofs.YtabkkpifkkgpeaaDoor

/- Contracts of single functions, and plain lemmas, on which the exact laws of this seat rest; each holds under the conditions that it states. -/
namespace Go.Proofs.YtabkkpifkkgpeaaDoor
set_option linter.unusedVariables false
set_option linter.unusedSimpArgs false
open Go.RowKit

theorem plus_any (x y a b : Int) (w : World) (h1 : -100 ≤ x ∧ x ≤ 100) (h2 : -100 ≤ y ∧ y ≤ 100) (h3 : -100 ≤ a ∧ a ≤ 100) (h4 : -100 ≤ b ∧ b ≤ 100) :
    Calls Tryd.prog 73 #[.agg #[.int .i64 x, .int .i64 y], .agg #[.int .i64 a, .int .i64 b]] w fun e w' => e = .returned (.agg #[.int .i64 (x + a), .int .i64 (y + b)]) ∧ Below w.heap.size w w' := by
  go_enter Tryd.func73, Tryd.ntmps73
  go_wp2
  exact bodyPost_ret (v := .agg #[.int .i64 (x + a), .int .i64 (y + b)]) (by simp [results, Tryd.results73, go_sem]) rfl ⟨rfl, Joins.below_alloc3 w _ _ _⟩

end Go.Proofs.YtabkkpifkkgpeaaDoor

/- Contracts of single functions, and plain lemmas, on which the exact laws of this seat rest; each holds under the conditions that it states. -/
namespace Go.Proofs.YtabkkpifkkgpeaaDoor
set_option linter.unusedVariables false
set_option linter.unusedSimpArgs false
open Go.RowKit

set_option maxHeartbeats 1000000 in
set_option maxRecDepth 100000 in
/-- the rule that ContainsFunc asks: is there white where an offset leads -/
theorem fit1_any (A B : Nat) (X Y x y : Int) (M : Array Value) (bb : Bool) (w : World) (hA : w.heap[A]? = some (.cells #[.int .i64 X, .int .i64 Y] 29 (0, 0))) (hM : w.heap[B]? = some (.cells M 96 (0, 0))) (hI : (Tryd.prog.info? 96).map (·.size) = some M.size)
    (hX : -16 ≤ X ∧ X ≤ 32) (hY : -16 ≤ Y ∧ Y ≤ 32) (hx : -4 ≤ x ∧ x ≤ 4) (hy : -4 ≤ y ∧ y ≤ 4) (hBk : ∀ W, Calls Tryd.prog 94 #[.agg M, .int .i64 (X + x), .int .i64 (Y + y)] W (SaysB bb W)) :
    Calls Tryd.prog 93 #[.agg #[.int .i64 x, .int .i64 y], .pointer (some ⟨A, 0, none⟩), .pointer (some ⟨B, 0, none⟩)] w (SaysB (!bb) w) := by
  have lA := (Array.getElem?_eq_some_iff.1 hA).1
  have lB := (Array.getElem?_eq_some_iff.1 hM).1
  have a0 : w.cell? ⟨A, 0, none⟩ = some (.int .i64 X) := by rw [Joins.cell_of_block hA 0]; rfl
  have a1 : w.cell? ⟨A, 1, none⟩ = some (.int .i64 Y) := by rw [Joins.cell_of_block hA 1]; rfl
  have CP := Lib.hid (fun W => plus_any X Y x y W (by omega) (by omega) (by omega) (by omega))
  have HBk := Lib.hid hBk
  have HM := Lib.hid hM
  have HB1 := Lib.hid (Joins.below_alloc1 w (.cells #[.int .i64 x, .int .i64 y] 29))
  have HI := Lib.hid hI
  clear hA hBk hM hI
  go_enter Tryd.func93, Tryd.ntmps93
  go_wp2_with fail
  refine (CP.out _).mono ?_
  rintro e w2 ⟨rfl, hb2⟩
  have B2 := Lib.hid (HB1.out.trans (hb2.mono (by simp)))
  have M3 : Hid ((w2.alloc (.cells #[.int .i64 (X + x), .int .i64 (Y + y)] 29)).heap[B]? = some (.cells M 96 (0, 0))) := by
    show _ = _
    rw [Below.heap_alloc _ _ _ (by have := B2.out.size; omega), B2.out.block _ lB]; exact HM.out
  have B3 := Lib.hid (B2.out.alloc B2.out.size (.cells #[.int .i64 (X + x), .int .i64 (Y + y)] 29))
  clear hb2
  go_wp2_with (refine wpList_load_row_g rfl 96 _ rfl B rfl 96 M (0, 0) _ M3.out Tryd.underlying96 rfl HI.out ?_)
  refine (HBk.out _).mono ?_
  rintro e w4 ⟨rfl, hb4⟩
  have B4 := Lib.hid (B3.out.trans (hb4.mono (by have := B2.out.size; simp; omega)))
  clear hb4
  go_wp2_with fail
  go_ret
  exact ⟨rfl, B4.out⟩
end Go.Proofs.YtabkkpifkkgpeaaDoor

/- Contracts of single functions, and plain lemmas, on which the exact laws of this seat rest; each holds under the conditions that it states. -/
namespace Go.Proofs.YtabkkpifkkgpeaaDoor
set_option linter.unusedVariables false
set_option linter.unusedSimpArgs false
open Go.RowKit

/-- is there one that the rule takes -/
def anyF (g : Nat → Bool) (n : Nat) : Bool := (List.range n).any g
theorem anyF_yes {g : Nat → Bool} {n i : Nat} (hi : i < n) (h : g i = true) : anyF g n = true := List.any_eq_true.2 ⟨i, List.mem_range.2 hi, h⟩
theorem anyF_no {g : Nat → Bool} {n : Nat} (h : ∀ i, i < n → g i = false) : anyF g n = false := by
  unfold anyF
  rw [List.any_eq_false]
  intro i hi
  rw [h i (List.mem_range.1 hi)]
  simp

set_option maxHeartbeats 1000000 in
set_option maxRecDepth 100000 in
theorem indexF_any (A B : Nat) (v : Value) (xs : List (Int × Int)) (g : Nat → Bool) (w : World) (hN : xs.length ≤ 1048576) (hv : SlS w v xs)
    (hf : ∀ i W, i < xs.length → Below w.heap.size w W → Calls Tryd.prog 93 #[.agg #[.int .i64 (xs.getD i (0, 0)).1, .int .i64 (xs.getD i (0, 0)).2], .pointer (some ⟨A, 0, none⟩), .pointer (some ⟨B, 0, none⟩)] W (SaysB (g i) W)) :
    Calls Tryd.prog 145 #[v, .func (.func 93) #[] #[.pointer (some ⟨A, 0, none⟩), .pointer (some ⟨B, 0, none⟩)]] w (fun e w' => ∃ r : Int, e = .returned (.int .i64 r) ∧ ((0 ≤ r ∧ anyF g xs.length = true) ∨ (r < 0 ∧ anyF g xs.length = false)) ∧ Below w.heap.size w w') := by
  obtain ⟨ao, cap, rfl, hsp⟩ := sl_form hv
  have HF := Lib.hid hf
  have HSp := Lib.hid hsp
  obtain ⟨n, hn⟩ : ∃ n, xs.length = n := ⟨_, rfl⟩
  have Hn := Lib.hid hn
  rw [hn] at HF HSp hN ⊢
  clear hv hf hsp hn
  go_enter Tryd.func145, Tryd.ntmps145
  go_wp2
  go_loopw [8] (fun iv wr => ∃ i : Nat, i ≤ n ∧ iv = .int .i64 i ∧ Hid (∀ j, j < i → g j = false) ∧ Hid (Below w.heap.size w wr)) (fun iv _ => n - (intOf iv).toNat)
  case atStart => exact ⟨0, Nat.zero_le _, rfl, fun j h => absurd h (Nat.not_lt_zero j), Below.refl _ _⟩
  case round =>
    obtain ⟨i, hi, rfl, HJ, HB⟩ := hrel
    have hs := HB.out.size
    by_cases hlt : i < n
    · have klt : (i : Int) < (n : Int) := by omega
      obtain ⟨b, rfl, hbl, hcs⟩ := HSp.out (by omega)
      have c0 := cell_kept HB.out (hcs i (by rw [Hn.out]; exact hlt)).1
      have c1 := cell_kept HB.out (hcs i (by rw [Hn.out]; exact hlt)).2
      have lb : b < wr.heap.size := by omega
      have C := Lib.hid (HF.out i wr hlt HB.out)
      have HYes := Lib.hid (fun h => @anyF_yes g n i hlt h)
      have HJs : Hid (g i = false → ∀ j, j < i + 1 → g j = false) := fun h j hj => by
        by_cases e : j = i
        · rw [e]; exact h
        · exact HJ.out j (by omega)
      obtain ⟨x, hx⟩ : ∃ x, (xs.getD i (0, 0)).1 = x := ⟨_, rfl⟩
      obtain ⟨y, hy⟩ : ∃ y, (xs.getD i (0, 0)).2 = y := ⟨_, rfl⟩
      obtain ⟨q, hq⟩ : ∃ q, g i = q := ⟨_, rfl⟩
      rw [hx] at c0 C
      rw [hy] at c1 C
      rw [hq] at C HYes HJs
      clear hx hy hq hcs
      cases q with
      | true =>
        have HR := Lib.hid (HYes.out rfl)
        go_wp2_with fail
        refine C.out.mono ?_
        rintro e w2 ⟨rfl, hb2⟩
        have B2 := Lib.hid (HB.out.trans (hb2.mono hs))
        clear hb2
        go_wp2_with fail
        go_ret
        exact ⟨_, rfl, Or.inl ⟨by omega, HR.out⟩, B2.out⟩
      | false =>
        have HN := Lib.hid (HJs.out rfl)
        go_wp2_with fail
        refine C.out.mono ?_
        rintro e w2 ⟨rfl, hb2⟩
        have B2 := Lib.hid (HB.out.trans (hb2.mono hs))
        clear hb2
        go_wp2
        go_roundw
        case rel => exact ⟨i + 1, by omega, by go_num, HN.out, B2.out⟩
        case measure => simp [intOf]; omega
    · obtain rfl : i = n := by omega
      have HR := Lib.hid (anyF_no HJ.out)
      go_wp2
      go_ret
      exact ⟨_, rfl, Or.inr ⟨by omega, HR.out⟩, HB.out⟩

theorem containsF_any (A B : Nat) (v : Value) (xs : List (Int × Int)) (g : Nat → Bool) (w : World) (hN : xs.length ≤ 1048576) (hv : SlS w v xs)
    (hf : ∀ i W, i < xs.length → Below w.heap.size w W → Calls Tryd.prog 93 #[.agg #[.int .i64 (xs.getD i (0, 0)).1, .int .i64 (xs.getD i (0, 0)).2], .pointer (some ⟨A, 0, none⟩), .pointer (some ⟨B, 0, none⟩)] W (SaysB (g i) W)) :
    Calls Tryd.prog 92 #[v, .func (.func 93) #[] #[.pointer (some ⟨A, 0, none⟩), .pointer (some ⟨B, 0, none⟩)]] w (SaysB (anyF g xs.length) w) := by
  have C := Lib.hid (indexF_any A B v xs g w hN hv hf)
  obtain ⟨q, hq⟩ : ∃ q, anyF g xs.length = q := ⟨_, rfl⟩
  rw [hq] at C ⊢
  clear hf hv hq
  go_enter Tryd.func92, Tryd.ntmps92
  go_wp2_with fail
  refine C.out.mono ?_
  rintro e w2 ⟨r, rfl, ⟨hr, rfl⟩ | ⟨hr, rfl⟩, hb⟩
  · have HB := Lib.hid hb
    have k : decide ((0 : Int) ≤ r) = true := decide_eq_true hr
    clear hb
    go_wp2
    go_ret
    exact ⟨ret_bool (by first | rfl | exact k | (symm; exact k)), HB.out⟩
  · have HB := Lib.hid hb
    have k : decide ((0 : Int) ≤ r) = false := decide_eq_false (by omega)
    clear hb
    go_wp2
    go_ret
    exact ⟨ret_bool (by first | rfl | exact k | (symm; exact k)), HB.out⟩
end Go.Proofs.YtabkkpifkkgpeaaDoor
