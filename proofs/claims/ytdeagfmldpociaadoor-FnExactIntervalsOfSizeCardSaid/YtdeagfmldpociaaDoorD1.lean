/- Contracts of single functions, and plain lemmas, on which the exact laws of this seat rest; each holds under the conditions that it states. -/
import Derived.Test.YtdeagfmldpociaaDoorA2
import Derived.Test.YtdeagfmldpociaaDoorPb
import Derived.Deep.QuietTactic
import Derived.BigQuiet
import Derived.Deep.RegionHeld3
import Derived.Test.YtdeagfmldpociaaDoorIs
namespace Go.Proofs.YtdeagfmldpociaaDoor
set_option linter.unusedVariables false
set_option linter.unusedSimpArgs false
open Go.RowKit

/-- an element and a bool handed back -/
def SaysElB (xs : List (Int × Int)) (ok : Bool) (w : World) (e : Ending) (w' : World) : Prop :=
  ∃ ao n cap, e = .returned (.tuple #[.agg #[.slice ao n cap], .bool ok]) ∧ OwnS w' w.heap.size (.slice ao n cap) xs ∧ Below w.heap.size w w'

/-- the rule of a square -/
def sqF (size x y : Int) : Bool := decide (0 ≤ min x y) && decide (max x y < size)

end Go.Proofs.YtdeagfmldpociaaDoor

/- Contracts of single functions, and plain lemmas, on which the exact laws of this seat rest; each holds under the conditions that it states. -/
namespace Go.Proofs.YtdeagfmldpociaaDoor
set_option linter.unusedVariables false
set_option linter.unusedSimpArgs false
open Go.RowKit

/-- the first k places of a square from o on that a rule allows -/
def grL (n : Nat) (o : Int) (f : Int → Int → Bool) (k : Nat) : List (Int × Int) := (List.range k).filterMap fun i => if f (((i % n : Nat) : Int) + o) (((i / n : Nat) : Int) + o) then some (((i % n : Nat) : Int) + o, ((i / n : Nat) : Int) + o) else none
theorem grL_len (n : Nat) (o : Int) (f : Int → Int → Bool) (k : Nat) : (grL n o f k).length ≤ k := by
  unfold grL
  have := List.length_filterMap_le (fun i => if f (((i % n : Nat) : Int) + o) (((i / n : Nat) : Int) + o) then some (((i % n : Nat) : Int) + o, ((i / n : Nat) : Int) + o) else none) (List.range k)
  simpa using this
theorem grL_snoc (n : Nat) (o : Int) (f : Int → Int → Bool) (y x : Nat) (hx : x < n) : grL n o f (y * n + x + 1) = grL n o f (y * n + x) ++ (if f ((x : Int) + o) ((y : Int) + o) then [((x : Int) + o, (y : Int) + o)] else []) := by
  have h1 : (y * n + x) / n = y := by rw [Nat.mul_comm, Nat.mul_add_div (by omega), Nat.div_eq_of_lt hx, Nat.add_zero]
  have h2 : (y * n + x) % n = x := by rw [Nat.mul_comm, Nat.mul_add_mod, Nat.mod_eq_of_lt hx]
  unfold grL
  rw [List.range_succ, List.filterMap_append]
  congr 1
  simp only [List.filterMap_cons, List.filterMap_nil, h1, h2]
  split <;> simp_all
theorem grL_zero (n : Nat) (o : Int) (f : Int → Int → Bool) : grL n o f 0 = [] := rfl

section
variable {w W W' : World} {R B : Nat} {v : Value} {L : List (Int × Int)}
end

end Go.Proofs.YtdeagfmldpociaaDoor

/- Contracts of single functions, and plain lemmas, on which the exact laws of this seat rest; each holds under the conditions that it states. -/
namespace Go.Proofs.YtdeagfmldpociaaDoor
set_option linter.unusedVariables false
set_option linter.unusedSimpArgs false
open Go.RowKit

theorem l00Max_any (a b : Int) (w : World) : Calls Tryd.prog 64 #[.int .i64 a, .int .i64 b] w fun e w' => e = .returned (.int .i64 (max a b)) ∧ w = w' := by
  by_cases h : b < a
  · have HV : Hid (max a b = a) := by show _ = _; omega
    go_enter Tryd.func64, Tryd.ntmps64
    go_wp2
    go_ret
    exact ⟨ret_int HV.out.symm, rfl⟩
  · have HV : Hid (max a b = b) := by show _ = _; omega
    go_enter Tryd.func64, Tryd.ntmps64
    go_wp2
    go_ret
    exact ⟨ret_int HV.out.symm, rfl⟩
def absI (x : Int) : Int := max x (-x)
theorem absI_range (x : Int) (h : -100 ≤ x ∧ x ≤ 100) : 0 ≤ absI x ∧ absI x ≤ 100 := by unfold absI; omega
theorem absolute_any (x : Int) (w : World) (h : -100 ≤ x ∧ x ≤ 100) : Calls Tryd.prog 135 #[.int .i64 x] w fun e w' => e = .returned (.int .i64 (absI x)) ∧ w = w' := by
  go_enter Tryd.func135, Tryd.ntmps135
  go_wp2
  all_goals go_ret
  all_goals exact ⟨ret_int (by unfold absI; omega), rfl⟩

/-- the rule of a cross -/
def crF (r x y : Int) : Bool := decide (absI x + absI y ≤ r)

end Go.Proofs.YtdeagfmldpociaaDoor

/- Contracts of single functions, and plain lemmas, on which the exact laws of this seat rest; each holds under the conditions that it states. -/
namespace Go.Proofs.YtdeagfmldpociaaDoor
set_option linter.unusedVariables false
set_option linter.unusedSimpArgs false
open Go.RowKit

/-! ### distances -/
def farI (k ax ay bx b_y : Int) : Int := if k = 0 then absI (ax - bx) + absI (ay - b_y) else if k = 1 then max (absI (ax - bx)) (absI (ay - b_y)) else absI (ax - bx) * absI (ax - bx) + absI (ay - b_y) * absI (ay - b_y)
def Small (x : Int) : Prop := -40 ≤ x ∧ x ≤ 40
theorem sq_range (a : Int) (h : 0 ≤ a ∧ a ≤ 100) : 0 ≤ a * a ∧ a * a ≤ 10000 := ⟨Int.mul_nonneg h.1 h.1, by have := Int.mul_le_mul h.2 h.2 h.1 (by omega); omega⟩

set_option maxHeartbeats 2000000 in
set_option maxRecDepth 100000 in
theorem l06Far_any (k ax ay bx b_y : Int) (w : World) (h1 : Small ax) (h2 : Small ay) (h3 : Small bx) (h4 : Small b_y) :
    Calls Tryd.prog 113 #[.int .i64 k, .int .i64 ax, .int .i64 ay, .int .i64 bx, .int .i64 b_y] w fun e w' => e = .returned (.int .i64 (farI k ax ay bx b_y)) ∧ w = w' := by
  unfold Small at h1 h2 h3 h4
  have CM := Lib.hid (fun (a b : Int) W => l00Max_any a b W)
  have m1 : max (ax - bx) (bx - ax) = absI (ax - bx) := by unfold absI; omega
  have m2 : max (ay - b_y) (b_y - ay) = absI (ay - b_y) := by unfold absI; omega
  have r1 := absI_range (ax - bx) (by omega)
  have r2 := absI_range (ay - b_y) (by omega)
  have HF : Hid (farI k ax ay bx b_y = if k = 0 then absI (ax - bx) + absI (ay - b_y) else if k = 1 then max (absI (ax - bx)) (absI (ay - b_y)) else absI (ax - bx) * absI (ax - bx) + absI (ay - b_y) * absI (ay - b_y)) := rfl
  have M1 := Lib.hid m1
  have M2 := Lib.hid m2
  obtain ⟨p, hp⟩ : ∃ p, absI (ax - bx) = p := ⟨_, rfl⟩
  obtain ⟨q, hq⟩ : ∃ q, absI (ay - b_y) = q := ⟨_, rfl⟩
  rw [hp] at HF r1 M1
  rw [hq] at HF r2 M2
  have s1 := sq_range p r1
  have s2 := sq_range q r2
  clear hp hq m1 m2
  go_enter Tryd.func113, Tryd.ntmps113
  go_wp2_with fail
  refine (CM.out _ _ _).mono ?_
  rintro e w' ⟨rfl, rfl⟩
  rw [M1.out]
  go_wp2_with fail
  refine (CM.out _ _ _).mono ?_
  rintro e w' ⟨rfl, rfl⟩
  rw [M2.out]
  clear M1 M2
  by_cases hk0 : k = 0
  · subst hk0
    have HR : Hid (farI 0 ax ay bx b_y = p + q) := HF.out
    clear HF
    go_wp2_with fail
    go_ret
    exact ⟨ret_int HR.out.symm, rfl⟩
  · by_cases hk1 : k = 1
    · subst hk1
      have HR : Hid (farI 1 ax ay bx b_y = max p q) := HF.out
      clear HF
      go_wp2_with fail
      refine (CM.out _ _ _).mono ?_
      rintro e w' ⟨rfl, rfl⟩
      go_wp2_with fail
      go_ret
      exact ⟨ret_int HR.out.symm, rfl⟩
    · have HR : Hid (farI k ax ay bx b_y = p * p + q * q) := by show _ = _; rw [HF.out, if_neg hk0, if_neg hk1]
      clear HF CM
      go_wp2_with fail
      go_ret
      exact ⟨ret_int HR.out.symm, rfl⟩

set_option maxHeartbeats 2000000 in
set_option maxRecDepth 100000 in
theorem between_any (k ax ay bx b_y : Int) (w : World) (h1 : Small ax) (h2 : Small ay) (h3 : Small bx) (h4 : Small b_y) :
    Calls Tryd.prog 114 #[.int .i64 k, .agg #[.int .i64 ax, .int .i64 ay], .agg #[.int .i64 bx, .int .i64 b_y]] w fun e w' => e = .returned (.int .i64 (farI k ax ay bx b_y)) ∧ Below w.heap.size w w' := by
  unfold Small at h1 h2 h3 h4
  have CA := Lib.hid (fun (z : Int) (hz : -100 ≤ z ∧ z ≤ 100) W => absolute_any z W hz)
  have r1 := absI_range (ax - bx) (by omega)
  have r2 := absI_range (ay - b_y) (by omega)
  have C1 := Lib.hid (fun W => CA.out (ax - bx) (by omega) W)
  have C2 := Lib.hid (fun W => CA.out (ay - b_y) (by omega) W)
  have HF : Hid (farI k ax ay bx b_y = if k = 0 then absI (ax - bx) + absI (ay - b_y) else if k = 1 then max (absI (ax - bx)) (absI (ay - b_y)) else absI (ax - bx) * absI (ax - bx) + absI (ay - b_y) * absI (ay - b_y)) := rfl
  obtain ⟨p, hp⟩ : ∃ p, absI (ax - bx) = p := ⟨_, rfl⟩
  obtain ⟨q, hq⟩ : ∃ q, absI (ay - b_y) = q := ⟨_, rfl⟩
  rw [hp] at HF r1 C1
  rw [hq] at HF r2 C2
  have s1 := sq_range p r1
  have s2 := sq_range q r2
  clear hp hq CA
  go_enter Tryd.func114, Tryd.ntmps114
  go_wp2_with fail
  go_quiet ((go_at_call 135; first | exact Calls.quiet_of_same ((C1.out _).mono fun e w' ⟨he, hw⟩ => ⟨he, hw.symm⟩) | exact Calls.quiet_of_same ((C2.out _).mono fun e w' ⟨he, hw⟩ => ⟨he, hw.symm⟩)))
  have HB := Lib.hid ((Joins.below_alloc2 w (.cells #[.int .i64 ax, .int .i64 ay] 26) (.cells #[.int .i64 bx, .int .i64 b_y] 26)).trans (Joins.below_draws w.heap.size _ nq))
  clear C1 C2
  by_cases hk0 : k = 0
  · subst hk0
    have HR : Hid (farI 0 ax ay bx b_y = p + q) := HF.out
    clear HF
    go_wp2_with fail
    go_ret
    exact ⟨ret_int HR.out.symm, HB.out⟩
  · by_cases hk1 : k = 1
    · subst hk1
      have HR : Hid (farI 1 ax ay bx b_y = max p q) := HF.out
      clear HF
      go_wp2_with fail
      all_goals go_ret
      all_goals exact ⟨ret_int (by rw [HR.out] <;> omega), HB.out⟩
    · have HR : Hid (farI k ax ay bx b_y = p * p + q * q) := by show _ = _; rw [HF.out, if_neg hk0, if_neg hk1]
      clear HF
      go_wp2_with fail
      go_ret
      exact ⟨ret_int HR.out.symm, HB.out⟩
end Go.Proofs.YtdeagfmldpociaaDoor
