/- Contracts of single functions, and plain lemmas, on which the exact laws of this seat rest; each holds under the conditions that it states. -/
import Derived.Test.YtaopdhncapoefaaDoorE3
import Derived.Test.YtaopdhncapoefaaDoorE4
namespace Go.Proofs.YtaopdhncapoefaaDoor
set_option linter.unusedVariables false
set_option linter.unusedSimpArgs false
open Go.RowKit

theorem sm_plus (f : Nat → Nat) (m : Nat) : ∀ n, sm (m + n) f = sm m f + sm n (fun i => f (m + i))
  | 0 => rfl
  | n + 1 => by
    show sm (m + n) f + f (m + n) = sm m f + (sm n _ + f (m + n))
    rw [sm_plus f m n]
    omega
theorem sm_mul (f : Nat → Nat) (n : Nat) : ∀ m, sm (m * n) f = sm m (fun i => sm n (fun j => f (i * n + j)))
  | 0 => by rw [Nat.zero_mul]; rfl
  | m + 1 => by
    rw [Nat.add_mul, Nat.one_mul, sm_plus, sm_mul f n m]
    rfl
/-- one if it is so -/
def io (b : Bool) : Nat := if b then 1 else 0
theorem len_filter {α : Type} (q : α → Bool) (f : Nat → α) : ∀ n, (((List.range n).map f).filter q).length = sm n (fun i => io (q (f i)))
  | 0 => rfl
  | n + 1 => by
    rw [List.range_succ, List.map_append, List.filter_append, List.length_append, len_filter q f n]
    show _ = sm n _ + io (q (f n))
    congr 1
    simp only [List.map_cons, List.map_nil, List.filter]
    cases q (f n) <;> rfl
theorem elN_sm (p : Int → Int → Bool) (a b : Nat) : elN p a b = sm (b + 1) fun y => sm (a + 1) fun x => sm 4 fun d => io (ledB p (x : Int) (y : Int) d) := by
  unfold elN sdL
  rw [len_filter (fun s : Int × Int × Nat => ledB p s.1 s.2.1 s.2.2) (sdAt a), show 4 * ((b + 1) * (a + 1)) = ((b + 1) * (a + 1)) * 4 from Nat.mul_comm _ _, sm_mul, sm_mul]
  refine sm_congr _ fun y hy => sm_congr _ fun x hx => sm_congr _ fun d hd => ?_
  have := sdAt_eq a y x d (by omega) hd
  rw [show (y * (a + 1) + x) * 4 + d = 4 * (y * (a + 1) + x) + d from by rw [Nat.mul_comm], this]

theorem sm4 (f : Nat → Nat) : sm 4 f = f 0 + f 1 + f 2 + f 3 := by show 0 + f 0 + f 1 + f 2 + f 3 = _; omega
theorem sm2_add (f g : Nat → Nat → Nat) (m n : Nat) : (sm m fun y => sm n fun x => f y x + g y x) = (sm m fun y => sm n fun x => f y x) + (sm m fun y => sm n fun x => g y x) := by
  rw [← sm_add]
  exact sm_congr _ fun y _ => sm_add _ _ _
theorem sm_last {f : Nat → Nat} {n : Nat} (h : f n = 0) : sm (n + 1) f = sm n f := by show sm n f + f n = _; omega
theorem sm_first {f : Nat → Nat} {n : Nat} (h : f 0 = 0) : sm (n + 1) f = sm n (fun i => f (i + 1)) := by rw [sm_shift, h, Nat.zero_add]

section
variable {p : Int → Int → Bool} {a b : Nat}
theorem edges_eq (hp : ∀ x y : Int, p x y = true → (0 ≤ x ∧ x < a) ∧ (0 ≤ y ∧ y < b)) : elN p a b = eAll p a b := by
  have hn : ∀ x y : Int, ¬ ((0 ≤ x ∧ x < a) ∧ (0 ≤ y ∧ y < b)) → p x y = false := fun x y h => by
    cases e : p x y with
    | false => rfl
    | true => exact absurd (hp x y e) h
  rw [elN_sm]
  have e : (sm (b + 1) fun y => sm (a + 1) fun x => sm 4 fun d => io (ledB p (x : Int) (y : Int) d)) =
      (sm (b + 1) fun y => sm (a + 1) fun x => io (ledB p (x : Int) (y : Int) 0)) + (sm (b + 1) fun y => sm (a + 1) fun x => io (ledB p (x : Int) (y : Int) 1)) + (sm (b + 1) fun y => sm (a + 1) fun x => io (ledB p (x : Int) (y : Int) 2)) + (sm (b + 1) fun y => sm (a + 1) fun x => io (ledB p (x : Int) (y : Int) 3)) := by
    rw [← sm2_add, ← sm2_add, ← sm2_add]
    exact sm_congr _ fun y _ => sm_congr _ fun x _ => sm4 _
  have f : eAll p a b = (sm b fun y => sm a fun x => eV p x y 3) + (sm b fun y => sm a fun x => eV p x y 0) + (sm b fun y => sm a fun x => eV p x y 1) + (sm b fun y => sm a fun x => eV p x y 2) := by
    rw [← sm2_add, ← sm2_add, ← sm2_add]
    refine sm_congr _ fun y _ => sm_congr _ fun x _ => ?_
    show sm 4 (eV p x y) = _
    rw [sm4]
    omega
  have z0 : ∀ X Y X' Y' : Int, ¬ ((0 ≤ X ∧ X < a) ∧ (0 ≤ Y ∧ Y < b)) → io (p X Y && !p X' Y') = 0 := fun X Y X' Y' h => by rw [hn _ _ h]; rfl
  rw [e, f]
  clear e f
  congr 1
  · congr 1
    · congr 1
      · -- up
        rw [sm_last (by refine sm_zero _ fun x hx => ?_; exact z0 _ _ _ _ (by omega))]
        refine sm_congr _ fun y hy => ?_
        rw [sm_last (by exact z0 _ _ _ _ (by omega))]
        rfl
      · -- right
        rw [sm_last (by
          refine sm_zero _ fun x hx => ?_
          exact z0 _ _ _ _ (by omega))]
        refine sm_congr _ fun y hy => ?_
        rw [sm_first (by exact z0 _ _ _ _ (by omega))]
        refine sm_congr _ fun x hx => ?_
        show io (p (((x + 1 : Nat) : Int) + -1) (y : Int) && !p ((x + 1 : Nat) : Int) (y : Int)) = io (p x y && !p ((x : Int) + 1) ((y : Int) + 0))
        rw [show ((x + 1 : Nat) : Int) + -1 = (x : Int) from by omega, show ((x + 1 : Nat) : Int) = (x : Int) + 1 from by omega, Int.add_zero]
    · -- down
      rw [sm_first (by
        refine sm_zero _ fun x hx => ?_
        exact z0 _ _ _ _ (by omega))]
      refine sm_congr _ fun y hy => ?_
      rw [sm_first (by exact z0 _ _ _ _ (by omega))]
      refine sm_congr _ fun x hx => ?_
      show io (p (((x + 1 : Nat) : Int) + -1) (((y + 1 : Nat) : Int) + -1) && !p (((x + 1 : Nat) : Int) + -1) ((y + 1 : Nat) : Int)) = io (p x y && !p ((x : Int) + 0) ((y : Int) + 1))
      rw [show ((x + 1 : Nat) : Int) + -1 = (x : Int) from by omega, show ((y + 1 : Nat) : Int) + -1 = (y : Int) from by omega, show ((y + 1 : Nat) : Int) = (y : Int) + 1 from by omega, Int.add_zero]
  · -- left
    rw [sm_first (by
      refine sm_zero _ fun x hx => ?_
      exact z0 _ _ _ _ (by omega))]
    refine sm_congr _ fun y hy => ?_
    rw [sm_last (by exact z0 _ _ _ _ (by omega))]
    refine sm_congr _ fun x hx => ?_
    show io (p (x : Int) (((y + 1 : Nat) : Int) + -1) && !p ((x : Int) + -1) (((y + 1 : Nat) : Int) + -1)) = io (p x y && !p ((x : Int) + -1) ((y : Int) + 0))
    rw [show ((y + 1 : Nat) : Int) + -1 = (y : Int) from by omega, Int.add_zero]
end
theorem pixI_in (ss : List ByteArray) (x y : Int) (h : pixI ss x y = true) : (0 ≤ x ∧ x < ((row0 ss).size : Nat)) ∧ (0 ≤ y ∧ y < (ss.length : Nat)) := by
  unfold pixI insB inB at h
  simp at h
  omega
theorem elV_esV (ss : List ByteArray) : elV ss = esV ss := by
  unfold elV esV
  rw [edges_eq (fun x y h => pixI_in ss x y h)]
end Go.Proofs.YtaopdhncapoefaaDoor
