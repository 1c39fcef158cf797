/- Contracts of single functions, and plain lemmas, on which the exact laws of this seat rest; each holds under the conditions that it states. -/
import Derived.Test.YtnmnlbgialolhaaDoorGP
import Derived.Test.YtnmnlbgialolhaaDoorPb
import Derived.Test.YtnmnlbgialolhaaDoorRBd
namespace Go.Proofs.YtnmnlbgialolhaaDoor
set_option linter.unusedVariables false
set_option linter.unusedSimpArgs false
open Go.RowKit
attribute [local go_sem] Oper.semAt_some

def thOk (gs : List (List Int)) (lv : Int) : Bool := vG 99 gs && inB lv 0 100
def thP (gs : List (List Int)) (lv : Int) : List ByteArray := if thOk gs lv then mkPic (rowF gs 0).length gs.length (thF gs lv) else []
theorem thP_no {gs : List (List Int)} {lv : Int} (h : thOk gs lv = false) : thP gs lv = [] := by unfold thP; rw [h]; rfl
theorem thP_yes {gs : List (List Int)} {lv : Int} (h : thOk gs lv = true) : thP gs lv = mkPic (rowF gs 0).length gs.length (thF gs lv) := by unfold thP; rw [if_pos h]
theorem thP_len (gs : List (List Int)) (lv : Int) : (thP gs lv).length ≤ 16 := by
  cases h : thOk gs lv with
  | false => rw [thP_no h]; simp
  | true =>
    rw [thP_yes h, mkPic_len]
    unfold thOk at h
    exact (vg_of (Bool.and_eq_true_iff.1 h).1).n16

end Go.Proofs.YtnmnlbgialolhaaDoor

/- Contracts of single functions, and plain lemmas, on which the exact laws of this seat rest; each holds under the conditions that it states. -/
namespace Go.Proofs.YtnmnlbgialolhaaDoor
set_option linter.unusedVariables false
set_option linter.unusedSimpArgs false
open Go.RowKit
attribute [local go_sem] Oper.semAt_some

theorem news_one1 {W : World} {mb : Nat} {u0 : Value} (h : W.cell? ⟨mb, 0, none⟩ = some u0) : ∀ (j : Nat) (u : Value), [u0][j]? = some u → W.cell? ((⟨mb, 0, none⟩ : Addr).add j) = some u := fun j u hu => by
  rcases j with _ | j
  · simp at hu
    subst hu
    simpa [Addr.add] using h
  · simp at hu
/-- the table of places -/
def tbL : List Int := [0, 8, 2, 10, 12, 4, 14, 6, 3, 11, 1, 9, 15, 7, 13, 5]
def tbI (i : Nat) : Int := tbL.getD i 0
theorem tbI_bd (i : Nat) : 0 ≤ tbI i ∧ tbI i ≤ 15 := by
  by_cases h : i < 16
  · rcases (by omega : i = 0 ∨ i = 1 ∨ i = 2 ∨ i = 3 ∨ i = 4 ∨ i = 5 ∨ i = 6 ∨ i = 7 ∨ i = 8 ∨ i = 9 ∨ i = 10 ∨ i = 11 ∨ i = 12 ∨ i = 13 ∨ i = 14 ∨ i = 15) with rfl | rfl | rfl | rfl | rfl | rfl | rfl | rfl | rfl | rfl | rfl | rfl | rfl | rfl | rfl | rfl <;> decide
  · have : tbI i = 0 := by
      unfold tbI
      rw [List.getD_eq_getElem?_getD, List.getElem?_eq_none (by show 16 ≤ i; omega)]
      rfl
    omega
/-- is a pixel of the ordered halftone black -/
def odF (gs : List (List Int)) (y x : Nat) : Bool := decide (16 * gF gs y x + 8 < 100 * tbI (y % 4 * 4 + x % 4) + 50)
def odP (gs : List (List Int)) : List ByteArray := if vG 99 gs then mkPic (rowF gs 0).length gs.length (odF gs) else []
theorem odP_no {gs : List (List Int)} (h : vG 99 gs = false) : odP gs = [] := by unfold odP; rw [h]; rfl
theorem odP_yes {gs : List (List Int)} (h : vG 99 gs = true) : odP gs = mkPic (rowF gs 0).length gs.length (odF gs) := by unfold odP; rw [if_pos h]
theorem odP_len (gs : List (List Int)) : (odP gs).length ≤ 16 := by
  cases h : vG 99 gs with
  | false => rw [odP_no h]; simp
  | true => rw [odP_yes h, mkPic_len]; exact (vg_of h).n16
def tbCells : Array Value := #[.int .i64 0, .int .i64 8, .int .i64 2, .int .i64 10, .int .i64 12, .int .i64 4, .int .i64 14, .int .i64 6, .int .i64 3, .int .i64 11, .int .i64 1, .int .i64 9, .int .i64 15, .int .i64 7, .int .i64 13, .int .i64 5]
theorem tbCells_at (i : Nat) (h : i < 16) : tbCells[i]? = some (.int .i64 (tbI i)) := by
  rcases (by omega : i = 0 ∨ i = 1 ∨ i = 2 ∨ i = 3 ∨ i = 4 ∨ i = 5 ∨ i = 6 ∨ i = 7 ∨ i = 8 ∨ i = 9 ∨ i = 10 ∨ i = 11 ∨ i = 12 ∨ i = 13 ∨ i = 14 ∨ i = 15) with rfl | rfl | rfl | rfl | rfl | rfl | rfl | rfl | rfl | rfl | rfl | rfl | rfl | rfl | rfl | rfl <;> rfl

end Go.Proofs.YtnmnlbgialolhaaDoor
