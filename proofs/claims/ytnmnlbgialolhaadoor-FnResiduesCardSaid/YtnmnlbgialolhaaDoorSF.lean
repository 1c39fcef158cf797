/- Contracts of single functions, and plain lemmas, on which the exact laws of this seat rest; each holds under the conditions that it states. -/
import Derived.Test.YtnmnlbgialolhaaDoorPb
import Derived.Test.YtnmnlbgialolhaaDoorSD
import Derived.Test.YtnmnlbgialolhaaDoorSz
import Derived.Test.YtnmnlbgialolhaaDoorMo
import Derived.Test.YtnmnlbgialolhaaDoorIs
import Derived.Test.YtnmnlbgialolhaaDoorLi
import Derived.Test.YtnmnlbgialolhaaDoorCc
namespace Go.Proofs.YtnmnlbgialolhaaDoor
set_option linter.unusedVariables false
set_option linter.unusedSimpArgs false
open Go.RowKit

/-! ### a picture that is made of a function -/
theorem rowOf_size (f : Nat → Bool) (n : Nat) : (rowOf f n).size = n := by simp [rowOf, ByteArray.size, mkRow]
theorem rowOf_get (f : Nat → Bool) (n x : Nat) (h : x < (rowOf f n).size) : (rowOf f n)[x]'h = if f x = true then 35 else 46 := by
  have hx : x < n := by rwa [rowOf_size] at h
  have : (rowOf f n)[x]'h = (mkRow f n)[x]'(by rw [mkRow_len]; exact hx) := by
    simp [rowOf, ByteArray.getElem_eq_getElem_data]
  rw [this]
  simp [mkRow]
theorem mkPic_getD (wd h : Nat) (f : Nat → Nat → Bool) {y : Nat} (hy : y < h) : (mkPic wd h f).getD y ByteArray.empty = rowOf (f y) wd := by
  simp [mkPic, List.getD, hy]
theorem mkPic_row0 (wd h : Nat) (f : Nat → Nat → Bool) (hh : 1 ≤ h) : (row0 (mkPic wd h f)).size = wd := by
  show ((mkPic wd h f).getD 0 ByteArray.empty).size = wd
  rw [mkPic_getD wd h f (by omega), rowOf_size]
theorem mkPic_pix (wd h : Nat) (f : Nat → Nat → Bool) {y x : Nat} (hy : y < h) (hx : x < wd) : pixF (mkPic wd h f) y x = f y x := by
  unfold pixF
  rw [mkPic_getD wd h f hy, blackAt_eq _ _ (by rw [rowOf_size]; exact hx), rowOf_get]
  cases f y x <;> rfl
theorem mkPic_valid (wd h : Nat) (f : Nat → Nat → Bool) (hw : 1 ≤ wd ∧ wd ≤ 16) (hh : 1 ≤ h ∧ h ≤ 16) : validB (mkPic wd h f) = true := by
  unfold validB
  simp only [Bool.and_eq_true, decide_eq_true_eq, mkPic_len, mkPic_row0 wd h f hh.1]
  refine ⟨⟨⟨⟨hh.1, hh.2⟩, hw.1⟩, hw.2⟩, ?_⟩
  rw [List.all_eq_true]
  intro s hs
  obtain ⟨y, hy, rfl⟩ := List.mem_iff_getElem.1 hs
  rw [mkPic_len] at hy
  have e : (mkPic wd h f)[y] = rowOf (f y) wd := by simp [mkPic]
  rw [e]
  unfold rowB
  simp only [Bool.and_eq_true, decide_eq_true_eq]
  refine ⟨rowOf_size _ _, ?_⟩
  rw [List.all_eq_true]
  intro c hc
  have hc' : c ∈ mkRow (f y) wd := by simpa [rowOf] using hc
  obtain ⟨x, hx, rfl⟩ := List.mem_iff_getElem.1 hc'
  simp only [mkRow, List.getElem_map, List.getElem_range]
  cases f y x <;> decide
end Go.Proofs.YtnmnlbgialolhaaDoor

/- Contracts of single functions, and plain lemmas, on which the exact laws of this seat rest; each holds under the conditions that it states. -/
namespace Go.Proofs.YtnmnlbgialolhaaDoor
set_option linter.unusedVariables false
set_option linter.unusedSimpArgs false
open Go.RowKit
attribute [local go_sem] Oper.semAt_some

/-- a fresh picture of some size that was drawn -/
def SomePic (a b : Nat) (w : World) (e : Ending) (w' : World) : Prop :=
  ∃ (f : Nat → Nat → Bool) (g cap : Nat), e = .returned (.agg #[.slice (some ⟨g, 0, none⟩) b cap]) ∧ OwnP w' w.heap.size (.slice (some ⟨g, 0, none⟩) b cap) (mkPic a b f) ∧ Below w.heap.size w w'

end Go.Proofs.YtnmnlbgialolhaaDoor

/- Contracts of single functions, and plain lemmas, on which the exact laws of this seat rest; each holds under the conditions that it states. -/
namespace Go.Proofs.YtnmnlbgialolhaaDoor
set_option linter.unusedVariables false
set_option linter.unusedSimpArgs false
open Go.RowKit
attribute [local go_sem] Oper.semAt_some

/-! ### what the laws of drawn pictures share -/
/-- a picture in a variable -/
structure PV (W : World) (b : Nat) (v : Value) (ss : List ByteArray) : Prop where
  c : W.heap[b]? = some (.cells #[v] 26 (0, 0))
  sl : Sl W v ss
theorem PV.below {W W' : World} {b : Nat} {v : Value} {ss : List ByteArray} (h : PV W b v ss) (hb : Below W.heap.size W W') : PV W' b v ss :=
  ⟨(hb.block b (Array.getElem?_eq_some_iff.1 h.c).1).trans h.c, h.sl.below hb⟩
theorem PV.alloc {W : World} {b : Nat} {v : Value} {ss : List ByteArray} (h : PV W b v ss) (o : Obj) : PV (W.alloc o) b v ss := h.below (Joins.below_alloc1 W o)
theorem PV.cell {W : World} {b : Nat} {v : Value} {ss : List ByteArray} (h : PV W b v ss) : W.cell? ⟨b, 0, none⟩ = some v := cell_of_one h.c
theorem PV.new {W : World} {v : Value} {ss : List ByteArray} (h : Sl W v ss) : PV (W.alloc (.cells #[v] 26)) W.heap.size v ss :=
  ⟨heap_alloc_last W _, h.below (Joins.below_alloc1 W _)⟩

theorem Sl.row {W : World} {g n cap : Nat} {ss : List ByteArray} (h : Sl W (.slice (some ⟨g, 0, none⟩) n cap) ss) (i : Nat) (hi : i < ss.length) : W.cell? ⟨g, i, none⟩ = some (.string (ss.getD i ByteArray.empty)) := by
  rcases h with ⟨_, _, _, rfl⟩ | ⟨b, off, c, e, h1, h2, h3⟩
  · cases hi
  · injection e with e1 e2 e3
    injection e1 with e1
    injection e1 with e4 e5
    subst e4
    subst e5
    have := h3 i hi
    rwa [Nat.zero_add] at this
theorem Sl.len {W : World} {ao : Option Addr} {n cap : Nat} {ss : List ByteArray} (h : Sl W (.slice ao n cap) ss) : n = ss.length := by
  rcases h with ⟨_, _, e, rfl⟩ | ⟨b, off, c, e, _⟩
  · injection e with _ e2 _
  · injection e with _ e2 _

/-- the number that a byte, or an index behind the bytes, chooses -/
def b10F (ns : List Nat) (k n : Nat) : Nat := if n ≤ 1 then 0 else if k < ns.length then ns.getD k 0 % n else (k * 37 + 11) % n
theorem b10F_lt (ns : List Nat) (k n : Nat) (hn : 1 ≤ n) : b10F ns k n < n := by
  unfold b10F
  split
  · omega
  · split <;> exact Nat.mod_lt _ (by omega)
/-! ### plain facts -/
theorem pixI_mk {a b : Nat} {f : Nat → Nat → Bool} {x y : Nat} (hx : x < a) (hy : y < b) : pixI (mkPic a b f) (x : Int) (y : Int) = f y x := by
  have h1 : (row0 (mkPic a b f)).size = a := mkPic_row0 _ _ _ (by omega)
  have h2 : (mkPic a b f).length = b := mkPic_len _ _ _
  have h3 := mkPic_pix a b f hy hx
  unfold pixI
  rw [h1, h2]
  have h4 : insB a b (x : Int) (y : Int) = true := by
    unfold insB inB
    simp only [Bool.and_eq_true, decide_eq_true_eq]
    omega
  rw [h4, Bool.true_and, Int.toNat_natCast, Int.toNat_natCast]
  exact h3
theorem bs_none {W : Nat} : ∀ k, bs W k = 0 ↔ ∀ x, x < k → W.testBit x = false
  | 0 => ⟨fun _ x hx => by omega, fun _ => rfl⟩
  | k + 1 => by
    have ih := bs_none (W := W) k
    have hs : bs W (k + 1) = bs W k + (if W.testBit k = true then 1 else 0) := rfl
    rw [hs]
    constructor
    · intro h x hx
      have h1 : bs W k = 0 := by omega
      by_cases e : x < k
      · exact (ih.1 h1) x e
      · obtain rfl : x = k := by omega
        cases hb : W.testBit x with
        | false => rfl
        | true => rw [hb] at h; simp at h
    · intro h
      rw [ih.2 (fun x hx => h x (by omega)), h k (by omega)]
      rfl
theorem rs_none {g : Nat → Nat} : ∀ n, rs g n = 0 ↔ ∀ y, y < n → bs (g y) 16 = 0
  | 0 => ⟨fun _ y hy => by omega, fun _ => rfl⟩
  | n + 1 => by
    rw [rs_succ]
    constructor
    · intro h y hy
      by_cases e : y < n
      · exact ((rs_none n).1 (by omega)) y e
      · obtain rfl : y = n := by omega
        omega
    · intro h
      rw [(rs_none n).2 (fun y hy => h y (by omega)), h n (by omega)]
theorem count_zero {ss : List ByteArray} (hok : validB ss = true) : cbV ss = 0 ↔ ∀ y, y < ss.length → ∀ x, x < (row0 ss).size → pixF ss y x = false := by
  have V := vp_of hok
  unfold cbV
  rw [if_pos hok]
  have e : (((rs (wordsOf ss) ss.length : Nat) : Int) = 0) ↔ rs (wordsOf ss) ss.length = 0 := by omega
  rw [e, rs_none]
  constructor
  · intro h y hy x hx
    have h1 := (bs_none 16).1 (h y hy) x (by have := V.w16; omega)
    rwa [words_at V y x hy hx] at h1
  · intro h y hy
    refine (bs_none 16).2 fun x hx => ?_
    by_cases e : x < (row0 ss).size
    · rw [words_at V y x hy e]; exact h y hy x e
    · have h1 := words_lt_pow V y
      have h2 : 2 ^ (row0 ss).size ≤ 2 ^ x := Nat.pow_le_pow_right (by omega) (by omega)
      exact Nat.testBit_lt_two_pow (by omega)
theorem inside_iff {ss tt : List ByteArray} (h : likeB ss tt = true) : insideP ss tt = true ↔ ∀ y, y < ss.length → ∀ x, x < (row0 ss).size → pixF ss y x = true → pixF tt y x = true := by
  unfold insideP
  rw [h, Bool.true_and]
  constructor
  · intro hs y hy x hx hp
    cases hq : pixF tt y x with
    | true => rfl
    | false =>
      have h3 : (y + 1) * (row0 ss).size ≤ ss.length * (row0 ss).size := Nat.mul_le_mul_right _ hy
      rw [Nat.add_mul, Nat.one_mul, Nat.mul_comm ss.length] at h3
      have := subB_no (xs := pixL ss (row0 ss).size ((row0 ss).size * ss.length)) (ys := pixL tt (row0 ss).size ((row0 ss).size * ss.length)) (i := y * (row0 ss).size + x) (by rw [pixL_len]; omega) (by rw [pixL_at ss _ _ y x hy hx]; exact hp) (by rw [pixL_at tt _ _ y x hy hx]; exact hq)
      rw [this] at hs
      cases hs
  · intro hs
    unfold subB
    rw [List.all_eq_true]
    intro i hi
    rw [pixL_len, List.mem_range] at hi
    have hw : 0 < (row0 ss).size := by
      rcases Nat.eq_zero_or_pos (row0 ss).size with e | e
      · rw [e, Nat.zero_mul] at hi; omega
      · exact e
    have hy : i / (row0 ss).size < ss.length := Nat.div_lt_of_lt_mul hi
    have hx : i % (row0 ss).size < (row0 ss).size := Nat.mod_lt _ hw
    have e : i = i / (row0 ss).size * (row0 ss).size + i % (row0 ss).size := by rw [Nat.mul_comm]; exact (Nat.div_add_mod i _).symm
    rw [e, pixL_at ss _ _ _ _ hy hx, pixL_at tt _ _ _ _ hy hx]
    have := hs _ hy _ hx
    cases hp : pixF ss (i / (row0 ss).size) (i % (row0 ss).size) with
    | false => rfl
    | true => rw [this hp]; rfl
end Go.Proofs.YtnmnlbgialolhaaDoor
