/- Contracts of single functions, and plain lemmas, on which the exact laws of this seat rest; each holds under the conditions that it states. -/
import Derived.Test.YtnmnlbgialolhaaDoorR3
import Derived.Test.YtnmnlbgialolhaaDoorI1
import Derived.Test.YtnmnlbgialolhaaDoorS3
import Derived.Test.YtnmnlbgialolhaaDoorCa
import Derived.Test.YtnmnlbgialolhaaDoorS0
import Derived.Test.YtnmnlbgialolhaaDoorS2
namespace Go.Proofs.YtnmnlbgialolhaaDoor
set_option linter.unusedVariables false
set_option linter.unusedSimpArgs false
open Go.RowKit

/-- how many of the first k pixels of a quad are black -/
def cntQ (b0 b1 b2 b3 : Bool) : Nat → Nat
  | 0 => 0
  | 1 => b0.toNat
  | 2 => b0.toNat + b1.toNat
  | 3 => b0.toNat + b1.toNat + b2.toNat
  | _ => b0.toNat + b1.toNat + b2.toNat + b3.toNat
theorem cntQ_le (b0 b1 b2 b3 : Bool) (k : Nat) : cntQ b0 b1 b2 b3 k ≤ 4 := by
  have h0 := Bool.toNat_le b0
  have h1 := Bool.toNat_le b1
  have h2 := Bool.toNat_le b2
  have h3 := Bool.toNat_le b3
  unfold cntQ
  split <;> omega
/-- the kind of a quad: none, one, three, across -/
def kdN (b0 b1 b2 b3 : Bool) : Nat :=
  if cntQ b0 b1 b2 b3 4 = 1 then 1 else if cntQ b0 b1 b2 b3 4 = 3 then 2 else if cntQ b0 b1 b2 b3 4 = 2 ∧ b0 = b2 then 3 else 0
theorem kdN_le (b0 b1 b2 b3 : Bool) : kdN b0 b1 b2 b3 ≤ 3 := by
  unfold kdN
  split
  · omega
  · split
    · omega
    · split <;> omega
section
variable (b0 b1 b2 b3 : Bool) (w : World)
end

end Go.Proofs.YtnmnlbgialolhaaDoor

/- Contracts of single functions, and plain lemmas, on which the exact laws of this seat rest; each holds under the conditions that it states. -/
namespace Go.Proofs.YtnmnlbgialolhaaDoor
set_option linter.unusedVariables false
set_option linter.unusedSimpArgs false
open Go.RowKit

/-- the kind of the quad around a corner -/
def kdP (p : Int → Int → Bool) (x y : Int) : Nat := kdN (p x y) (p (x + -1) y) (p (x + -1) (y + -1)) (p x (y + -1))
/-- how many of the first t quads have a kind -/
def qc (p : Int → Int → Bool) (n j : Nat) : Nat → Nat
  | 0 => 0
  | t + 1 => qc p n j t + (if kdP p ((t % n : Nat) : Int) ((t / n : Nat) : Int) = j then 1 else 0)
theorem qc_le (p : Int → Int → Bool) (n j : Nat) : ∀ t, qc p n j t ≤ t
  | 0 => Nat.le_refl _
  | t + 1 => by have := qc_le p n j t; simp only [qc]; split <;> omega
theorem qc_snoc (p : Int → Int → Bool) (n j y x : Nat) (hx : x < n) : qc p n j (y * n + x + 1) = qc p n j (y * n + x) + (if kdP p (x : Int) (y : Int) = j then 1 else 0) := by
  have h1 : (y * n + x) / n = y := by rw [Nat.mul_comm, Nat.mul_add_div (by omega), Nat.div_eq_of_lt hx, Nat.add_zero]
  have h2 : (y * n + x) % n = x := by rw [Nat.mul_comm, Nat.mul_add_mod, Nat.mod_eq_of_lt hx]
  simp only [qc, h1, h2]
def qL (p : Int → Int → Bool) (n t : Nat) : List Int := [((qc p n 1 t : Nat) : Int), ((qc p n 2 t : Nat) : Int), ((qc p n 3 t : Nat) : Int)]
theorem qL_zero (p : Int → Int → Bool) (n : Nat) : qL p n 0 = [0, 0, 0] := rfl
theorem kdP_le (p : Int → Int → Bool) (x y : Int) : kdP p x y ≤ 3 := kdN_le _ _ _ _
theorem qL_none {p : Int → Int → Bool} {n y x : Nat} (hx : x < n) (h : kdP p (x : Int) (y : Int) = 0) : qL p n (y * n + x + 1) = qL p n (y * n + x) := by
  unfold qL
  rw [qc_snoc _ _ _ _ _ hx, qc_snoc _ _ _ _ _ hx, qc_snoc _ _ _ _ _ hx, h]
  simp
theorem qL_some {p : Int → Int → Bool} {n y x k : Nat} (hx : x < n) (hk : k < 3) (h : kdP p (x : Int) (y : Int) = k + 1) : numsV (qL p n (y * n + x + 1)) = (numsV (qL p n (y * n + x))).set k (.int .i64 (((qc p n (k + 1) (y * n + x) : Nat) : Int) + 1)) := by
  unfold qL
  rw [qc_snoc _ _ _ _ _ hx, qc_snoc _ _ _ _ _ hx, qc_snoc _ _ _ _ _ hx, h]
  rcases (by omega : k = 0 ∨ k = 1 ∨ k = 2) with rfl | rfl | rfl <;> simp [numsV]
theorem qL_at (p : Int → Int → Bool) (n t : Nat) {k : Nat} (hk : k < 3) : (numsV (qL p n t))[k]? = some (.int .i64 ((qc p n (k + 1) t : Nat) : Int)) := by
  rcases (by omega : k = 0 ∨ k = 1 ∨ k = 2) with rfl | rfl | rfl <;> rfl
theorem black_pix {ss : List ByteArray} (V : VP ss) (x y : Int) : blackB (row0 ss).size ss.length (wordsOf ss) x y = pixI ss x y := by
  unfold blackB pixI
  have e : hasB (row0 ss).size ss.length x y = insB (row0 ss).size ss.length x y := by
    unfold hasB insB inB
    rw [Bool.eq_iff_iff]
    simp
    omega
  rw [e]
  cases h : insB (row0 ss).size ss.length x y with
  | false => rfl
  | true =>
    unfold insB inB at h
    simp at h
    obtain ⟨⟨h1, h2⟩, h3, h4⟩ := h
    obtain ⟨i, rfl⟩ := Int.eq_ofNat_of_zero_le h1
    obtain ⟨j, rfl⟩ := Int.eq_ofNat_of_zero_le h3
    simp only [Bool.true_and, Int.toNat_natCast]
    exact words_at V j i (by omega) (by omega)
/-- the three numbers of a picture -/
def qcV (ss : List ByteArray) : List Int := if validB ss = true then qL (pixI ss) ((row0 ss).size + 1) ((ss.length + 1) * ((row0 ss).size + 1)) else []
theorem qcV_len (ss : List ByteArray) : (qcV ss).length ≤ 3 := by
  unfold qcV
  split <;> simp [qL]
end Go.Proofs.YtnmnlbgialolhaaDoor

/- Contracts of single functions, and plain lemmas, on which the exact laws of this seat rest; each holds under the conditions that it states. -/
namespace Go.Proofs.YtnmnlbgialolhaaDoor
set_option linter.unusedVariables false
set_option linter.unusedSimpArgs false
open Go.RowKit

/-- how many of the first k hold -/
def cntF (f : Nat → Bool) : Nat → Nat
  | 0 => 0
  | k + 1 => cntF f k + (if f k = true then 1 else 0)
theorem rgN_bit (f : Nat → Bool) : ∀ (k i : Nat), i < k → (rgN f k).testBit i = f i
  | 0, i, h => absurd h (Nat.not_lt_zero i)
  | k + 1, i, h => by
    have hlt := rgN_lt f k
    simp only [rgN]
    by_cases hk : i = k
    · subst hk
      cases hf : f i with
      | true => rw [if_pos rfl, Nat.add_comm, Nat.testBit_two_pow_add_eq, Nat.testBit_lt_two_pow hlt]; rfl
      | false => rw [if_neg (by decide), Nat.add_zero, Nat.testBit_lt_two_pow hlt]
    · have ih := rgN_bit f k i (by omega)
      split
      · rw [Nat.add_comm, Nat.testBit_two_pow_add_gt (by omega), ih]
      · rw [Nat.add_zero, ih]
theorem bs_rgN (f : Nat → Bool) (n : Nat) : ∀ k, k ≤ n → bs (rgN f n) k = cntF f k
  | 0, _ => rfl
  | k + 1, h => by rw [bs_succ, bs_rgN f n k (by omega), rgN_bit f n k (by omega)]; rfl

end Go.Proofs.YtnmnlbgialolhaaDoor

/- Contracts of single functions, and plain lemmas, on which the exact laws of this seat rest; each holds under the conditions that it states. -/
namespace Go.Proofs.YtnmnlbgialolhaaDoor
set_option linter.unusedVariables false
set_option linter.unusedSimpArgs false
open Go.RowKit Go.Shelf
attribute [local go_sem] Oper.semAt_some

/-- a block of cells that stays -/
def Blk (W : World) (g : Nat) (C : Array Value) (t : TypeId) : Prop := W.heap[g]? = some (.cells C t (0, 0))
theorem Blk.lt {W : World} {g : Nat} {C : Array Value} {t : TypeId} (h : Blk W g C t) : g < W.heap.size := (Array.getElem?_eq_some_iff.1 h).1
theorem Blk.below {W W' : World} {g : Nat} {C : Array Value} {t : TypeId} (h : Blk W g C t) (hb : Below W.heap.size W W') : Blk W' g C t := (hb.block g h.lt).trans h
theorem Blk.own {β : Type} (g : Nat) (C : Array Value) (t : TypeId) : Own (fun (_ : β) W => Blk W g C t) := fun s X Y row hs hg hrow =>
  (hg.block g hs.lt (fun e' => by obtain ⟨o, ho, hc⟩ := hrow g e'.symm; rw [show X.heap[g]? = _ from hs] at ho; cases ho; cases hc)).trans hs
theorem BlkG.own {β : Type} (g : Nat) (C : β → Array Value) (t : TypeId) : Own (fun (x : β) W => Blk W g (C x) t) := fun s X Y row hs hg hrow =>
  Blk.own (β := Unit) g (C s) t () X Y row hs hg hrow
theorem Blk.grown {W W' : World} {g base n s : Nat} {C : Array Value} {t e : TypeId} {v : Value} {xs : List Value} (h : Blk W g C t) (ho : W.ownsRow base e s v n xs) (he : t ≠ e) (hg : W.grownBy W' v.ownBlock) : Blk W' g C t :=
  var_far h ho he hg
theorem Blk.set {W : World} {g : Nat} {C : Array Value} {t : TypeId} (h : Blk W g C t) {B : Nat} (hne : g ≠ B) (u : Value) : Blk (W.setCell ⟨B, 0, none⟩ u) g C t := (Below.heap_setCell _ _ _ _ hne).trans h
theorem Blk.alloc {W : World} {g : Nat} {C : Array Value} {t : TypeId} (h : Blk W g C t) (o : Obj) : Blk (W.alloc o) g C t := (Below.heap_alloc _ _ _ h.lt).trans h

abbrev InPic (q : Int × Int) : Prop := (0 ≤ q.1 ∧ q.1 ≤ 16) ∧ (0 ≤ q.2 ∧ q.2 ≤ 16)
def picGrid (a b : Nat) (ha : 0 < a ∧ a ≤ 16) (hb : 0 < b ∧ b ≤ 16) : Grid InPic := ⟨a, b, 0, ha.1, hb.1, fun x y hx hy => by show (0 ≤ (x : Int) - ((0 : Nat) : Int) ∧ (x : Int) - ((0 : Nat) : Int) ≤ 16) ∧ (0 ≤ (y : Int) - ((0 : Nat) : Int) ∧ (y : Int) - ((0 : Nat) : Int) ≤ 16); omega⟩
/-- the ends of lines among spots that have come -/
def selE (p : Int → Int → Bool) (pre : List { q : Int × Int // InPic q }) : List (Int × Int) := (pre.filter fun q => p q.1.1 q.1.2 && decide (cntF (rgV p q.1.1 q.1.2) 8 = 1)).map (·.1)
theorem selE_snoc (p : Int → Int → Bool) (pre : List { q : Int × Int // InPic q }) (x : { q : Int × Int // InPic q }) : selE p (pre ++ [x]) = selE p pre ++ (if (p x.1.1 x.1.2 && decide (cntF (rgV p x.1.1 x.1.2) 8 = 1)) = true then [(x.1.1, x.1.2)] else []) := by
  unfold selE
  rw [List.filter_append, List.map_append]
  congr 1
  by_cases h : (p x.1.1 x.1.2 && decide (cntF (rgV p x.1.1 x.1.2) 8 = 1)) = true
  · rw [if_pos h]; simp [List.filter, h]
  · rw [if_neg h]; simp only [Bool.not_eq_true] at h; simp [List.filter, h]
theorem selE_len (p : Int → Int → Bool) (pre : List { q : Int × Int // InPic q }) : (selE p pre).length ≤ pre.length := by
  unfold selE
  rw [List.length_map]
  exact List.length_filter_le _ _

/-- what comes of all spots -/
theorem selE_range (p : Int → Int → Bool) (a b : Nat) (ha : 0 < a ∧ a ≤ 16) (hb : 0 < b ∧ b ≤ 16) (f : Nat → Nat → Bool) (hf : ∀ x y : Nat, x < a → y < b → p (x : Int) (y : Int) = f y x) :
    ∀ t, t ≤ a * b → selE p ((picGrid a b ha hb).list t) = ((List.range t).filterMap fun i => if f (i / a) (i % a) then some (((i % a : Nat) : Int), ((i / a : Nat) : Int)) else none).filter fun q => decide (cntF (rgV p q.1 q.2) 8 = 1)
  | 0, _ => rfl
  | t + 1, h => by
    have h1 : t % a < a := Nat.mod_lt _ ha.1
    have h2 : t / a < b := Nat.div_lt_of_lt_mul (by omega)
    have e : ((picGrid a b ha hb).at t).1 = (((t % a : Nat) : Int), ((t / a : Nat) : Int)) := by
      show ((((t % a : Nat) : Int) - ((0 : Nat) : Int)), (((t / a % b : Nat) : Int) - ((0 : Nat) : Int))) = _
      rw [Nat.mod_eq_of_lt h2]
      simp
    rw [Grid.list_snoc, selE_snoc, selE_range p a b ha hb f hf t (by omega), List.range_succ, List.filterMap_append, List.filter_append]
    congr 1
    rw [e]
    simp only [hf _ _ h1 h2]
    clear e
    simp only [List.filterMap_cons, List.filterMap_nil]
    generalize ((t % a : Nat) : Int) = X
    generalize ((t / a : Nat) : Int) = Y
    cases hft : f (t / a) (t % a) with
    | false => simp
    | true =>
      by_cases hc : cntF (rgV p X Y) 8 = 1
      · simp [hc, List.filter]
      · simp [hc, List.filter]
end Go.Proofs.YtnmnlbgialolhaaDoor
