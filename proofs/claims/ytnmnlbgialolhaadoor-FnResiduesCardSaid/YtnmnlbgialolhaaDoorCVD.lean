/- Contracts of single functions, and plain lemmas, on which the exact laws of this seat rest; each holds under the conditions that it states. -/
import Derived.Test.YtnmnlbgialolhaaDoorCVB
import Derived.Test.YtnmnlbgialolhaaDoorRSb
import Derived.Test.YtnmnlbgialolhaaDoorRJ
import Derived.Test.YtnmnlbgialolhaaDoorS5
import Derived.Test.YtnmnlbgialolhaaDoorDF
namespace Go.Proofs.YtnmnlbgialolhaaDoor
set_option linter.unusedVariables false
set_option linter.unusedSimpArgs false
open Go.RowKit Go.Shelf
attribute [local go_sem] Oper.semAt_some

/-! ### a row is made, inside a fence -/
theorem wpListIn_make_full {F : Fence} {q : Nat} {P : Program} (w : World) {ops : Array Oper} {rest : List Oper} {o : Oper} {a : Act} {Q : Exit → Act → World → Prop}
    (hg : o.guard = none) (l c : Operand) (t : TypeId) (hop : o.op = Op.makeSlice t l c)
    (base : Nat) (e : TypeId) (i : TypeInfo) (z : Value) (size : Nat) (h1 : P.underlying t = some (.slice e)) (h2 : P.info? e = some i) (h3 : i.zero = some z) (h4 : i.size = size)
    (kl kc : IntKind) (L C : Int) (n : Nat) (hl : a.eval l = .int kl L) (hc : a.eval c = .int kc C) (hL : L = (n : Int)) (hC : C = (n : Int)) (b2 : i.bytes * n ≤ 281474976710656) (b3 : n ≤ maxLen) (b4 : base ≤ w.heap.size)
    (hK : ∀ w', w'.ownsRow base e size (.slice (some ⟨w.heap.size, 0, none⟩) n n) n (madeCells z.cells (n * size)).toList → w.grownBy w' none → wpListIn F q P ops Q rest (a.put o.dst (.slice (some ⟨w.heap.size, 0, none⟩) n n)) w') :
    wpListIn F q P ops Q (o :: rest) a w := by
  refine wpListIn_plain hg fun K hK' => ?_
  obtain ⟨w', hrun, r1, r2⟩ := run_make_full (P := P) w base t e i z size h1 h2 h3 h4 kl kc n b2 b3 b4
  subst hL
  subst hC
  refine ⟨fun f hf => by simp [Oper.about, hop] at hf, ?_⟩
  rw [semAt_plain F.round a.eval (by intro c; rw [hop]; simp)]
  simp [execOp, hop, hl, hc, hrun, Result.andThen]
  exact hK' _ _ (hK w' r1 r2)

theorem len_wrap {n : Nat} (hn : n ≤ 4) : wrap64 (2 ^ (2 * n)) = ((2 ^ n * 2 ^ n : Nat) : Int) := by
  rcases (by omega : n = 0 ∨ n = 1 ∨ n = 2 ∨ n = 3 ∨ n = 4) with rfl | rfl | rfl | rfl | rfl <;> decide +kernel
/-! ### the spots stored so far -/
def sF (c n : Nat) {P : Int × Int → Prop} (pre : List { q : Int × Int // P q }) : List (Int × Int) := pre.foldl (fun L q => L.set (ixS c n q.1.1.toNat q.1.2.toNat).toNat q.1) (List.replicate (2 ^ n * 2 ^ n) (0, 0))
theorem sF_snoc (c n : Nat) {P : Int × Int → Prop} (pre : List { q : Int × Int // P q }) (xe : { q : Int × Int // P q }) : sF c n (pre ++ [xe]) = (sF c n pre).set (ixS c n xe.1.1.toNat xe.1.2.toNat).toNat xe.1 := by
  unfold sF
  rw [List.foldl_append]
  rfl
theorem sF_len (c n : Nat) {P : Int × Int → Prop} (pre : List { q : Int × Int // P q }) : (sF c n pre).length = 2 ^ n * 2 ^ n := by
  have : ∀ (pre : List { q : Int × Int // P q }) (L : List (Int × Int)), (pre.foldl (fun L q => L.set (ixS c n q.1.1.toNat q.1.2.toNat).toNat q.1) L).length = L.length := by
    intro pre
    induction pre with
    | nil => intro L; rfl
    | cons a t ih => intro L; rw [List.foldl_cons, ih, List.length_set]
  unfold sF
  rw [this, List.length_replicate]
theorem sF_grid (c n : Nat) (h1 : 1 ≤ 2 ^ n) : ∀ k, k ≤ 2 ^ n * 2 ^ n → sF c n ((gGrid (2 ^ n) (2 ^ n) h1 h1).list k) = cvL c n k
  | 0, _ => rfl
  | k + 1, hk => by
    have e : (gGrid (2 ^ n) (2 ^ n) h1 h1).list (k + 1) = (gGrid (2 ^ n) (2 ^ n) h1 h1).list k ++ [(gGrid (2 ^ n) (2 ^ n) h1 h1).at k] := by
      unfold Grid.list
      rw [List.range_succ, List.map_append]
      rfl
    rw [e, sF_snoc, sF_grid c n h1 k (by omega)]
    have d : k / 2 ^ n < 2 ^ n := Nat.div_lt_of_lt_mul (by omega)
    have hx : ((gGrid (2 ^ n) (2 ^ n) h1 h1).at k).1 = (((k % 2 ^ n : Nat) : Int), ((k / 2 ^ n : Nat) : Int)) := by
      refine Prod.ext ?_ ?_
      · show ((k % 2 ^ n : Nat) : Int) - ((0 : Nat) : Int) = _
        simp
      · show ((k / 2 ^ n % 2 ^ n : Nat) : Int) - ((0 : Nat) : Int) = _
        rw [Nat.mod_eq_of_lt d]
        simp
    rw [hx]
    rfl
theorem ownS_from {β : Type} (lo B rb N : Nat) (f : β → List Value) (hrb : rb < B) : OwnFrom B (fun (s : β) W => W.ownsRow lo 93 2 (.slice (some ⟨rb, 0, none⟩) N N) N (f s)) := fun s W W' row h hg hr => own_keep h fun k e => by
  have hk : k = rb := by
    simp [Value.ownBlock] at e
    omega
  subst hk
  exact hg.block k (h.lt k rfl).2 (fun e2 => by have := (hr k e2.symm).1; omega)

end Go.Proofs.YtnmnlbgialolhaaDoor

/- Contracts of single functions, and plain lemmas, on which the exact laws of this seat rest; each holds under the conditions that it states. -/
namespace Go.Proofs.YtnmnlbgialolhaaDoor
set_option linter.unusedVariables false
set_option linter.unusedSimpArgs false
open Go.RowKit
attribute [local go_sem] Oper.semAt_some

def saOk (c n i : Int) : Bool := (inB c 0 3 && inB n 0 4) && inB i 0 (sd n * sd n - 1)
def saV (c n i : Int) : Int × Int := if saOk c n i = true then (cvF c.toNat n.toNat).getD i.toNat (0, 0) else (0, 0)
/-- what is known of a curve and an order -/
theorem tour_nat {c n : Int} (h : (inB c 0 3 && inB n 0 4) = true) : ∃ c' n' : Nat, c = c' ∧ n = n' ∧ c' < 4 ∧ n' ≤ 4 := by
  simp only [Bool.and_eq_true] at h
  have h1 := inB_le h.1
  have h2 := inB_le h.2
  exact ⟨c.toNat, n.toNat, by omega, by omega, by omega, by omega⟩
theorem sd_mul {n : Int} (h0 : 0 ≤ n) (h4 : n ≤ 4) : IntKind.i64.wrap (sd n * sd n) = sd n * sd n ∧ 1 ≤ sd n * sd n ∧ sd n * sd n ≤ 256 := by
  have : n = 0 ∨ n = 1 ∨ n = 2 ∨ n = 3 ∨ n = 4 := by omega
  rcases this with rfl | rfl | rfl | rfl | rfl <;> decide +kernel
theorem sd_sq (n : Nat) : sd (n : Int) * sd (n : Int) = ((2 ^ n * 2 ^ n : Nat) : Int) := by
  rw [sd_nat]; push_cast; rfl

end Go.Proofs.YtnmnlbgialolhaaDoor
