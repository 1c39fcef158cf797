/- Contracts of single functions, and plain lemmas, on which the exact laws of this seat rest; each holds under the conditions that it states. -/
import Derived.Test.YtnmnlbgialolhaaDoorR1
import Derived.Test.YtnmnlbgialolhaaDoorRSd
import Derived.Test.YtnmnlbgialolhaaDoorRSa
import Derived.Test.YtnmnlbgialolhaaDoorR3
import Derived.Test.YtnmnlbgialolhaaDoorSF
namespace Go.Proofs.YtnmnlbgialolhaaDoor
set_option linter.unusedVariables false
set_option linter.unusedSimpArgs false
open Go.RowKit

theorem catchPi_panicking (pb qb : Nat) (u0 b0 : Value) (t1 t2 : TypeId) (u : TypeId) (pv : Value) (older : List PanicEntry) (w : World) (h1 : w.heap[pb]? = some (.cells #[u0] t1 (0, 0))) (h2 : w.heap[qb]? = some (.cells #[b0] t2 (0, 0))) (hne : pb ≠ qb) :
    CallsD Tryd.prog 87 #[.pointer (some ⟨pb, 0, none⟩), .pointer (some ⟨qb, 0, none⟩)] (.panicking ({ v := .iface u pv, recovered := false } :: older)) w fun e u' w' =>
      e = .returned (.tuple #[]) ∧ u' = .panicking ({ v := .iface u pv, recovered := true } :: older) ∧ w' = ((w.alloc (.cells #[.slice none 0 0] 26)).setCell ⟨pb, 0, none⟩ (.slice none 0 0)).setCell ⟨qb, 0, none⟩ (.bool false) := by
  have hA1 : (w.alloc (.cells #[.slice none 0 0] 26)).heap[pb]? = some (.cells #[u0] t1 (0, 0)) := (Below.heap_alloc _ _ _ (Array.getElem?_eq_some_iff.1 h1).1).trans h1
  have hA2 : (w.alloc (.cells #[.slice none 0 0] 26)).heap[qb]? = some (.cells #[b0] t2 (0, 0)) := (Below.heap_alloc _ _ _ (Array.getElem?_eq_some_iff.1 h2).1).trans h2
  have hc := cell_of_one hA1
  have hz := free_of_one hA1
  have hA3 : ((w.alloc (.cells #[.slice none 0 0] 26)).setCell ⟨pb, 0, none⟩ (.slice none 0 0)).heap[qb]? = some (.cells #[b0] t2 (0, 0)) := (Below.heap_setCell _ _ _ _ (by simp; first | exact hne | exact fun e => hne e.symm)).trans hA2
  have hd2 := cell_of_one hA3
  have hf2 := free_of_one hA3
  refine callsD_of_wpS Tryd.func87 rfl fun c₀ cs hu => ?_
  apply wpS_seq
  apply wpS_region
  simp [wpOpsS, go_sem, recoverD, hu, Tryd.ntmps87, Exit.thenS]
  refine wpS_cond (t := true) (by simp [Act.eval, Array.replicate]) ?_
  simp only [if_true]
  apply wpS_seq
  apply wpS_region
  simp [wpOpsS, go_sem, Exit.thenS]
  apply wpS_region
  simp [wpOpsS, go_sem, hc, hz, hd2, hf2, bodyPostS, results, Tryd.results87]

theorem catchPi_idle (p q : Addr) (w : World) :
    CallsD Tryd.prog 87 #[.pointer (some p), .pointer (some q)] .returning w fun e u' w' => e = .returned (.tuple #[]) ∧ u' = .returning ∧ w' = w := by
  refine callsD_of_wpS Tryd.func87 rfl fun c₀ cs hu => ?_
  apply wpS_seq
  apply wpS_region
  simp [wpOpsS, go_sem, recoverD, hu, Tryd.ntmps87, Exit.thenS]
  refine wpS_cond (t := false) (by simp [Act.eval, Array.replicate]) ?_
  simp only [Bool.false_eq_true, if_false]
  refine wpS_of_wp (wp_skip ?_)
  cases c₀
  simp_all [bodyPostS, results, Tryd.results87]

/-- the work yields -/
theorem attemptPi_yes (K : Nat) (caps : Array Value) (w : World) (Q : Value → World → World → Prop) (hcf : ∀ args (W : World), (callFunc K args).run Tryd.prog W = .ok (.enter K args) W) (hw : ∀ W, Below w.heap.size w W → Calls Tryd.prog K caps W (fun e w' => ∃ (ao : Option Addr) (n cap : Nat), e = .returned (.agg #[.slice ao n cap]) ∧ Q (.agg #[.slice ao n cap]) W w' ∧ Below W.heap.size W w')) :
    Calls Tryd.prog 40 #[.func (.func K) #[] caps] w fun e w' => ∃ (ao : Option Addr) (n cap : Nat) (w1 : World), e = .returned (.tuple #[.agg #[.slice ao n cap], .bool true]) ∧ Q (.agg #[.slice ao n cap]) ((w.alloc (.cells #[.slice none 0 0] 26)).alloc (.cells #[.bool false] 4)) w1 ∧ Below w.heap.size w w1 ∧ w' = (w1.setCell ⟨w.heap.size, 0, none⟩ (.slice ao n cap)).setCell ⟨w.heap.size + 1, 0, none⟩ (.bool true) ∧ w1.heap[w.heap.size]? = some (.cells #[.slice none 0 0] 26 (0, 0)) ∧ w1.heap[w.heap.size + 1]? = some (.cells #[.bool false] 4 (0, 0)) := by
  have hmf : ∀ (fn : Fn) (first cap : Array Value) (w : World), (Instr.makeFunc fn first cap).run Tryd.prog w = .ok (.func fn first cap) w := fun _ _ _ _ => rfl
  have hb0 := Joins.below_alloc2 w (.cells #[.slice none 0 0] 26) (.cells #[.bool false] 4)
  have CW := Lib.hid (hw _ hb0)
  have h1 : ((w.alloc (.cells #[.slice none 0 0] 26)).alloc (.cells #[.bool false] 4)).heap[w.heap.size]? = some (.cells #[.slice none 0 0] 26 (0, 0)) := by
    rw [Below.heap_alloc _ _ _ (by simp)]; exact heap_alloc_last w _
  have h2 : ((w.alloc (.cells #[.slice none 0 0] 26)).alloc (.cells #[.bool false] 4)).heap[w.heap.size + 1]? = some (.cells #[.bool false] 4 (0, 0)) := heap_alloc2_new _ _ _
  have H1 := Lib.hid h1
  have H2 := Lib.hid h2
  have B0 := Lib.hid hb0
  clear h1 h2 hb0 hw
  go_enter_defers Tryd.func40, Tryd.ntmps40
  go_wp2_with fail
  refine CW.out.mono ?_
  rintro e w1 ⟨ao, n, cap, rfl, hQ, hb⟩
  have r1 := (hb.block w.heap.size (by simp; omega)).trans H1.out
  have r2 := (hb.block (w.heap.size + 1) (by simp)).trans H2.out
  have c1 := cell_of_one r1
  have c2 := cell_of_one r2
  have f1 := free_of_one r1
  have f2 := free_of_one r2
  have HQ := Lib.hid hQ
  have HB := Lib.hid hb
  have R1 := Lib.hid r1
  have R2 := Lib.hid r2
  clear hQ hb r1 r2
  go_wp2_with fail
  have x1 : ((w1.setCell ⟨w.heap.size, 0, none⟩ (.slice ao n cap)).setCell ⟨w.heap.size + 1, 0, none⟩ (.bool true)).cell? ⟨w.heap.size, 0, none⟩ = some (.slice ao n cap) := by
    rw [World.cell?_setCell_other _ _ _ _ (by intro e; have := congrArg Addr.block e; simp at this)]
    exact cell_of_one (one_setCell R1.out)
  have r3 : (w1.setCell ⟨w.heap.size, 0, none⟩ (.slice ao n cap)).heap[w.heap.size + 1]? = some (.cells #[.bool false] 4 (0, 0)) := (Below.heap_setCell _ _ _ _ (by simp)).trans R2.out
  have x2 : ((w1.setCell ⟨w.heap.size, 0, none⟩ (.slice ao n cap)).setCell ⟨w.heap.size + 1, 0, none⟩ (.bool true)).cell? ⟨w.heap.size + 1, 0, none⟩ = some (.bool true) := cell_of_one (one_setCell r3)
  refine leaves_cons (f := 87) (args := #[.pointer (some ⟨w.heap.size, 0, none⟩), .pointer (some ⟨w.heap.size + 1, 0, none⟩)]) (by simp) (by simp [go_sem]) ?_
  refine (catchPi_idle ⟨w.heap.size, 0, none⟩ ⟨w.heap.size + 1, 0, none⟩ _).mono ?_
  rintro e u' w'' ⟨rfl, rfl, rfl⟩
  refine ⟨.tuple #[.agg #[.slice ao n cap], .bool true], by simp [results, Tryd.results40, go_sem, x1, x2], ao, n, cap, w1, rfl, HQ.out, B0.out.trans (HB.out.mono (by simp; omega)), rfl, R1.out, R2.out⟩

set_option maxHeartbeats 1000000 in
set_option maxRecDepth 100000 in
/-- the work is given up -/
theorem attemptPi_no (K : Nat) (caps : Array Value) (w : World) (hcf : ∀ args (W : World), (callFunc K args).run Tryd.prog W = .ok (.enter K args) W) (hw : ∀ W, Below w.heap.size w W → Calls Tryd.prog K caps W (fun e w' => (∃ T x, e = .panicked [{ v := .iface T x, recovered := false }]) ∧ Below W.heap.size W w')) :
    Calls Tryd.prog 40 #[.func (.func K) #[] caps] w fun e w' => e = .returned (.tuple #[.agg #[.slice none 0 0], .bool false]) ∧ Below w.heap.size w w' := by
  have hmf : ∀ (fn : Fn) (first cap : Array Value) (w : World), (Instr.makeFunc fn first cap).run Tryd.prog w = .ok (.func fn first cap) w := fun _ _ _ _ => rfl
  have hb0 := Joins.below_alloc2 w (.cells #[.slice none 0 0] 26) (.cells #[.bool false] 4)
  have CW := Lib.hid (hw _ hb0)
  have h1 : ((w.alloc (.cells #[.slice none 0 0] 26)).alloc (.cells #[.bool false] 4)).heap[w.heap.size]? = some (.cells #[.slice none 0 0] 26 (0, 0)) := by
    rw [Below.heap_alloc _ _ _ (by simp)]; exact heap_alloc_last w _
  have h2 : ((w.alloc (.cells #[.slice none 0 0] 26)).alloc (.cells #[.bool false] 4)).heap[w.heap.size + 1]? = some (.cells #[.bool false] 4 (0, 0)) := heap_alloc2_new _ _ _
  have H1 := Lib.hid h1
  have H2 := Lib.hid h2
  have B0 := Lib.hid hb0
  clear h1 h2 hb0 hw
  go_enter_defers Tryd.func40, Tryd.ntmps40
  go_wp2_with fail
  refine CW.out.mono ?_
  rintro e w1 ⟨⟨T, x, rfl⟩, hb⟩
  have r1 := (hb.block w.heap.size (by simp; omega)).trans H1.out
  have r2 := (hb.block (w.heap.size + 1) (by simp)).trans H2.out
  have HB := Lib.hid (B0.out.trans (hb.mono (by simp; omega)))
  clear hb
  go_wp2_with fail
  have a1 : (w1.alloc (.cells #[.slice none 0 0] 26)).heap[w.heap.size]? = some (.cells #[.slice none 0 0] 26 (0, 0)) := (Below.heap_alloc _ _ _ (Array.getElem?_eq_some_iff.1 r1).1).trans r1
  have a2 : (w1.alloc (.cells #[.slice none 0 0] 26)).heap[w.heap.size + 1]? = some (.cells #[.bool false] 4 (0, 0)) := (Below.heap_alloc _ _ _ (Array.getElem?_eq_some_iff.1 r2).1).trans r2
  have r3 : ((w1.alloc (.cells #[.slice none 0 0] 26)).setCell ⟨w.heap.size, 0, none⟩ (.slice none 0 0)).heap[w.heap.size + 1]? = some (.cells #[.bool false] 4 (0, 0)) := (Below.heap_setCell _ _ _ _ (by simp)).trans a2
  have x1 : (((w1.alloc (.cells #[.slice none 0 0] 26)).setCell ⟨w.heap.size, 0, none⟩ (.slice none 0 0)).setCell ⟨w.heap.size + 1, 0, none⟩ (.bool false)).cell? ⟨w.heap.size, 0, none⟩ = some (.slice none 0 0) := by
    rw [World.cell?_setCell_other _ _ _ _ (by intro e; have := congrArg Addr.block e; simp at this)]
    exact cell_of_one (one_setCell a1)
  have x2 : (((w1.alloc (.cells #[.slice none 0 0] 26)).setCell ⟨w.heap.size, 0, none⟩ (.slice none 0 0)).setCell ⟨w.heap.size + 1, 0, none⟩ (.bool false)).cell? ⟨w.heap.size + 1, 0, none⟩ = some (.bool false) := cell_of_one (one_setCell r3)
  have hs := HB.out.size
  refine leaves_cons (f := 87) (args := #[.pointer (some ⟨w.heap.size, 0, none⟩), .pointer (some ⟨w.heap.size + 1, 0, none⟩)]) (by simp) (by simp [go_sem]) ?_
  refine (catchPi_panicking w.heap.size (w.heap.size + 1) (.slice none 0 0) (.bool false) _ _ T x [] _ r1 r2 (by simp)).mono ?_
  rintro e u' w'' ⟨rfl, rfl, rfl⟩
  refine ⟨.tuple #[.agg #[.slice none 0 0], .bool false], by simp [results, Tryd.results40, go_sem, x1, x2], rfl, ((HB.out.alloc hs _).setCell (p := ⟨w.heap.size, 0, none⟩) (Nat.le_refl _) _).setCell (p := ⟨w.heap.size + 1, 0, none⟩) (by simp) _⟩

end Go.Proofs.YtnmnlbgialolhaaDoor

/- Contracts of single functions, and plain lemmas, on which the exact laws of this seat rest; each holds under the conditions that it states. -/
namespace Go.Proofs.YtnmnlbgialolhaaDoor
set_option linter.unusedVariables false
set_option linter.unusedSimpArgs false
open Go.RowKit
attribute [local go_sem] Oper.semAt_some

/-- an odd number of the pixels of a row up to this one is black -/
def rowOdd (ss : List ByteArray) (y : Nat) : Nat → Bool
  | 0 => pixI ss (0 : Nat) y
  | x + 1 => !(rowOdd ss y x == pixI ss ((x + 1 : Nat) : Int) y)
/-- the picture with a residue -/
def frF (ss : List ByteArray) : Nat → Nat → Bool
  | 0, x => rowOdd ss 0 x
  | y + 1, x => !(rowOdd ss (y + 1) x == frF ss y x)
def frP (ss : List ByteArray) : List ByteArray := if validB ss then mkPic (row0 ss).size ss.length (frF ss) else []
theorem frP_no {ss : List ByteArray} (h : validB ss = false) : frP ss = [] := by unfold frP; rw [h]; rfl
theorem frP_yes {ss : List ByteArray} (h : validB ss = true) : frP ss = mkPic (row0 ss).size ss.length (frF ss) := by unfold frP; rw [if_pos h]
theorem frP_len (ss : List ByteArray) : (frP ss).length ≤ 16 := by
  cases h : validB ss with
  | false => rw [frP_no h]; simp
  | true => rw [frP_yes h, mkPic_len]; exact (vp_of h).n16
/-- what is made, with white outside -/
def vF (f : Nat → Nat → Bool) (x y : Int) : Bool := decide (0 ≤ x) && decide (0 ≤ y) && f y.toNat x.toNat
theorem frF_step (ss : List ByteArray) (y x : Nat) : frF ss y x = !(pixI ss (x : Int) (y : Int) == (!((!(vF (frF ss) ((x : Int) - 1) y == vF (frF ss) x ((y : Int) - 1))) == vF (frF ss) ((x : Int) - 1) ((y : Int) - 1)))) := by
  have neg : ∀ z : Int, vF (frF ss) (-1) z = false := fun z => by unfold vF; rfl
  have neg2 : ∀ z : Int, vF (frF ss) z (-1) = false := fun z => by unfold vF; simp
  have nat : ∀ a b : Nat, vF (frF ss) (a : Int) (b : Int) = frF ss b a := fun a b => by unfold vF; simp
  cases x with
  | zero =>
    cases y with
    | zero =>
      rw [show ((0 : Nat) : Int) - 1 = -1 from rfl, neg, neg2, neg]
      show rowOdd ss 0 0 = _
      unfold rowOdd
      generalize pixI ss _ _ = p
      cases p <;> rfl
    | succ y =>
      rw [show ((0 : Nat) : Int) - 1 = -1 from rfl, neg, neg, show ((y + 1 : Nat) : Int) - 1 = (y : Int) from by omega, nat]
      show (!(rowOdd ss (y + 1) 0 == frF ss y 0)) = _
      unfold rowOdd
      generalize pixI ss _ _ = p
      generalize frF ss y 0 = q
      cases p <;> cases q <;> rfl
  | succ x =>
    cases y with
    | zero =>
      rw [show ((0 : Nat) : Int) - 1 = -1 from rfl, neg2, neg2, show ((x + 1 : Nat) : Int) - 1 = (x : Int) from by omega, nat]
      show rowOdd ss 0 (x + 1) = _
      rw [show frF ss 0 x = rowOdd ss 0 x from by unfold frF; rfl]
      rw [rowOdd]
      generalize pixI ss _ _ = p
      generalize rowOdd ss 0 x = q
      cases p <;> cases q <;> rfl
    | succ y =>
      rw [show ((x + 1 : Nat) : Int) - 1 = (x : Int) from by omega, show ((y + 1 : Nat) : Int) - 1 = (y : Int) from by omega, nat, nat, nat]
      show (!(rowOdd ss (y + 1) (x + 1) == frF ss y (x + 1))) = _
      rw [show frF ss (y + 1) x = !(rowOdd ss (y + 1) x == frF ss y x) from rfl]
      rw [rowOdd]
      generalize pixI ss _ _ = p
      generalize rowOdd ss (y + 1) x = q
      generalize frF ss y (x + 1) = r
      generalize frF ss y x = s
      cases p <;> cases q <;> cases r <;> cases s <;> rfl
/-- what the rows show while they are made -/
theorem fr_bits0 (ss : List ByteArray) (g : Nat → Nat) (a b : Nat) (w1 : 0 < a) (n1 : 0 < b) (w16 : a ≤ 16) (hpe : blackB a b g = pixI ss) : ∀ t, t ≤ b * a → ∀ y x, y < b → x < a → (dnH (frFun a b g) ((gGrid a b w1 n1).list t) y).testBit x = (decide (y * a + x < t) && frF ss y x) := by
  have hat : ∀ t, t < b * a → ((gGrid a b w1 n1).at t).1 = (((t % a : Nat) : Int), ((t / a : Nat) : Int)) := fun t ht => by
    have hd : t / a < b := Nat.div_lt_of_lt_mul (by rw [Nat.mul_comm]; omega)
    refine Prod.ext ?_ ?_
    · show ((t % a : Nat) : Int) - ((0 : Nat) : Int) = _
      simp
    · show ((t / a % b : Nat) : Int) - ((0 : Nat) : Int) = _
      rw [Nat.mod_eq_of_lt hd]
      simp
  obtain ⟨G, hG⟩ : ∃ G, gGrid a b w1 n1 = G := ⟨_, rfl⟩
  rw [hG] at hat ⊢
  clear hG
  intro t
  induction t with
  | zero =>
    intro _ y x _ _
    simp [dnH, Grid.list]
  | succ t ih =>
    intro h y x hy hx
    have ih := ih (by omega)
    have hm : t % a < a := Nat.mod_lt _ w1
    have hd : t / a < b := Nat.div_lt_of_lt_mul (by rw [Nat.mul_comm]; omega)
    have ht : t = t / a * a + t % a := by rw [Nat.mul_comm]; exact (Nat.div_add_mod t a).symm
    rw [Grid.list_snoc, dnH_snoc, hat t (by omega)]
    show (updG _ (((t / a : Nat) : Int)).toNat (((t % a : Nat) : Int)).toNat _ y).testBit x = _
    rw [Int.toNat_natCast, Int.toNat_natCast]
    obtain ⟨Y, hY⟩ : ∃ Y, t / a = Y := ⟨_, rfl⟩
    obtain ⟨X, hX⟩ : ∃ X, t % a = X := ⟨_, rfl⟩
    rw [hX] at hm
    rw [hY] at hd
    rw [hX, hY] at ht ⊢
    have key : frFun a b g (dnH (frFun a b g) (G.list t)) Y X = frF ss Y X := by
      have nb : ∀ (x' y' : Int), x' < (a : Int) → y' < (b : Int) → (0 ≤ x' → 0 ≤ y' → y'.toNat * a + x'.toNat < t) → blackB a b (dnH (frFun a b g) (G.list t)) x' y' = vF (frF ss) x' y' := fun x' y' h1 h2 h3 => by
        unfold blackB vF hasB
        rw [decide_eq_true h1, decide_eq_true h2, Bool.and_true, Bool.and_true]
        by_cases hx0 : 0 ≤ x'
        · by_cases hy0 : 0 ≤ y'
          · rw [decide_eq_true hx0, decide_eq_true hy0, Bool.true_and, Bool.true_and, ih y'.toNat x'.toNat (by omega) (by omega), decide_eq_true (h3 hx0 hy0), Bool.true_and]
          · rw [decide_eq_false hy0]; simp
        · rw [decide_eq_false hx0]; simp
      obtain ⟨D, hD⟩ : ∃ D, dnH (frFun a b g) (G.list t) = D := ⟨_, rfl⟩
      rw [hD] at nb ⊢
      show (!(blackB a b g (X : Int) (Y : Int) == oddB a b D (X : Int) (Y : Int))) = _
      unfold oddB
      rw [hpe, nb ((X : Int) - 1) (Y : Int) (by omega) (by omega) (by intro h1 h2; rw [ht, Int.toNat_natCast]; omega), nb (X : Int) ((Y : Int) - 1) (by omega) (by omega) (by
        intro h1 h2
        have e : ((Y : Int) - 1).toNat = Y - 1 := by omega
        rw [e, Int.toNat_natCast, ht]
        have h4 : (Y - 1 + 1) * a ≤ Y * a := Nat.mul_le_mul (by omega) (Nat.le_refl _)
        rw [Nat.add_mul, Nat.one_mul] at h4
        omega), nb ((X : Int) - 1) ((Y : Int) - 1) (by omega) (by omega) (by
        intro h1 h2
        have e : ((Y : Int) - 1).toNat = Y - 1 := by omega
        have e2 : ((X : Int) - 1).toNat = X - 1 := by omega
        rw [e, e2, ht]
        have h4 : (Y - 1 + 1) * a ≤ Y * a := Nat.mul_le_mul (by omega) (Nat.le_refl _)
        rw [Nat.add_mul, Nat.one_mul] at h4
        omega)]
      exact (frF_step ss Y X).symm
    unfold updG
    rw [key]
    by_cases hyy : y = Y
    · rw [if_pos hyy, upd_bit _ _ _ _ (by omega) (by omega)]
      by_cases hxx : x = X
      · rw [if_pos hxx, hyy, hxx, decide_eq_true (by omega), Bool.true_and]
      · rw [if_neg hxx, ← hyy, ih y x hy hx]
        congr 1
        refine decide_eq_decide.2 ?_
        have : y * a + x ≠ t := by rw [hyy]; omega
        omega
    · rw [if_neg hyy, ih y x hy hx]
      congr 1
      refine decide_eq_decide.2 ?_
      have : y * a + x ≠ t := fun e => hyy (by rw [← hY, ← e, Nat.mul_comm, Nat.mul_add_div w1, Nat.div_eq_of_lt hx, Nat.add_zero])
      omega
theorem fr_bits {ss : List ByteArray} (V : VP ss) (y x : Nat) (hy : y < ss.length) (hx : x < (row0 ss).size) : ∀ t, t ≤ ss.length * (row0 ss).size → (dnH (frFun (row0 ss).size ss.length (wordsOf ss)) ((gGrid (row0 ss).size ss.length V.w1 V.n1).list t) y).testBit x = (decide (y * (row0 ss).size + x < t) && frF ss y x) := fun t ht =>
  fr_bits0 ss (wordsOf ss) _ _ V.w1 V.n1 V.w16 (funext fun x => funext fun y => words_bit V x y) t ht y x hy hx
theorem fr_pic {ss : List ByteArray} (V : VP ss) (w : World) :
    Calls Tryd.prog 44 #[.agg (mat (row0 ss).size ss.length (dnH (frFun (row0 ss).size ss.length (wordsOf ss)) ((gGrid (row0 ss).size ss.length V.w1 V.n1).list (ss.length * (row0 ss).size))))] w (TookPic w (mkPic (row0 ss).size ss.length (frF ss))) := by
  have := picture_any (mat (row0 ss).size ss.length (dnH (frFun (row0 ss).size ss.length (wordsOf ss)) ((gGrid (row0 ss).size ss.length V.w1 V.n1).list (ss.length * (row0 ss).size)))) (row0 ss).size ss.length _ w rfl V.w16 V.n16 (fun j => dnH_lt _ _ V.w16 j)
  rwa [mkPic_congr (f := fun y x => blackB (row0 ss).size ss.length (dnH (frFun (row0 ss).size ss.length (wordsOf ss)) ((gGrid (row0 ss).size ss.length V.w1 V.n1).list (ss.length * (row0 ss).size))) (x : Int) (y : Int)) (g := frF ss) fun y hy x hx => by
    show blackB (row0 ss).size ss.length _ (x : Int) (y : Int) = frF ss y x
    unfold blackB
    rw [hasB_insB, in_range hx hy, Bool.true_and, Int.toNat_natCast, Int.toNat_natCast, fr_bits V y x hy hx _ (Nat.le_refl _)]
    have : (y + 1) * (row0 ss).size ≤ ss.length * (row0 ss).size := Nat.mul_le_mul hy (Nat.le_refl _)
    rw [Nat.add_mul, Nat.one_mul] at this
    rw [decide_eq_true (by omega), Bool.true_and]] at this
end Go.Proofs.YtnmnlbgialolhaaDoor

/- Contracts of single functions, and plain lemmas, on which the exact laws of this seat rest; each holds under the conditions that it states. -/
namespace Go.Proofs.YtnmnlbgialolhaaDoor
set_option linter.unusedVariables false
set_option linter.unusedSimpArgs false
open Go.RowKit
attribute [local go_sem] Oper.semAt_some

/-- an odd number of the first pixels of a row is black -/
def oddN (ss : List ByteArray) (y : Nat) : Nat → Bool
  | 0 => false
  | x + 1 => !(oddN ss y x == pixI ss (x : Int) (y : Int))
theorem oddN_row (ss : List ByteArray) (y : Nat) : ∀ x, oddN ss y (x + 1) = rowOdd ss y x
  | 0 => by
    unfold oddN rowOdd oddN
    generalize pixI ss _ _ = p
    cases p <;> rfl
  | x + 1 => by
    rw [oddN, oddN_row ss y x, rowOdd]

set_option maxHeartbeats 4000000 in
set_option maxRecDepth 100000 in
theorem l10From_any (pb : Nat) (ss : List ByteArray) (w : World) (hpa : PicAt w pb 0 ss) :
    Calls Tryd.prog 48 #[.pointer (some ⟨pb, 0, none⟩)] w (TookPic w (mkPic (row0 ss).size ss.length (frF ss))) := by
  obtain ⟨i0, hi, hz0, hz1, hz2⟩ := info_parts Tryd.info4
  obtain ⟨b0, off0, cap0, hcc, hst, V⟩ := hpa.open'
  have hw1 := V.w1
  have hw16 := V.w16
  have hn1 := V.n1
  have hn16 := V.n16
  have hP0 : Hid ((w.alloc (.cells #[.slice none 0 0] 26)).heap[w.heap.size]? = some (.cells #[.slice none 0 0] 26 (0, 0))) := heap_alloc_last w _
  have CW : Hid (∀ W, PicAt W pb 0 ss → Calls Tryd.prog 61 #[.pointer (some ⟨pb, 0, none⟩)] W fun e w' => e = .returned (.int .i64 (row0 ss).size) ∧ W = w') := fun W h => l01Width_any _ _ ss W h
  have CH : Hid (∀ W, PicAt W pb 0 ss → Calls Tryd.prog 62 #[.pointer (some ⟨pb, 0, none⟩)] W fun e w' => e = .returned (.int .i64 ss.length) ∧ W = w') := fun W h => l01Height_any _ _ ss W h
  have CB : Hid (∀ (x y : Int) W, PicAt W pb 0 ss → Calls Tryd.prog 86 #[.pointer (some ⟨pb, 0, none⟩), .int .i64 x, .int .i64 y] W fun e w' => e = .returned (.bool (pixI ss x y)) ∧ W = w') := fun x y W h => l01Black_any pb 0 ss x y W h
  have CM := Lib.hid (fun (lb cap : Nat) (W : World) (hB : Bools W lb 0 (listF (frF ss) (row0 ss).size ((row0 ss).size * ss.length))) => make_list (frF ss) lb cap (row0 ss).size ss.length W ⟨hw1, hw16⟩ ⟨hn1, hn16⟩ hB)
  have HOd0 : Hid (∀ y x : Nat, oddN ss y (x + 1) = !(oddN ss y x == pixI ss (x : Int) (y : Int))) := fun y x => rfl
  have HF0 : Hid (∀ x : Nat, frF ss 0 x = oddN ss 0 (x + 1)) := fun x => by rw [oddN_row]; rfl
  have HF1 : Hid (∀ y x : Nat, 0 < y → frF ss y x = !(oddN ss y (x + 1) == frF ss (y - 1) x)) := fun y x h => by
    rw [oddN_row]
    obtain ⟨k, rfl⟩ : ∃ k, y = k + 1 := ⟨y - 1, by omega⟩
    rw [Nat.add_sub_cancel]
    rfl
  have HZ : Hid (∀ y : Nat, oddN ss y 0 = false) := fun y => rfl
  obtain ⟨f, hf⟩ : ∃ f, frF ss = f := ⟨_, rfl⟩
  obtain ⟨p, hp⟩ : ∃ p, pixI ss = p := ⟨_, rfl⟩
  obtain ⟨oN, hoN⟩ : ∃ p, oddN ss = p := ⟨_, rfl⟩
  rw [hf] at HF0 HF1 CM ⊢
  rw [hp] at HOd0 CB
  rw [hoN] at HOd0 HF0 HF1 HZ
  obtain ⟨wd, hwd⟩ : ∃ k, (row0 ss).size = k := ⟨_, rfl⟩
  obtain ⟨n, hnn⟩ : ∃ k, ss.length = k := ⟨_, rfl⟩
  rw [hwd] at CW CM hw1 hw16 ⊢
  rw [hnn] at CH CM hn1 hn16 ⊢
  have HPA := Lib.hid hpa
  have hlp : pb < w.heap.size := blk_lt hcc
  obtain ⟨pic, hpic⟩ : ∃ p, mkPic wd n f = p := ⟨_, rfl⟩
  rw [hpic] at CM ⊢
  clear hcc hst V hpa hf hp hwd hnn hpic hoN
  have A00 := Lib.hid (HPA.out.below (Joins.below_alloc1 w (.cells #[.slice none 0 0] 26)))
  go_enter Tryd.func48, Tryd.ntmps48
  go_wp2_with fail
  refine (CW.out _ A00.out).mono ?_
  rintro e w' ⟨rfl, rfl⟩
  clear A00
  go_wp2
  go_loopw [4, 5] (fun v yv wr => ∃ y : Nat, y ≤ n ∧ yv = .int .i64 y ∧ wr.ownsRow (w.heap.size + 1) 4 1 v (y * wd) (boolV (listF f wd (y * wd))) ∧ Below (w.heap.size + 1) (w.alloc (.cells #[.slice none 0 0] 26)) wr) (fun _ yv _ => n - (intOf yv).toNat)
  case atStart =>
    refine ⟨0, Nat.zero_le _, rfl, ?_, ?_⟩
    · rw [Nat.zero_mul]
      have := World.ownsRow_lit (base := w.heap.size + 1) (e := 4) (size := 1) (w.alloc (.cells #[.slice none 0 0] 26)) #[] 0 (by simp) (by unfold maxLen; omega) rfl
      simpa [boolV, listF] using this
    · exact (Below.refl _ _).alloc (by simp) _
  case round =>
    obtain ⟨y, hy, rfl, hown, hbel⟩ := hrel
    have B0 : Hid (Below w.heap.size w wr) := (Joins.below_alloc1 w (.cells #[.slice none 0 0] 26)).trans (hbel.mono (by simp))
    have A0 := Lib.hid (HPA.out.below B0.out)
    by_cases hlt : y < n
    · have kyn : (y : Int) < (n : Int) := by omega
      have HO := Lib.hid hown
      have HB := Lib.hid hbel
      clear hown hbel
      go_wp2_with fail
      refine (CH.out _ A0.out).mono ?_
      rintro e w' ⟨rfl, rfl⟩
      go_wp2_with fail
      go_loopw [4, 6, 7] (fun v ov xv wr => ∃ x : Nat, x ≤ wd ∧ xv = .int .i64 x ∧ ov = .bool (oN y x) ∧ wr.ownsRow (w.heap.size + 1) 4 1 v (y * wd + x) (boolV (listF f wd (y * wd + x))) ∧ Below (w.heap.size + 1) (w.alloc (.cells #[.slice none 0 0] 26)) wr) (fun _ _ xv _ => wd - (intOf xv).toNat)
      case atStart => exact ⟨0, Nat.zero_le _, rfl, by rw [HZ.out], HO.out, HB.out⟩
      case round =>
        clear HO HB A0 B0
        obtain ⟨x, hx, rfl, rfl, hown, hbel⟩ := hrel
        have B0 : Hid (Below w.heap.size w wr) := (Joins.below_alloc1 w (.cells #[.slice none 0 0] 26)).trans (hbel.mono (by simp))
        have A0 := Lib.hid (HPA.out.below B0.out)
        by_cases hlt2 : x < wd
        · have kxw : (x : Int) < (wd : Int) := by omega
          by_cases hy0 : 0 < y
          · have hsn := listF_snoc f wd y x hlt2
            have c1 := CB.out (x : Int) (y : Int)
            obtain ⟨p1, h1⟩ : ∃ t, p (x : Int) (y : Int) = t := ⟨_, rfl⟩
            have hod := HOd0.out y x
            rw [h1] at c1 hod
            obtain ⟨od, ho⟩ : ∃ t, oN y x = t := ⟨_, rfl⟩
            rw [ho] at hod ⊢
            have hff := HF1.out y x hy0
            rw [hod] at hff
            obtain ⟨pv, hpv⟩ : ∃ t, f (y - 1) x = t := ⟨_, rfl⟩
            rw [hpv] at hff
            rw [hff] at hsn
            have C1 := Lib.hid c1
            have HOd : Hid ((.bool (!(od == p1)) : Value) = .bool (oN y (x + 1))) := by show _ = _; rw [hod]
            have hNle : y * wd ≤ 256 := Nat.le_trans (Nat.mul_le_mul hy (Nat.le_refl _)) (Nat.mul_le_mul hn16 hw16)
            have hs1 := hbel.size
            have HB := Lib.hid hbel
            have HSN := Lib.hid hsn
            obtain ⟨M, hM⟩ : ∃ M, y * wd + x = M := ⟨_, rfl⟩
            have HM := Lib.hid hM
            have hM2 : M ≤ 300 := by omega
            have HO := Lib.hid hown
            rw [hM] at HO HSN
            obtain ⟨gl, cl, rfl⟩ := Joins.ownsRow_form hown (by have : 1 * 1 ≤ y * wd := Nat.mul_le_mul hy0 hw1; omega)
            have hold := hown.cellAt ((y - 1) * wd + x) (by
              have h3 : (y - 1 + 1) * wd ≤ y * wd := Nat.mul_le_mul (by omega) (Nat.le_refl _)
              rw [Nat.add_mul, Nat.one_mul] at h3
              omega)
            have hold2 : (boolV (listF f wd (y * wd + x)))[(y - 1) * wd + x]? = some (.bool pv) := by
              have h3 : (y - 1 + 1) * wd ≤ y * wd := Nat.mul_le_mul (by omega) (Nat.le_refl _)
              rw [Nat.add_mul, Nat.one_mul] at h3
              have e1 : ((y - 1) * wd + x) / wd = y - 1 := by rw [Nat.mul_comm, Nat.mul_add_div (by omega), Nat.div_eq_of_lt hlt2, Nat.add_zero]
              have e2 : ((y - 1) * wd + x) % wd = x := by rw [Nat.mul_comm, Nat.mul_add_mod, Nat.mod_eq_of_lt hlt2]
              unfold boolV listF
              rw [List.getElem?_map, List.getElem?_map, List.getElem?_range (by omega)]
              simp only [Option.map_some, e1, e2, hpv]
            rw [hold2] at hold
            rw [hM]
            rw [hM] at HO
            have hc : ((y : Int) - 1) * (wd : Int) = (((y - 1) * wd : Nat) : Int) := by push_cast; rw [Int.natCast_sub (by omega)]; rfl
            have hQM : (y - 1) * wd + x < M := by
              have h3 : (y - 1 + 1) * wd ≤ y * wd := Nat.mul_le_mul (by omega) (Nat.le_refl _)
              rw [Nat.add_mul, Nat.one_mul] at h3
              omega
            obtain ⟨Q, hQ⟩ : ∃ Q, (y - 1) * wd = Q := ⟨_, rfl⟩
            rw [hQ] at hc hold hQM
            have hQi : (Q : Int) + (x : Int) < (M : Int) := by omega
            have kw1 : IntKind.i64.wrap ((y : Int) - 1) = (y : Int) - 1 := IntWalk.i64_in _ (by omega)
            have kw2 : IntKind.i64.wrap (Q : Int) = (Q : Int) := IntWalk.i64_in _ (by omega)
            have kw3 : IntKind.i64.wrap ((Q : Int) + (x : Int)) = (Q : Int) + (x : Int) := IntWalk.i64_in _ (by omega)
            clear hold2 hpv hQ
            clear hown hbel hsn hff c1 h1 hod ho hM
            go_wp2_with fail
            refine (C1.out _ A0.out).mono ?_
            rintro e w' ⟨rfl, rfl⟩
            go_wp2_with (at_builtin; refine wpList_append_own _ rfl _ _ 87 rfl (w.heap.size + 1) 4 i0 (.bool false) 1 1 Tryd.underlying87 hi hz0 hz1 hz2 rfl (by decide) _ _ _ rfl (HO.out.alloc _) ⟨wr.heap.size, 0, none⟩ 1 1 [.bool (!((!(od == p1)) == pv))] rfl rfl (cell_one_new _ _ _) (by intro u hu; simp at hu; subst hu; rfl) (by unfold maxLen; omega) (by omega) (by simp at hs1 ⊢; omega) ?_)
            intro v' w2 hown' hgr _
            have o1 := HO.out.alloc (.cells #[.bool (!((!(od == p1)) == pv))] 4)
            have B2 : Hid (Below (w.heap.size + 1) (w.alloc (.cells #[.slice none 0 0] 26)) w2) := (HB.out.alloc (by simp at hs1; omega) _).grown hgr (by simp at hs1 ⊢; omega) (fun k hk => (o1.lt k hk).1)
            have O2 : Hid (w2.ownsRow (w.heap.size + 1) 4 1 v' (y * wd + (x + 1)) (boolV (listF f wd (y * wd + (x + 1))))) := by
              show World.ownsRow _ _ _ _ _ _ _
              rw [show y * wd + (x + 1) = M + 1 from by rw [← HM.out]; omega, HSN.out]
              exact hown'
            clear hown' hgr o1
            go_wp2
            go_roundw
            case rel => exact ⟨x + 1, by omega, by go_num, HOd.out, O2.out, B2.out⟩
            case measure => simp [intOf]; omega
          · have hsn := listF_snoc f wd y x hlt2
            have c1 := CB.out (x : Int) (y : Int)
            obtain ⟨p1, h1⟩ : ∃ t, p (x : Int) (y : Int) = t := ⟨_, rfl⟩
            have hod := HOd0.out y x
            rw [h1] at c1 hod
            obtain ⟨od, ho⟩ : ∃ t, oN y x = t := ⟨_, rfl⟩
            rw [ho] at hod ⊢
            have hff := (show f y x = oN y (x + 1) from by rw [show y = 0 from by omega]; exact HF0.out x)
            rw [hod] at hff
            rw [hff] at hsn
            have C1 := Lib.hid c1
            have HOd : Hid ((.bool (!(od == p1)) : Value) = .bool (oN y (x + 1))) := by show _ = _; rw [hod]
            have hNle : y * wd ≤ 256 := Nat.le_trans (Nat.mul_le_mul hy (Nat.le_refl _)) (Nat.mul_le_mul hn16 hw16)
            have hs1 := hbel.size
            have HB := Lib.hid hbel
            have HSN := Lib.hid hsn
            obtain ⟨M, hM⟩ : ∃ M, y * wd + x = M := ⟨_, rfl⟩
            have HM := Lib.hid hM
            have hM2 : M ≤ 300 := by omega
            have HO := Lib.hid hown
            rw [hM] at HO HSN
            clear hown hbel hsn hff c1 h1 hod ho hM
            go_wp2_with fail
            refine (C1.out _ A0.out).mono ?_
            rintro e w' ⟨rfl, rfl⟩
            go_wp2_with (at_builtin; refine wpList_append_own _ rfl _ _ 87 rfl (w.heap.size + 1) 4 i0 (.bool false) 1 1 Tryd.underlying87 hi hz0 hz1 hz2 rfl (by decide) _ _ _ rfl (HO.out.alloc _) ⟨wr.heap.size, 0, none⟩ 1 1 [.bool (!(od == p1))] rfl rfl (cell_one_new _ _ _) (by intro u hu; simp at hu; subst hu; rfl) (by unfold maxLen; omega) (by omega) (by simp at hs1 ⊢; omega) ?_)
            intro v' w2 hown' hgr _
            have o1 := HO.out.alloc (.cells #[.bool (!(od == p1))] 4)
            have B2 : Hid (Below (w.heap.size + 1) (w.alloc (.cells #[.slice none 0 0] 26)) w2) := (HB.out.alloc (by simp at hs1; omega) _).grown hgr (by simp at hs1 ⊢; omega) (fun k hk => (o1.lt k hk).1)
            have O2 : Hid (w2.ownsRow (w.heap.size + 1) 4 1 v' (y * wd + (x + 1)) (boolV (listF f wd (y * wd + (x + 1))))) := by
              show World.ownsRow _ _ _ _ _ _ _
              rw [show y * wd + (x + 1) = M + 1 from by rw [← HM.out]; omega, HSN.out]
              exact hown'
            clear hown' hgr o1
            go_wp2
            go_roundw
            case rel => exact ⟨x + 1, by omega, by go_num, HOd.out, O2.out, B2.out⟩
            case measure => simp [intOf]; omega
        · obtain rfl : x = wd := by omega
          have e1 : y * x + x = (y + 1) * x := by rw [Nat.add_mul, Nat.one_mul]
          rw [e1] at hown
          have HO := Lib.hid hown
          have HB := Lib.hid hbel
          clear hown hbel e1
          go_wp2
          go_roundw
          case rel => exact ⟨y + 1, hlt, by go_num, HO.out, HB.out⟩
          case measure => simp [intOf]; omega
    · obtain rfl : y = n := by omega
      rw [Nat.mul_comm y wd] at hown
      have h1 : 1 * 1 ≤ wd * y := Nat.mul_le_mul hw1 hn1
      obtain ⟨g, cap2, rfl⟩ := Joins.ownsRow_form hown (by omega)
      have HBl : Hid (Bools wr g 0 (listF f wd (wd * y))) := own_bools hown (listF_len _ _ _)
      have P1 := Lib.hid ((hbel.block w.heap.size (by simp)).trans hP0.out)
      clear hown hbel h1
      go_wp2_with fail
      refine (CH.out _ A0.out).mono ?_
      rintro e w' ⟨rfl, rfl⟩
      go_wp2_with fail
      refine (CM.out _ _ _ HBl.out).mono ?_
      rintro e w4 ⟨g4, cap4, rfl, hown4, hb4⟩
      have hp2 := (hb4.block w.heap.size (Array.getElem?_eq_some_iff.1 P1.out).1).trans P1.out
      have hfr : w4.frozen? ⟨w.heap.size, 0, none⟩ = false := free_of_one hp2
      have hc2 : w4.cell? ⟨w.heap.size, 0, none⟩ = some (.slice none 0 0) := cell_of_one hp2
      have O2 := Lib.hid (own_set (u := .slice (some ⟨g4, 0, none⟩) pic.length cap4) hown4 hp2 (by decide))
      have P4 := Lib.hid hp2
      have B4 := Lib.hid (B0.out.trans (hb4.mono B0.out.size))
      have hs3 := B0.out.size
      clear hown4 hp2 hb4
      go_wp2_with fail
      refine bodyPost_ret (v := .agg #[.slice (some ⟨g4, 0, none⟩) pic.length cap4]) (by simp [results, Tryd.results48, go_sem, cell_of_one (one_setCell P4.out)]) rfl ⟨g4, cap4, rfl, Joins.ownsRow_le O2.out hs3, B4.out.setCell (by simp) _⟩
set_option maxHeartbeats 4000000 in
set_option maxRecDepth 100000 in
theorem spec_From (u : Value) (ss : List ByteArray) (w : World) (hN : ss.length ≤ maxLen) (hz : ∀ s ∈ ss, s.size ≤ maxLen) (hu : Sl w u ss) :
    Calls Tryd.prog 17 #[.agg #[u]] w (SaysPic (frP ss) (validB ss) w) := by
  obtain ⟨W0, hW0⟩ : ∃ W0, (w.alloc (.cells #[u] 26)).alloc (.cells #[.slice none 0 0] 26) = W0 := ⟨_, rfl⟩
  have hs0 : W0.heap.size = w.heap.size + 1 + 1 := by rw [← hW0]; simp
  have hb0 : Below w.heap.size w W0 := by rw [← hW0]; exact Joins.below_alloc2 _ _ _
  have p0 : W0.heap[w.heap.size]? = some (.cells #[u] 26 (0, 0)) := by
    rw [← hW0, Below.heap_alloc _ _ _ (by first | (simp; done) | (simp; omega))]; exact heap_alloc_last w _
  have p1 : W0.heap[w.heap.size + 1]? = some (.cells #[.slice none 0 0] 26 (0, 0)) := by
    rw [← hW0]
    exact heap_alloc2_new _ _ _
  have HW := Lib.hid hW0
  have HB0 := Lib.hid hb0
  have KR : Hid (∀ W, Below W0.heap.size W0 W → W.heap[w.heap.size + 1]? = some (.cells #[.slice none 0 0] 26 (0, 0))) := fun W hb => (hb.block _ (by omega)).trans p1
  have CL := Lib.hid (l01Is_any w.heap.size 0 u ss W0 (cell_of_one p0) (hu.below hb0) hN hz)
  cases hok : validB ss with
  | false =>
    have e1 : Hid (frP ss = []) := frP_no hok
    rw [hok] at CL
    rw [e1.out]
    clear hok e1 hu hN hz p0 p1 hW0 hb0 hs0
    go_enter Tryd.func17, Tryd.ntmps17
    go_wp2_with fail
    rw [HW.out]
    refine CL.out.mono ?_
    rintro e w1 ⟨rfl, hb1⟩
    have hp1 := KR.out _ hb1
    have hfr : w1.frozen? ⟨w.heap.size + 1, 0, none⟩ = false := free_of_one hp1
    have hc2 : w1.cell? ⟨w.heap.size + 1, 0, none⟩ = some (.slice none 0 0) := cell_of_one hp1
    have B1 : Hid (Below w.heap.size w w1) := HB0.out.trans (hb1.mono HB0.out.size)
    have P1 := Lib.hid hp1
    clear hb1 hp1
    go_wp2_with fail
    refine bodyPost_ret (v := .tuple #[.agg #[.slice none 0 0], .bool false]) (by simp [results, Tryd.results17, go_sem, cell_of_one (one_setCell P1.out)]) rfl ⟨_, _, _, rfl, World.ownsRow_nil _ _ _ _, B1.out.setCell (by show w.heap.size ≤ w.heap.size + 1; omega) _⟩
  | true =>
    have V := vp_of hok
    have e1 : Hid (frP ss = mkPic (row0 ss).size ss.length (frF ss)) := frP_yes hok
    rw [hok] at CL
    have CR : Hid (∀ W, Below W0.heap.size W0 W → Calls Tryd.prog 48 #[.pointer (some ⟨w.heap.size, 0, none⟩)] W (TookPic W (mkPic (row0 ss).size ss.length (frF ss)))) := fun W hb =>
      l10From_any w.heap.size ss W ⟨hok, u, cell_kept hb (cell_of_one p0), (hu.below hb0).below hb⟩
    rw [e1.out]
    obtain ⟨pic, hpic⟩ : ∃ p, mkPic (row0 ss).size ss.length (frF ss) = p := ⟨_, rfl⟩
    rw [hpic] at CR ⊢
    unfold TookPic at CR
    clear hok e1 hu hN hz p0 p1 hW0 hb0 hs0 hpic V
    go_enter Tryd.func17, Tryd.ntmps17
    go_wp2_with fail
    rw [HW.out]
    refine CL.out.mono ?_
    rintro e w1 ⟨rfl, hb1⟩
    have HB1 := Lib.hid hb1
    clear hb1
    go_wp2_with fail
    refine (CR.out _ HB1.out).mono ?_
    rintro e w5 ⟨g4, cap4, rfl, hown4, hb4⟩
    have hb5 := HB1.out.trans (hb4.mono HB1.out.size)
    have hp2 := KR.out _ hb5
    have hfr : w5.frozen? ⟨w.heap.size + 1, 0, none⟩ = false := free_of_one hp2
    have hc2 : w5.cell? ⟨w.heap.size + 1, 0, none⟩ = some (.slice none 0 0) := cell_of_one hp2
    have O2 := Lib.hid (own_set (u := .slice (some ⟨g4, 0, none⟩) pic.length cap4) hown4 hp2 (by decide))
    have P5 := Lib.hid hp2
    have B5 := Lib.hid (HB0.out.trans (hb5.mono HB0.out.size))
    have hs4 : w.heap.size ≤ w1.heap.size := Nat.le_trans HB0.out.size HB1.out.size
    clear hown4 hp2 hb4 hb5
    go_wp2_with fail
    refine bodyPost_ret (v := .tuple #[.agg #[.slice (some ⟨g4, 0, none⟩) pic.length cap4], .bool true]) (by simp [results, Tryd.results17, go_sem, cell_of_one (one_setCell P5.out)]) rfl ⟨_, _, _, rfl, Joins.ownsRow_le O2.out hs4, B5.out.setCell (by show w.heap.size ≤ w.heap.size + 1; omega) _⟩
end Go.Proofs.YtnmnlbgialolhaaDoor

/- Contracts of single functions, and plain lemmas, on which the exact laws of this seat rest; each holds under the conditions that it states. -/
namespace Go.Proofs.YtnmnlbgialolhaaDoor
set_option linter.unusedVariables false
set_option linter.unusedSimpArgs false
open Go.RowKit
attribute [local go_sem] Oper.semAt_some

set_option maxHeartbeats 1000000 in
set_option maxRecDepth 100000 in
theorem R8Picture_any (v : Value) (ns : List Nat) (w : World) (hv : SlY w v ns) (hby : ∀ i, ns.getD i 0 < 256) (hN : ns.length ≤ maxLen) :
    Calls Tryd.prog 33 #[v] w (fun e w' => ∃ a b, (1 ≤ a ∧ a ≤ 8) ∧ (1 ≤ b ∧ b ≤ 8) ∧ SomePic a b w e w') := by
  have hbA := Joins.below_alloc1 w (.cells #[.slice none 0 0] 26)
  have hpA := heap_alloc_last w (.cells #[.slice none 0 0] 26)
  obtain ⟨W0, hW0⟩ : ∃ W0, w.alloc (.cells #[.slice none 0 0] 26) = W0 := ⟨_, rfl⟩
  have hs0 : W0.heap.size = w.heap.size + 1 := by rw [← hW0]; simp
  rw [hW0] at hbA hpA
  have CF := Lib.hid (from_any v ns W0 (hv.below hbA) hby hN)
  have HW := Lib.hid hW0
  obtain ⟨ao, cap0, rfl⟩ := hv.form
  clear hv hW0 hby
  go_enter Tryd.func33, Tryd.ntmps33
  go_wp2_with fail
  rw [HW.out]
  refine CF.out.mono ?_
  rintro e wB ⟨rfl, hS, hb⟩
  have hpB : wB.heap[w.heap.size]? = some (.cells #[.slice none 0 0] 26 (0, 0)) := (hb.block _ (by omega)).trans hpA
  have hbB := hbA.trans (hb.mono (by omega))
  obtain ⟨p, hp⟩ : ∃ p, W0.heap.size = p := ⟨_, rfl⟩
  rw [hp] at hS ⊢
  have hpw : w.heap.size < p := by omega
  have HS := Lib.hid hS
  have HPB := Lib.hid hpB
  have HBB := Lib.hid hbB
  clear hS hb hpA hbA hs0 hp CF hpB hbB
  go_wp2_with fail
  refine (pick_any p _ ns 0 8 wB HS.out (by omega) (by omega)).mono ?_
  rintro e wC ⟨⟨r, hr, rfl⟩, hd⟩
  have HDC := Lib.hid hd
  clear hd
  go_wp2_with fail
  refine (pick_any p _ ns (0 + 1) 8 wC HDC.out.1 (by omega) (by omega)).mono ?_
  rintro e wD ⟨⟨q, hq, rfl⟩, hd⟩
  have HDD := Lib.hid hd
  clear hd
  have HDr := Lib.hid (l01Draw_any (r + 1) (q + 1) p (.slice ao ns.length cap0) ns (0 + 1 + 1) wD HDD.out.1 (by omega) (by omega) (by omega))
  rw [show ((r + 1 : Nat) : Int) = (1 : Int) + (r : Int) from by omega, show ((q + 1 : Nat) : Int) = (1 : Int) + (q : Int) from by omega] at HDr
  go_wp2_with fail
  refine HDr.out.mono ?_
  rintro e wE ⟨f, g, cap, rfl, hown, hsE, hfE⟩
  have hl1 := HDC.out.2.size
  have hl2 := HDD.out.2.size
  have hl3 := HBB.out.size
  have hp1 := HDC.out.2.cells HPB.out (Or.inl hpw)
  have hp2 := HDD.out.2.cells hp1 (Or.inl hpw)
  have hp3 := hfE.cells hp2 (Or.inl hpw)
  have hfr := free_of_one hp3
  have hcE := cell_of_one hp3
  have HB := Lib.hid (((hfE.bel (HDD.out.2.bel (HDC.out.2.bel HBB.out (Or.inl (by omega)) (Nat.le_refl _)) (Or.inl (by omega)) (Nat.le_refl _)) (Or.inl (by omega)) (Nat.le_refl _))).setCell (p := ⟨w.heap.size, 0, none⟩) (Nat.le_refl _) (.slice (some ⟨g, 0, none⟩) (q + 1) cap))
  have HO := Lib.hid (Joins.ownsRow_le (own_set (u := .slice (some ⟨g, 0, none⟩) (q + 1) cap) hown hp3 (by decide)) (show w.heap.size ≤ wD.heap.size by omega))
  have HPo : Hid ((wE.setCell ⟨w.heap.size, 0, none⟩ (.slice (some ⟨g, 0, none⟩) (q + 1) cap)).cell? ⟨w.heap.size, 0, none⟩ = some (.slice (some ⟨g, 0, none⟩) (q + 1) cap)) := cell_of_one (one_setCell hp3)
  clear hown hsE hfE hp1 hp2 hp3
  go_wp2_with fail
  exact bodyPost_ret (v := .agg #[.slice (some ⟨g, 0, none⟩) (q + 1) cap]) (by simp [results, Tryd.results33, go_sem, HPo.out]) rfl ⟨r + 1, q + 1, by omega, by omega, f, g, cap, rfl, HO.out, HB.out⟩

set_option maxHeartbeats 2000000 in
set_option maxRecDepth 100000 in
theorem r8Black_any (v : Value) (ss : List ByteArray) (x y : Int) (w : World) (hv : Sl w v ss) (hok : validB ss = true) : Calls Tryd.prog 35 #[.agg #[v], .int .i64 x, .int .i64 y] w (SaysB (pixI ss x y) w) := by
  have V := vp_of hok
  obtain ⟨b, off, cap, rfl, hlt, hcs⟩ : ∃ b off cap, v = .slice (some ⟨b, off, none⟩) ss.length cap ∧ b < w.heap.size ∧ ∀ i, i < ss.length → w.cell? ⟨b, off + i, none⟩ = some (.string (ss.getD i ByteArray.empty)) := by
    rcases hv with ⟨_, _, _, e⟩ | ⟨b, off, c, e, h1, h2, h3⟩
    · have := V.n1; rw [e] at this; exact absurd this (by simp)
    · exact ⟨b, off, c, e, h2, h3⟩
  have hb0 := Joins.below_alloc1 w (.cells #[.slice (some ⟨b, off, none⟩) ss.length cap] 26)
  have hc0 := cell_of_one (heap_alloc_last w (.cells #[.slice (some ⟨b, off, none⟩) ss.length cap] 26))
  have HB := Lib.hid hb0
  have hn1 := V.n1
  have hn16 := V.n16
  have hw16 := V.w16
  by_cases h1 : y < 0
  · have hval : Hid (pixI ss x y = false) := by show _ = _; unfold pixI insB inB; simp; omega
    clear hv hok V hcs hb0
    go_enter Tryd.func35, Tryd.ntmps35
    go_wp2
    go_ret
    exact ⟨ret_bool (a := false) hval.out.symm, HB.out⟩
  · by_cases h2 : (ss.length : Int) ≤ y
    · have hval : Hid (pixI ss x y = false) := by show _ = _; unfold pixI insB inB; simp; omega
      clear hv hok V hcs hb0
      go_enter Tryd.func35, Tryd.ntmps35
      go_wp2
      go_ret
      exact ⟨ret_bool (a := false) hval.out.symm, HB.out⟩
    · obtain ⟨q, rfl⟩ := Int.eq_ofNat_of_zero_le (show 0 ≤ y by omega)
      have hq : q < ss.length := by omega
      have hrow := (V.rows q hq).1
      have hcq := cell_kept hb0 (hcs q hq)
      have k1 : ¬ (q : Int) < 0 := by omega
      have k2 : ¬ (ss.length : Int) ≤ (q : Int) := by omega
      have k3 : (q : Int) < (ss.length : Int) := by omega
      by_cases h3 : x < 0
      · have hval : Hid (pixI ss x q = false) := by show _ = _; unfold pixI insB inB; simp; omega
        clear hv hok V hcs hb0 hcq hrow
        go_enter Tryd.func35, Tryd.ntmps35
        go_wp2
        go_ret
        exact ⟨ret_bool (a := false) hval.out.symm, HB.out⟩
      · obtain ⟨p, rfl⟩ := Int.eq_ofNat_of_zero_le (show 0 ≤ x by omega)
        have k4 : ¬ (p : Int) < 0 := by omega
        have hval : Hid (pixI ss p q = (decide (p < (row0 ss).size) && blackAt (ss.getD q ByteArray.empty) p)) := by
          show _ = _
          unfold pixI
          by_cases hp : p < (row0 ss).size
          · rw [in_range hp hq, decide_eq_true hp]; simp
          · have : insB (row0 ss).size ss.length p q = false := by unfold insB inB; simp; omega
            rw [this, decide_eq_false hp]; rfl
        obtain ⟨s, hs⟩ : ∃ s, ss.getD q ByteArray.empty = s := ⟨_, rfl⟩
        rw [hs] at hcq hrow hval
        have ks : (s.size : Int) ≤ 16 := by omega
        rw [← hrow] at hval
        by_cases h4 : p < s.size
        · have hb := blackAt_eq s p h4
          have k5 : ¬ (s.size : Int) ≤ (p : Int) := by omega
          have k6 : (p : Int) < (s.size : Int) := by omega
          rw [decide_eq_true h4, Bool.true_and] at hval
          cases hbit : blackAt s p with
          | true =>
            rw [hbit] at hb hval
            have hb2 : (((s[p]'h4).toNat : Int) == 35) = true := by
              have := beq_iff_eq.1 hb.symm
              rw [this]; rfl
            clear hv hok V hcs hb0 hrow hb hbit hs
            go_enter Tryd.func35, Tryd.ntmps35
            go_wp2
            go_ret
            exact ⟨ret_bool (a := true) hval.out.symm, HB.out⟩
          | false =>
            rw [hbit] at hb hval
            have hb2 : (((s[p]'h4).toNat : Int) == 35) = false := by
              rw [beq_eq_false_iff_ne]
              intro e
              have := b35 (c := s[p]) (Int.ofNat_inj.1 e)
              rw [this] at hb
              exact absurd hb (by decide)
            clear hv hok V hcs hb0 hrow hb hbit hs
            go_enter Tryd.func35, Tryd.ntmps35
            go_wp2
            go_ret
            exact ⟨ret_bool (a := false) hval.out.symm, HB.out⟩
        · have k5 : (s.size : Int) ≤ (p : Int) := by omega
          rw [decide_eq_false h4, Bool.false_and] at hval
          clear hv hok V hcs hb0 hrow hs
          go_enter Tryd.func35, Tryd.ntmps35
          go_wp2
          go_ret
          exact ⟨ret_bool (a := false) hval.out.symm, HB.out⟩

/-! ### residues back and forth -/
theorem pixI_vF {a b : Nat} (f : Nat → Nat → Bool) (x y : Int) (hx : x < (a : Int)) (hy : y < (b : Int)) : pixI (mkPic a b f) x y = vF f x y := by
  by_cases h1 : 0 ≤ x
  · by_cases h2 : 0 ≤ y
    · obtain ⟨p, rfl⟩ := Int.eq_ofNat_of_zero_le h1
      obtain ⟨q, rfl⟩ := Int.eq_ofNat_of_zero_le h2
      rw [pixI_mk (by omega) (by omega)]
      unfold vF
      simp
    · unfold vF pixI insB inB
      rw [decide_eq_false h2]
      simp
  · unfold vF pixI insB inB
    rw [decide_eq_false h1]
    simp
theorem rs_mk {a b : Nat} (f : Nat → Nat → Bool) (y x : Nat) (hy : y < b) (hx : x < a) : rsF (mkPic a b f) y x = ((vF f x y != vF f ((x : Int) - 1) y) != (vF f x ((y : Int) - 1) != vF f ((x : Int) - 1) ((y : Int) - 1))) := by
  unfold rsF rsI
  rw [pixI_vF f _ _ (by omega) (by omega), pixI_vF f _ _ (by omega) (by omega), pixI_vF f _ _ (by omega) (by omega), pixI_vF f _ _ (by omega) (by omega)]
theorem vF_nat (f : Nat → Nat → Bool) (y x : Nat) : vF f (x : Int) (y : Int) = f y x := by unfold vF; simp
/-- the residue's picture is the picture -/
theorem fr_rs (a b : Nat) (f : Nat → Nat → Bool) : ∀ n y x, y + x ≤ n → y < b → x < a → frF (mkPic a b (rsF (mkPic a b f))) y x = f y x := by
  intro n
  induction n with
  | zero =>
    intro y x h hy hx
    obtain ⟨rfl, rfl⟩ : y = 0 ∧ x = 0 := by omega
    rw [frF_step, pixI_mk hx hy, rs_mk f 0 0 hy hx, vF_nat]
    unfold vF
    simp
  | succ n ih =>
    intro y x h hy hx
    have key : ∀ X Y : Int, X + Y < (y : Int) + (x : Int) → X < (a : Int) → Y < (b : Int) → vF (frF (mkPic a b (rsF (mkPic a b f)))) X Y = vF f X Y := fun X Y h1 h2 h3 => by
      by_cases g1 : 0 ≤ X
      · by_cases g2 : 0 ≤ Y
        · obtain ⟨p, rfl⟩ := Int.eq_ofNat_of_zero_le g1
          obtain ⟨q, rfl⟩ := Int.eq_ofNat_of_zero_le g2
          rw [vF_nat, vF_nat]
          exact ih q p (by omega) (by omega) (by omega)
        · unfold vF; rw [decide_eq_false g2]; simp
      · unfold vF; rw [decide_eq_false g1]; simp
    rw [frF_step, pixI_mk hx hy, rs_mk f y x hy hx, key _ _ (by omega) (by omega) (by omega), key _ _ (by omega) (by omega) (by omega), key _ _ (by omega) (by omega) (by omega), vF_nat]
    generalize f y x = p
    generalize vF f ((x : Int) - 1) y = q
    generalize vF f x ((y : Int) - 1) = r
    generalize vF f ((x : Int) - 1) ((y : Int) - 1) = t
    cases p <;> cases q <;> cases r <;> cases t <;> rfl
/-- the residue of what comes from a residue is the residue -/
theorem rs_fr (a b : Nat) (f : Nat → Nat → Bool) (y x : Nat) (hy : y < b) (hx : x < a) : rsF (mkPic a b (frF (mkPic a b f))) y x = f y x := by
  rw [rs_mk _ y x hy hx, vF_nat, frF_step, pixI_mk hx hy]
  generalize f y x = p
  generalize vF (frF (mkPic a b f)) ((x : Int) - 1) y = q
  generalize vF (frF (mkPic a b f)) x ((y : Int) - 1) = r
  generalize vF (frF (mkPic a b f)) ((x : Int) - 1) ((y : Int) - 1) = t
  cases p <;> cases q <;> cases r <;> cases t <;> rfl
end Go.Proofs.YtnmnlbgialolhaaDoor
