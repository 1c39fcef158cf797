/- Contracts of single functions, and plain lemmas, on which the exact laws of this seat rest; each holds under the conditions that it states. -/
import Derived.Test.YtnmnlbgialolhaaDoorR1
import Derived.Test.YtnmnlbgialolhaaDoorRSd
import Derived.Test.YtnmnlbgialolhaaDoorRSa
import Derived.Test.YtnmnlbgialolhaaDoorR3
namespace Go.Proofs.YtnmnlbgialolhaaDoor
set_option linter.unusedVariables false
set_option linter.unusedSimpArgs false
open Go.RowKit

theorem catchPi_panicking (pb qb : Nat) (u0 b0 : Value) (t1 t2 : TypeId) (u : TypeId) (pv : Value) (older : List PanicEntry) (w : World) (h1 : w.heap[pb]? = some (.cells #[u0] t1 (0, 0))) (h2 : w.heap[qb]? = some (.cells #[b0] t2 (0, 0))) (hne : pb ≠ qb) :
    CallsD Tryd.prog 87 #[.pointer (some ⟨pb, 0, none⟩), .pointer (some ⟨qb, 0, none⟩)] (.panicking ({ v := .iface u pv, recovered := false } :: older)) w fun e u' w' =>
      e = .returned (.tuple #[]) ∧ u' = .panicking ({ v := .iface u pv, recovered := true } :: older) ∧ w' = ((w.alloc (.cells #[.slice none 0 0] 26)).setCell ⟨pb, 0, none⟩ (.slice none 0 0)).setCell ⟨qb, 0, none⟩ (.bool false) := by
  have hA1 : (w.alloc (.cells #[.slice none 0 0] 26)).heap[pb]? = some (.cells #[u0] t1 (0, 0)) := (Below.heap_alloc _ _ _ (Array.getElem?_eq_some_iff.1 h1).1).trans h1
  have hA2 : (w.alloc (.cells #[.slice none 0 0] 26)).heap[qb]? = some (.cells #[b0] t2 (0, 0)) := (Below.heap_alloc _ _ _ (Array.getElem?_eq_some_iff.1 h2).1).trans h2
  have hc := cell_of_one hA1
  have hz := free_of_one hA1
  have hA3 : ((w.alloc (.cells #[.slice none 0 0] 26)).setCell ⟨pb, 0, none⟩ (.slice none 0 0)).heap[qb]? = some (.cells #[b0] t2 (0, 0)) := (Below.heap_setCell _ _ _ _ (by simp; first | exact hne | exact fun e => hne e.symm)).trans hA2
  have hd2 := cell_of_one hA3
  have hf2 := free_of_one hA3
  refine callsD_of_wpS Tryd.func87 rfl fun c₀ cs hu => ?_
  apply wpS_seq
  apply wpS_region
  simp [wpOpsS, go_sem, recoverD, hu, Tryd.ntmps87, Exit.thenS]
  refine wpS_cond (t := true) (by simp [Act.eval, Array.replicate]) ?_
  simp only [if_true]
  apply wpS_seq
  apply wpS_region
  simp [wpOpsS, go_sem, Exit.thenS]
  apply wpS_region
  simp [wpOpsS, go_sem, hc, hz, hd2, hf2, bodyPostS, results, Tryd.results87]

theorem catchPi_idle (p q : Addr) (w : World) :
    CallsD Tryd.prog 87 #[.pointer (some p), .pointer (some q)] .returning w fun e u' w' => e = .returned (.tuple #[]) ∧ u' = .returning ∧ w' = w := by
  refine callsD_of_wpS Tryd.func87 rfl fun c₀ cs hu => ?_
  apply wpS_seq
  apply wpS_region
  simp [wpOpsS, go_sem, recoverD, hu, Tryd.ntmps87, Exit.thenS]
  refine wpS_cond (t := false) (by simp [Act.eval, Array.replicate]) ?_
  simp only [Bool.false_eq_true, if_false]
  refine wpS_of_wp (wp_skip ?_)
  cases c₀
  simp_all [bodyPostS, results, Tryd.results87]

/-- the work yields -/
theorem attemptPi_yes (K : Nat) (caps : Array Value) (w : World) (Q : Value → World → World → Prop) (hcf : ∀ args (W : World), (callFunc K args).run Tryd.prog W = .ok (.enter K args) W) (hw : ∀ W, Below w.heap.size w W → Calls Tryd.prog K caps W (fun e w' => ∃ (ao : Option Addr) (n cap : Nat), e = .returned (.agg #[.slice ao n cap]) ∧ Q (.agg #[.slice ao n cap]) W w' ∧ Below W.heap.size W w')) :
    Calls Tryd.prog 40 #[.func (.func K) #[] caps] w fun e w' => ∃ (ao : Option Addr) (n cap : Nat) (w1 : World), e = .returned (.tuple #[.agg #[.slice ao n cap], .bool true]) ∧ Q (.agg #[.slice ao n cap]) ((w.alloc (.cells #[.slice none 0 0] 26)).alloc (.cells #[.bool false] 4)) w1 ∧ Below w.heap.size w w1 ∧ w' = (w1.setCell ⟨w.heap.size, 0, none⟩ (.slice ao n cap)).setCell ⟨w.heap.size + 1, 0, none⟩ (.bool true) ∧ w1.heap[w.heap.size]? = some (.cells #[.slice none 0 0] 26 (0, 0)) ∧ w1.heap[w.heap.size + 1]? = some (.cells #[.bool false] 4 (0, 0)) := by
  have hmf : ∀ (fn : Fn) (first cap : Array Value) (w : World), (Instr.makeFunc fn first cap).run Tryd.prog w = .ok (.func fn first cap) w := fun _ _ _ _ => rfl
  have hb0 := Joins.below_alloc2 w (.cells #[.slice none 0 0] 26) (.cells #[.bool false] 4)
  have CW := Lib.hid (hw _ hb0)
  have h1 : ((w.alloc (.cells #[.slice none 0 0] 26)).alloc (.cells #[.bool false] 4)).heap[w.heap.size]? = some (.cells #[.slice none 0 0] 26 (0, 0)) := by
    rw [Below.heap_alloc _ _ _ (by simp)]; exact heap_alloc_last w _
  have h2 : ((w.alloc (.cells #[.slice none 0 0] 26)).alloc (.cells #[.bool false] 4)).heap[w.heap.size + 1]? = some (.cells #[.bool false] 4 (0, 0)) := heap_alloc2_new _ _ _
  have H1 := Lib.hid h1
  have H2 := Lib.hid h2
  have B0 := Lib.hid hb0
  clear h1 h2 hb0 hw
  go_enter_defers Tryd.func40, Tryd.ntmps40
  go_wp2_with fail
  refine CW.out.mono ?_
  rintro e w1 ⟨ao, n, cap, rfl, hQ, hb⟩
  have r1 := (hb.block w.heap.size (by simp; omega)).trans H1.out
  have r2 := (hb.block (w.heap.size + 1) (by simp)).trans H2.out
  have c1 := cell_of_one r1
  have c2 := cell_of_one r2
  have f1 := free_of_one r1
  have f2 := free_of_one r2
  have HQ := Lib.hid hQ
  have HB := Lib.hid hb
  have R1 := Lib.hid r1
  have R2 := Lib.hid r2
  clear hQ hb r1 r2
  go_wp2_with fail
  have x1 : ((w1.setCell ⟨w.heap.size, 0, none⟩ (.slice ao n cap)).setCell ⟨w.heap.size + 1, 0, none⟩ (.bool true)).cell? ⟨w.heap.size, 0, none⟩ = some (.slice ao n cap) := by
    rw [World.cell?_setCell_other _ _ _ _ (by intro e; have := congrArg Addr.block e; simp at this)]
    exact cell_of_one (one_setCell R1.out)
  have r3 : (w1.setCell ⟨w.heap.size, 0, none⟩ (.slice ao n cap)).heap[w.heap.size + 1]? = some (.cells #[.bool false] 4 (0, 0)) := (Below.heap_setCell _ _ _ _ (by simp)).trans R2.out
  have x2 : ((w1.setCell ⟨w.heap.size, 0, none⟩ (.slice ao n cap)).setCell ⟨w.heap.size + 1, 0, none⟩ (.bool true)).cell? ⟨w.heap.size + 1, 0, none⟩ = some (.bool true) := cell_of_one (one_setCell r3)
  refine leaves_cons (f := 87) (args := #[.pointer (some ⟨w.heap.size, 0, none⟩), .pointer (some ⟨w.heap.size + 1, 0, none⟩)]) (by simp) (by simp [go_sem]) ?_
  refine (catchPi_idle ⟨w.heap.size, 0, none⟩ ⟨w.heap.size + 1, 0, none⟩ _).mono ?_
  rintro e u' w'' ⟨rfl, rfl, rfl⟩
  refine ⟨.tuple #[.agg #[.slice ao n cap], .bool true], by simp [results, Tryd.results40, go_sem, x1, x2], ao, n, cap, w1, rfl, HQ.out, B0.out.trans (HB.out.mono (by simp; omega)), rfl, R1.out, R2.out⟩

set_option maxHeartbeats 1000000 in
set_option maxRecDepth 100000 in
/-- the work is given up -/
theorem attemptPi_no (K : Nat) (caps : Array Value) (w : World) (hcf : ∀ args (W : World), (callFunc K args).run Tryd.prog W = .ok (.enter K args) W) (hw : ∀ W, Below w.heap.size w W → Calls Tryd.prog K caps W (fun e w' => (∃ T x, e = .panicked [{ v := .iface T x, recovered := false }]) ∧ Below W.heap.size W w')) :
    Calls Tryd.prog 40 #[.func (.func K) #[] caps] w fun e w' => e = .returned (.tuple #[.agg #[.slice none 0 0], .bool false]) ∧ Below w.heap.size w w' := by
  have hmf : ∀ (fn : Fn) (first cap : Array Value) (w : World), (Instr.makeFunc fn first cap).run Tryd.prog w = .ok (.func fn first cap) w := fun _ _ _ _ => rfl
  have hb0 := Joins.below_alloc2 w (.cells #[.slice none 0 0] 26) (.cells #[.bool false] 4)
  have CW := Lib.hid (hw _ hb0)
  have h1 : ((w.alloc (.cells #[.slice none 0 0] 26)).alloc (.cells #[.bool false] 4)).heap[w.heap.size]? = some (.cells #[.slice none 0 0] 26 (0, 0)) := by
    rw [Below.heap_alloc _ _ _ (by simp)]; exact heap_alloc_last w _
  have h2 : ((w.alloc (.cells #[.slice none 0 0] 26)).alloc (.cells #[.bool false] 4)).heap[w.heap.size + 1]? = some (.cells #[.bool false] 4 (0, 0)) := heap_alloc2_new _ _ _
  have H1 := Lib.hid h1
  have H2 := Lib.hid h2
  have B0 := Lib.hid hb0
  clear h1 h2 hb0 hw
  go_enter_defers Tryd.func40, Tryd.ntmps40
  go_wp2_with fail
  refine CW.out.mono ?_
  rintro e w1 ⟨⟨T, x, rfl⟩, hb⟩
  have r1 := (hb.block w.heap.size (by simp; omega)).trans H1.out
  have r2 := (hb.block (w.heap.size + 1) (by simp)).trans H2.out
  have HB := Lib.hid (B0.out.trans (hb.mono (by simp; omega)))
  clear hb
  go_wp2_with fail
  have a1 : (w1.alloc (.cells #[.slice none 0 0] 26)).heap[w.heap.size]? = some (.cells #[.slice none 0 0] 26 (0, 0)) := (Below.heap_alloc _ _ _ (Array.getElem?_eq_some_iff.1 r1).1).trans r1
  have a2 : (w1.alloc (.cells #[.slice none 0 0] 26)).heap[w.heap.size + 1]? = some (.cells #[.bool false] 4 (0, 0)) := (Below.heap_alloc _ _ _ (Array.getElem?_eq_some_iff.1 r2).1).trans r2
  have r3 : ((w1.alloc (.cells #[.slice none 0 0] 26)).setCell ⟨w.heap.size, 0, none⟩ (.slice none 0 0)).heap[w.heap.size + 1]? = some (.cells #[.bool false] 4 (0, 0)) := (Below.heap_setCell _ _ _ _ (by simp)).trans a2
  have x1 : (((w1.alloc (.cells #[.slice none 0 0] 26)).setCell ⟨w.heap.size, 0, none⟩ (.slice none 0 0)).setCell ⟨w.heap.size + 1, 0, none⟩ (.bool false)).cell? ⟨w.heap.size, 0, none⟩ = some (.slice none 0 0) := by
    rw [World.cell?_setCell_other _ _ _ _ (by intro e; have := congrArg Addr.block e; simp at this)]
    exact cell_of_one (one_setCell a1)
  have x2 : (((w1.alloc (.cells #[.slice none 0 0] 26)).setCell ⟨w.heap.size, 0, none⟩ (.slice none 0 0)).setCell ⟨w.heap.size + 1, 0, none⟩ (.bool false)).cell? ⟨w.heap.size + 1, 0, none⟩ = some (.bool false) := cell_of_one (one_setCell r3)
  have hs := HB.out.size
  refine leaves_cons (f := 87) (args := #[.pointer (some ⟨w.heap.size, 0, none⟩), .pointer (some ⟨w.heap.size + 1, 0, none⟩)]) (by simp) (by simp [go_sem]) ?_
  refine (catchPi_panicking w.heap.size (w.heap.size + 1) (.slice none 0 0) (.bool false) _ _ T x [] _ r1 r2 (by simp)).mono ?_
  rintro e u' w'' ⟨rfl, rfl, rfl⟩
  refine ⟨.tuple #[.agg #[.slice none 0 0], .bool false], by simp [results, Tryd.results40, go_sem, x1, x2], rfl, ((HB.out.alloc hs _).setCell (p := ⟨w.heap.size, 0, none⟩) (Nat.le_refl _) _).setCell (p := ⟨w.heap.size + 1, 0, none⟩) (by simp) _⟩

end Go.Proofs.YtnmnlbgialolhaaDoor

/- Contracts of single functions, and plain lemmas, on which the exact laws of this seat rest; each holds under the conditions that it states. -/
namespace Go.Proofs.YtnmnlbgialolhaaDoor
set_option linter.unusedVariables false
set_option linter.unusedSimpArgs false
open Go.RowKit
attribute [local go_sem] Oper.semAt_some

/-- an odd number of the pixels of a row up to this one is black -/
def rowOdd (ss : List ByteArray) (y : Nat) : Nat → Bool
  | 0 => pixI ss (0 : Nat) y
  | x + 1 => !(rowOdd ss y x == pixI ss ((x + 1 : Nat) : Int) y)
/-- the picture with a residue -/
def frF (ss : List ByteArray) : Nat → Nat → Bool
  | 0, x => rowOdd ss 0 x
  | y + 1, x => !(rowOdd ss (y + 1) x == frF ss y x)
def frP (ss : List ByteArray) : List ByteArray := if validB ss then mkPic (row0 ss).size ss.length (frF ss) else []
theorem frP_no {ss : List ByteArray} (h : validB ss = false) : frP ss = [] := by unfold frP; rw [h]; rfl
theorem frP_yes {ss : List ByteArray} (h : validB ss = true) : frP ss = mkPic (row0 ss).size ss.length (frF ss) := by unfold frP; rw [if_pos h]
theorem frP_len (ss : List ByteArray) : (frP ss).length ≤ 16 := by
  cases h : validB ss with
  | false => rw [frP_no h]; simp
  | true => rw [frP_yes h, mkPic_len]; exact (vp_of h).n16
/-- what is made, with white outside -/
def vF (f : Nat → Nat → Bool) (x y : Int) : Bool := decide (0 ≤ x) && decide (0 ≤ y) && f y.toNat x.toNat
theorem frF_step (ss : List ByteArray) (y x : Nat) : frF ss y x = !(pixI ss (x : Int) (y : Int) == (!((!(vF (frF ss) ((x : Int) - 1) y == vF (frF ss) x ((y : Int) - 1))) == vF (frF ss) ((x : Int) - 1) ((y : Int) - 1)))) := by
  have neg : ∀ z : Int, vF (frF ss) (-1) z = false := fun z => by unfold vF; rfl
  have neg2 : ∀ z : Int, vF (frF ss) z (-1) = false := fun z => by unfold vF; simp
  have nat : ∀ a b : Nat, vF (frF ss) (a : Int) (b : Int) = frF ss b a := fun a b => by unfold vF; simp
  cases x with
  | zero =>
    cases y with
    | zero =>
      rw [show ((0 : Nat) : Int) - 1 = -1 from rfl, neg, neg2, neg]
      show rowOdd ss 0 0 = _
      unfold rowOdd
      generalize pixI ss _ _ = p
      cases p <;> rfl
    | succ y =>
      rw [show ((0 : Nat) : Int) - 1 = -1 from rfl, neg, neg, show ((y + 1 : Nat) : Int) - 1 = (y : Int) from by omega, nat]
      show (!(rowOdd ss (y + 1) 0 == frF ss y 0)) = _
      unfold rowOdd
      generalize pixI ss _ _ = p
      generalize frF ss y 0 = q
      cases p <;> cases q <;> rfl
  | succ x =>
    cases y with
    | zero =>
      rw [show ((0 : Nat) : Int) - 1 = -1 from rfl, neg2, neg2, show ((x + 1 : Nat) : Int) - 1 = (x : Int) from by omega, nat]
      show rowOdd ss 0 (x + 1) = _
      rw [show frF ss 0 x = rowOdd ss 0 x from by unfold frF; rfl]
      rw [rowOdd]
      generalize pixI ss _ _ = p
      generalize rowOdd ss 0 x = q
      cases p <;> cases q <;> rfl
    | succ y =>
      rw [show ((x + 1 : Nat) : Int) - 1 = (x : Int) from by omega, show ((y + 1 : Nat) : Int) - 1 = (y : Int) from by omega, nat, nat, nat]
      show (!(rowOdd ss (y + 1) (x + 1) == frF ss y (x + 1))) = _
      rw [show frF ss (y + 1) x = !(rowOdd ss (y + 1) x == frF ss y x) from rfl]
      rw [rowOdd]
      generalize pixI ss _ _ = p
      generalize rowOdd ss (y + 1) x = q
      generalize frF ss y (x + 1) = r
      generalize frF ss y x = s
      cases p <;> cases q <;> cases r <;> cases s <;> rfl
/-- what the rows show while they are made -/
theorem fr_bits0 (ss : List ByteArray) (g : Nat → Nat) (a b : Nat) (w1 : 0 < a) (n1 : 0 < b) (w16 : a ≤ 16) (hpe : blackB a b g = pixI ss) : ∀ t, t ≤ b * a → ∀ y x, y < b → x < a → (dnH (frFun a b g) ((gGrid a b w1 n1).list t) y).testBit x = (decide (y * a + x < t) && frF ss y x) := by
  have hat : ∀ t, t < b * a → ((gGrid a b w1 n1).at t).1 = (((t % a : Nat) : Int), ((t / a : Nat) : Int)) := fun t ht => by
    have hd : t / a < b := Nat.div_lt_of_lt_mul (by rw [Nat.mul_comm]; omega)
    refine Prod.ext ?_ ?_
    · show ((t % a : Nat) : Int) - ((0 : Nat) : Int) = _
      simp
    · show ((t / a % b : Nat) : Int) - ((0 : Nat) : Int) = _
      rw [Nat.mod_eq_of_lt hd]
      simp
  obtain ⟨G, hG⟩ : ∃ G, gGrid a b w1 n1 = G := ⟨_, rfl⟩
  rw [hG] at hat ⊢
  clear hG
  intro t
  induction t with
  | zero =>
    intro _ y x _ _
    simp [dnH, Grid.list]
  | succ t ih =>
    intro h y x hy hx
    have ih := ih (by omega)
    have hm : t % a < a := Nat.mod_lt _ w1
    have hd : t / a < b := Nat.div_lt_of_lt_mul (by rw [Nat.mul_comm]; omega)
    have ht : t = t / a * a + t % a := by rw [Nat.mul_comm]; exact (Nat.div_add_mod t a).symm
    rw [Grid.list_snoc, dnH_snoc, hat t (by omega)]
    show (updG _ (((t / a : Nat) : Int)).toNat (((t % a : Nat) : Int)).toNat _ y).testBit x = _
    rw [Int.toNat_natCast, Int.toNat_natCast]
    obtain ⟨Y, hY⟩ : ∃ Y, t / a = Y := ⟨_, rfl⟩
    obtain ⟨X, hX⟩ : ∃ X, t % a = X := ⟨_, rfl⟩
    rw [hX] at hm
    rw [hY] at hd
    rw [hX, hY] at ht ⊢
    have key : frFun a b g (dnH (frFun a b g) (G.list t)) Y X = frF ss Y X := by
      have nb : ∀ (x' y' : Int), x' < (a : Int) → y' < (b : Int) → (0 ≤ x' → 0 ≤ y' → y'.toNat * a + x'.toNat < t) → blackB a b (dnH (frFun a b g) (G.list t)) x' y' = vF (frF ss) x' y' := fun x' y' h1 h2 h3 => by
        unfold blackB vF hasB
        rw [decide_eq_true h1, decide_eq_true h2, Bool.and_true, Bool.and_true]
        by_cases hx0 : 0 ≤ x'
        · by_cases hy0 : 0 ≤ y'
          · rw [decide_eq_true hx0, decide_eq_true hy0, Bool.true_and, Bool.true_and, ih y'.toNat x'.toNat (by omega) (by omega), decide_eq_true (h3 hx0 hy0), Bool.true_and]
          · rw [decide_eq_false hy0]; simp
        · rw [decide_eq_false hx0]; simp
      obtain ⟨D, hD⟩ : ∃ D, dnH (frFun a b g) (G.list t) = D := ⟨_, rfl⟩
      rw [hD] at nb ⊢
      show (!(blackB a b g (X : Int) (Y : Int) == oddB a b D (X : Int) (Y : Int))) = _
      unfold oddB
      rw [hpe, nb ((X : Int) - 1) (Y : Int) (by omega) (by omega) (by intro h1 h2; rw [ht, Int.toNat_natCast]; omega), nb (X : Int) ((Y : Int) - 1) (by omega) (by omega) (by
        intro h1 h2
        have e : ((Y : Int) - 1).toNat = Y - 1 := by omega
        rw [e, Int.toNat_natCast, ht]
        have h4 : (Y - 1 + 1) * a ≤ Y * a := Nat.mul_le_mul (by omega) (Nat.le_refl _)
        rw [Nat.add_mul, Nat.one_mul] at h4
        omega), nb ((X : Int) - 1) ((Y : Int) - 1) (by omega) (by omega) (by
        intro h1 h2
        have e : ((Y : Int) - 1).toNat = Y - 1 := by omega
        have e2 : ((X : Int) - 1).toNat = X - 1 := by omega
        rw [e, e2, ht]
        have h4 : (Y - 1 + 1) * a ≤ Y * a := Nat.mul_le_mul (by omega) (Nat.le_refl _)
        rw [Nat.add_mul, Nat.one_mul] at h4
        omega)]
      exact (frF_step ss Y X).symm
    unfold updG
    rw [key]
    by_cases hyy : y = Y
    · rw [if_pos hyy, upd_bit _ _ _ _ (by omega) (by omega)]
      by_cases hxx : x = X
      · rw [if_pos hxx, hyy, hxx, decide_eq_true (by omega), Bool.true_and]
      · rw [if_neg hxx, ← hyy, ih y x hy hx]
        congr 1
        refine decide_eq_decide.2 ?_
        have : y * a + x ≠ t := by rw [hyy]; omega
        omega
    · rw [if_neg hyy, ih y x hy hx]
      congr 1
      refine decide_eq_decide.2 ?_
      have : y * a + x ≠ t := fun e => hyy (by rw [← hY, ← e, Nat.mul_comm, Nat.mul_add_div w1, Nat.div_eq_of_lt hx, Nat.add_zero])
      omega
theorem fr_bits {ss : List ByteArray} (V : VP ss) (y x : Nat) (hy : y < ss.length) (hx : x < (row0 ss).size) : ∀ t, t ≤ ss.length * (row0 ss).size → (dnH (frFun (row0 ss).size ss.length (wordsOf ss)) ((gGrid (row0 ss).size ss.length V.w1 V.n1).list t) y).testBit x = (decide (y * (row0 ss).size + x < t) && frF ss y x) := fun t ht =>
  fr_bits0 ss (wordsOf ss) _ _ V.w1 V.n1 V.w16 (funext fun x => funext fun y => words_bit V x y) t ht y x hy hx
theorem fr_pic {ss : List ByteArray} (V : VP ss) (w : World) :
    Calls Tryd.prog 44 #[.agg (mat (row0 ss).size ss.length (dnH (frFun (row0 ss).size ss.length (wordsOf ss)) ((gGrid (row0 ss).size ss.length V.w1 V.n1).list (ss.length * (row0 ss).size))))] w (TookPic w (mkPic (row0 ss).size ss.length (frF ss))) := by
  have := picture_any (mat (row0 ss).size ss.length (dnH (frFun (row0 ss).size ss.length (wordsOf ss)) ((gGrid (row0 ss).size ss.length V.w1 V.n1).list (ss.length * (row0 ss).size)))) (row0 ss).size ss.length _ w rfl V.w16 V.n16 (fun j => dnH_lt _ _ V.w16 j)
  rwa [mkPic_congr (f := fun y x => blackB (row0 ss).size ss.length (dnH (frFun (row0 ss).size ss.length (wordsOf ss)) ((gGrid (row0 ss).size ss.length V.w1 V.n1).list (ss.length * (row0 ss).size))) (x : Int) (y : Int)) (g := frF ss) fun y hy x hx => by
    show blackB (row0 ss).size ss.length _ (x : Int) (y : Int) = frF ss y x
    unfold blackB
    rw [hasB_insB, in_range hx hy, Bool.true_and, Int.toNat_natCast, Int.toNat_natCast, fr_bits V y x hy hx _ (Nat.le_refl _)]
    have : (y + 1) * (row0 ss).size ≤ ss.length * (row0 ss).size := Nat.mul_le_mul hy (Nat.le_refl _)
    rw [Nat.add_mul, Nat.one_mul] at this
    rw [decide_eq_true (by omega), Bool.true_and]] at this
end Go.Proofs.YtnmnlbgialolhaaDoor
