/- Contracts of single functions, and plain lemmas, on which the exact laws of this seat rest; each holds under the conditions that it states. -/
import Derived.Test.YtnmnlbgialolhaaDoorGS
import Derived.Test.YtnmnlbgialolhaaDoorGP
import Derived.Test.YtnmnlbgialolhaaDoorMo
import Derived.Test.YtnmnlbgialolhaaDoorS5
namespace Go.Proofs.YtnmnlbgialolhaaDoor
set_option linter.unusedVariables false
set_option linter.unusedSimpArgs false
open Go.RowKit Go.Shelf
attribute [local go_sem] Oper.semAt_some

/-! ### numbers by a rule, spot by spot -/
/-- row y when some spots are done -/
def chF (F : Nat → Nat → Int) (a : Nat) {P : Int × Int → Prop} (pre : List { q : Int × Int // P q }) (y : Nat) : List Int :=
  (List.range a).map fun (x : Nat) => if ((x : Int), (y : Int)) ∈ pre.map (·.1) then F y x else 0
/-- row y when all are -/
def rwF (F : Nat → Nat → Int) (a : Nat) (y : Nat) : List Int := (List.range a).map fun x => F y x
theorem rwF_len (F : Nat → Nat → Int) (a y : Nat) : (rwF F a y).length = a := by simp [rwF]
theorem chF_len (F : Nat → Nat → Int) (a : Nat) {P : Int × Int → Prop} (pre : List { q : Int × Int // P q }) (y : Nat) : (chF F a pre y).length = a := by simp [chF]
theorem chF_nil (F : Nat → Nat → Int) (a : Nat) {P : Int × Int → Prop} (y : Nat) : chF F a ([] : List { q : Int × Int // P q }) y = zerosN a := by
  apply List.ext_getElem?
  intro i
  unfold chF zerosN
  by_cases h : i < a
  · simp [h]
  · simp [h]
theorem memF_snoc2 {P : Int × Int → Prop} (pre : List { q : Int × Int // P q }) (xe : { q : Int × Int // P q }) (p : Int × Int) (h : p ≠ xe.1) : (p ∈ (pre ++ [xe]).map (·.1)) = (p ∈ pre.map (·.1)) := by
  rw [List.map_append, List.mem_append]
  refine propext ⟨fun h2 => ?_, Or.inl⟩
  rcases h2 with h2 | h2
  · exact h2
  · exact absurd (List.mem_singleton.1 h2) h
theorem chF_other (F : Nat → Nat → Int) (a : Nat) {P : Int × Int → Prop} (pre : List { q : Int × Int // P q }) (xe : { q : Int × Int // P q }) (y y' : Nat) (hy : xe.1.2 = y) (hne : y' ≠ y) : chF F a (pre ++ [xe]) y' = chF F a pre y' := by
  unfold chF
  refine List.map_congr_left fun x hx => ?_
  have : ((x : Int), (y' : Int)) ≠ xe.1 := fun e => by
    have e2 := congrArg Prod.snd e
    rw [hy] at e2
    simp at e2
    omega
  simp only [memF_snoc2 pre xe _ this]
theorem chF_set (F : Nat → Nat → Int) (a : Nat) {P : Int × Int → Prop} (pre : List { q : Int × Int // P q }) (xe : { q : Int × Int // P q }) (x y : Nat) (hx : xe.1.1 = x) (hy : xe.1.2 = y) (hxa : x < a) : (numsV (chF F a pre y)).set x (.int .i64 (F y x)) = numsV (chF F a (pre ++ [xe]) y) := by
  apply List.ext_getElem?
  intro i
  rw [List.getElem?_set]
  unfold numsV chF
  simp only [List.getElem?_map, List.length_map, List.length_range]
  have hxe : xe.1 = ((x : Int), (y : Int)) := Prod.ext hx hy
  by_cases e : x = i
  · subst e
    rw [if_pos rfl, if_pos hxa, List.getElem?_range hxa]
    simp [hxe]
  · rw [if_neg e]
    by_cases hi : i < a
    · rw [List.getElem?_range hi]
      have : ((i : Int), (y : Int)) ≠ xe.1 := fun e2 => by
        rw [hxe] at e2
        have e3 := congrArg Prod.fst e2
        simp at e3
        omega
      simp only [Option.map_some]
      simp only [memF_snoc2 pre xe _ this]
    · rw [List.getElem?_eq_none (by simp; omega)]
      rfl
theorem chF_full (F : Nat → Nat → Int) (a b : Nat) (ha : 0 < a) (hb : 0 < b) (y : Nat) (hy : y < b) : chF F a ((gGrid a b ha hb).list (b * a)) y = rwF F a y := by
  unfold chF rwF
  refine List.map_congr_left fun x hx => ?_
  have hx2 := List.mem_range.1 hx
  have hlt : y * a + x < b * a := by
    have : (y + 1) * a ≤ b * a := Nat.mul_le_mul hy (Nat.le_refl _)
    rw [Nat.add_mul, Nat.one_mul] at this
    omega
  rw [if_pos]
  refine List.mem_map.2 ⟨(gGrid a b ha hb).at (y * a + x), ?_, ?_⟩
  · unfold Grid.list
    exact List.mem_map.2 ⟨_, List.mem_range.2 hlt, rfl⟩
  · have d1 : (y * a + x) % a = x := by rw [Nat.mul_comm, Nat.mul_add_mod, Nat.mod_eq_of_lt hx2]
    have d2 : (y * a + x) / a = y := by
      rw [Nat.mul_comm, Nat.mul_add_div (by omega), Nat.div_eq_of_lt hx2, Nat.add_zero]
    refine Prod.ext ?_ ?_
    · show (((y * a + x) % a : Nat) : Int) - ((0 : Nat) : Int) = x
      rw [d1, Int.natCast_zero, Int.sub_zero]
    · show (((y * a + x) / a % b : Nat) : Int) - ((0 : Nat) : Int) = y
      rw [d2, Nat.mod_eq_of_lt hy, Int.natCast_zero, Int.sub_zero]
theorem ownRF_from {β : Type} (lo hi B n : Nat) (v : Value) (us : Nat → Value) (f : β → Nat → List Int) (hhi : hi ≤ B) : OwnFrom B (fun (s : β) W => OwnR W lo hi v us n (f s) ∧ hi ≤ W.heap.size) := fun s W W' row h hg hr =>
  ⟨h.1.keep (fun k h1 h2 => hg.block k (Nat.lt_of_lt_of_le h2 h.2) (fun e => by have := (hr k e.symm).1; omega)), Nat.le_trans h.2 hg.size⟩

/-- the number of a colour -/
def gyB (b : Bool) : Int := if b = true then 0 else 99
theorem gyB_rng (b : Bool) : 0 ≤ gyB b ∧ gyB b ≤ 99 := by cases b <;> decide
theorem greyOf_any (b : Bool) (w : World) : Calls Tryd.prog 96 #[.bool b] w (fun e w' => e = .returned (.int .i64 (gyB b)) ∧ w = w') := by
  cases b with
  | true =>
    go_enter Tryd.func96, Tryd.ntmps96
    go_wp2
    go_ret
    exact ⟨rfl, rfl⟩
  | false =>
    go_enter Tryd.func96, Tryd.ntmps96
    go_wp2
    go_ret
    exact ⟨rfl, rfl⟩
end Go.Proofs.YtnmnlbgialolhaaDoor
