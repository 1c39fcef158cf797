/- Contracts of single functions, and plain lemmas, on which the exact laws of this seat rest; each holds under the conditions that it states. -/
import Derived.Test.YtaopdhncapoefaaAh
import Derived.Maps.Views
import Derived.Maps.OwnOps
import Derived.Maps.OwnSet
import Derived.DeepKeys4
namespace Go.Proofs.Ytaopdhncapoefaa
set_option linter.unusedVariables false
set_option maxRecDepth 100000
set_option linter.unusedSimpArgs false
open Go.RowKit Go.Maps

/-! ### a set of spots that the call keeps in a map -/
theorem laidOutE : laidOutB Try.prog = true := by kernel_rfl
theorem wideSpot : (match Try.prog.underlying 55 with | some (.array _ _) | some (.struct _) => true | _ => false) = true := by rw [Try.underlying55]
set_option maxRecDepth 100000 in
theorem lawSpot : Keyed Try.prog 55 := Keyed.of_law (deep_law_laid laidOutE (m := 4) (by omega) (of_decide_eq_true (by kernel_rfl)) (by kernel_rfl) wideSpot)
theorem zeroBoolE (w : World) : (zeroValue 4).run Try.prog w = .ok (.bool false) w := by kernel_rfl
def spV (x y : Int) : Value := .agg #[.int .i64 x, .int .i64 y]
theorem spV_inj {x y x' y' : Int} (h : spV x y = spV x' y') : x = x' ∧ y = y' := by unfold spV at h; simpa using h
theorem cellsSpotE : Try.prog.cellsOf 55 = 2 := by kernel_rfl
theorem cellsI64E : Try.prog.cellsOf 2 = 1 := by kernel_rfl
theorem keyTypeSpot : Try.prog.keyType 55 = true := by kernel_rfl
theorem manyTypesE : 4 ≤ Try.prog.types.size := of_decide_eq_true (by kernel_rfl)
theorem keySpot (x y : Int) (hx : (Lit.int .i64 x).wf = true) (hy : (Lit.int .i64 y).wf = true) : ∃ kl, keyOf Try.prog 55 (spV x y) = some kl := by
  refine ⟨.string (keyBytes [.int .i64 x, .int .i64 y]), ?_⟩
  have h2 : (spV x y).formed Try.prog 55 = true := by simp [Value.formed, spV, Try.underlying55, cellsSpotE]
  obtain ⟨m, hm⟩ : ∃ m, Try.prog.types.size + 1 = m + 5 := ⟨Try.prog.types.size - 4, by have := manyTypesE; omega⟩
  have h3 : Try.prog.keyLits (Try.prog.types.size + 1) 55 (spV x y).cells.toList = some [.int .i64 x, .int .i64 y] := by
    rw [hm]
    simp [Program.keyLits, spV, Value.cells, Try.underlying55, Try.underlying2, cellsSpotE, cellsI64E, hx, hy]
    try rfl
  unfold keyOf
  rw [Try.underlying55]
  simp only [keyTypeSpot, h2, Bool.and_self, if_true, h3, Option.map_some]

/-- block b is a map with just the spots of xs, N of them -/
def SetS (w : World) (b m N : Nat) (xs : List (Int × Int)) : Prop :=
  ∃ D : DataW Unit, w.ownsMap Try.prog 55 (plainElem Try.prog 4) b m D ∧ Tidy D ∧ Maps.size D = N ∧
    ∀ x y kl, keyOf Try.prog 55 (spV x y) = some kl → D.atKey kl (.lit (.bool false)) = .lit (.bool (memB xs x y)) ∧ Maps.has D kl = memB xs x y
theorem SetS.made (w : World) : SetS (w.alloc (.map #[] 0)) w.heap.size 0 0 [] :=
  ⟨_, World.ownsMap_made w Try.prog _ _, tidy_empty, rfl, fun _ _ _ _ => ⟨rfl, rfl⟩⟩
theorem SetS.lt {w : World} {b m N : Nat} {xs : List (Int × Int)} (h : SetS w b m N xs) : b < w.heap.size := by
  obtain ⟨D, h1, _⟩ := h; exact h1.lt
theorem SetS.block {w w' : World} {b m N : Nat} {xs : List (Int × Int)} (h : SetS w b m N xs) (hb : w'.heap[b]? = w.heap[b]?) : SetS w' b m N xs := by
  obtain ⟨D, ⟨es, clock, h1, h2⟩, h3⟩ := h
  exact ⟨D, ⟨es, clock, hb.trans h1, h2⟩, h3⟩
theorem SetS.below {w w' : World} {b m N : Nat} {xs : List (Int × Int)} (h : SetS w b m N xs) (hb : Below w.heap.size w w') : SetS w' b m N xs :=
  h.block (hb.block b h.lt)
theorem SetS.look {w : World} {b m N : Nat} {xs : List (Int × Int)} {t : TypeId} (h : SetS w b m N xs) (ht : Try.prog.underlying t = some (.map 55 4)) {x y : Int} {kl : Lit} (hkey : keyOf Try.prog 55 (spV x y) = some kl) :
    (Instr.lookup t (.map (some b)) (spV x y) false).run Try.prog w = .ok (.bool (memB xs x y)) w := by
  obtain ⟨D, h1, _, _, h3⟩ := h
  obtain ⟨v, ps, hrun, hv⟩ := h1.lookup lawSpot ht (zeroBoolE w) (plainElem_bool Try.underlying4 false) hkey
  rw [(h3 _ _ _ hkey).1] at hv
  have : v = .bool (memB xs x y) := by
    unfold plainElem at hv
    rw [Try.underlying4] at hv
    cases v <;> simp at hv
    rw [hv.1]
  rw [this] at hrun
  exact hrun
theorem SetS.len {w : World} {b m N : Nat} {xs : List (Int × Int)} {t : TypeId} (h : SetS w b m N xs) (ht : Try.prog.underlying t = some (.map 55 4)) (ty : TypeId) : (Builtin.len_ #[t] ty #[.map (some b)]).run Try.prog w = .ok (.int .i64 (N : Int)) w := by
  obtain ⟨D, h1, _, h2, _⟩ := h
  have := h1.len ht ty
  rwa [h2] at this

theorem memB_snoc (xs : List (Int × Int)) (a c x y : Int) : memB (xs ++ [(a, c)]) x y = (memB xs x y || decide ((x, y) = (a, c))) := by
  unfold memB
  rw [Bool.eq_iff_iff]
  simp
/-- a spot is put into the set -/
theorem wpList_put_spot {w : World} {ops : Array Oper} {rest : List Oper} {o : Oper} {a : Act} {Q : Exit → Act → World → Prop} {t : TypeId}
    (hg : o.guard = none) (mm x v : Operand) (hop : o.op = Op.mapUpdate t mm x v) (ht : Try.prog.underlying t = some (.map 55 4))
    (b m N : Nat) (xs : List (Int × Int)) (hm : a.eval mm = .map (some b)) (hs : SetS w b m N xs) (hn : m < maxLen) (p q : Int) (hx : a.eval x = spV p q) (hv : a.eval v = .bool true) (hp : (Lit.int .i64 p).wf = true) (hq : (Lit.int .i64 q).wf = true)
    (N' : Nat) (hN' : N' = if (p, q) ∈ xs then N else N + 1)
    (hK : ∀ w', SetS w' b (m + 1) N' (xs ++ [(p, q)]) → w.grownBy w' (some b) → wpList Try.prog ops Q rest (a.put o.dst undef) w') :
    wpList Try.prog ops Q (o :: rest) a w := by
  subst hN'
  obtain ⟨D, h1, h2, h2', h3⟩ := hs
  obtain ⟨kl, hkey⟩ := keySpot p q hp hq
  refine wpList_mapUpdate_own w hg mm x v t hop 55 4 lawSpot ht (plainElem Try.prog 4) b m D hm h1 hn (spV p q) (.bool true) kl hx hv hkey (.lit (.bool true)) [] (plainElem_bool Try.underlying4 true) fun w' ho hgr => hK w' ⟨_, ho, h2.put (lawSpot.key hkey) _, ?_, fun u z ul hu => ?_⟩ hgr
  · rw [size_put h2, (h3 _ _ _ hkey).2, h2']
    unfold memB
    by_cases hm2 : (p, q) ∈ xs
    · simp [hm2]
    · simp [hm2]
  · rw [memB_snoc]
    by_cases hc : ul = kl
    · subst hc
      obtain ⟨rfl, rfl⟩ := spV_inj (lawSpot.inj hu hkey)
      rw [atKey_put_same h2.isMap (lawSpot.key hkey), has_put_same h2.isMap (lawSpot.key hkey)]
      simp
    · rw [atKey_put_other hc, has_put_other hc, (h3 _ _ _ hu).1, (h3 _ _ _ hu).2]
      have : ¬ (u, z) = (p, q) := fun h => hc (by
        obtain ⟨rfl, rfl⟩ := Prod.mk.inj h
        exact Option.some.inj (hu.symm.trans hkey))
      rw [decide_eq_false this, Bool.or_false]
      exact ⟨rfl, rfl⟩
end Go.Proofs.Ytaopdhncapoefaa
