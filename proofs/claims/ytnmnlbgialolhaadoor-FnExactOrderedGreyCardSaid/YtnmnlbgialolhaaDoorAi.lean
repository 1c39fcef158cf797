/- Contracts of single functions, and plain lemmas, on which the exact laws of this seat rest; each holds under the conditions that it states. -/
import Derived.Test.YtnmnlbgialolhaaDoorAb
import Derived.Test.YtnmnlbgialolhaaDoorQb
import Derived.Test.YtnmnlbgialolhaaDoorPb
import Derived.Test.YtnmnlbgialolhaaDoorA2
import Derived.Maps.Views
import Derived.Maps.OwnOps
import Derived.Maps.OwnSet
import Derived.DeepKeys4
import Derived.Maps.AppendAt
namespace Go.Proofs.YtnmnlbgialolhaaDoor
set_option linter.unusedVariables false
set_option linter.unusedSimpArgs false
open Go.RowKit

theorem sq_same (n : Nat) (h : 1 ≤ n ∧ n ≤ 5) : grL n 0 (fun _ _ => true) (n * n) = elL (sqF n) := by
  obtain ⟨h1, h2⟩ := h
  rcases (by omega : n = 1 ∨ n = 2 ∨ n = 3 ∨ n = 4 ∨ n = 5) with rfl | rfl | rfl | rfl | rfl <;> decide +kernel

end Go.Proofs.YtnmnlbgialolhaaDoor

/- Contracts of single functions, and plain lemmas, on which the exact laws of this seat rest; each holds under the conditions that it states. -/
namespace Go.Proofs.YtnmnlbgialolhaaDoor
set_option linter.unusedVariables false
set_option linter.unusedSimpArgs false
open Go.RowKit

theorem grown_trans_alloc {w w' : World} {o : Obj} {row : Option Nat} (hg : (w.alloc o).grownBy w' row) : w.grownBy w' row := by
  refine ⟨hg.os, hg.tape, hg.output, Nat.le_trans (by simp) hg.size, fun j hj hr => ?_⟩
  rw [hg.block j (by simp; omega) hr]
  exact Below.heap_alloc _ _ _ hj
end Go.Proofs.YtnmnlbgialolhaaDoor

/- Contracts of single functions, and plain lemmas, on which the exact laws of this seat rest; each holds under the conditions that it states. -/
namespace Go.Proofs.YtnmnlbgialolhaaDoor
set_option linter.unusedVariables false
set_option linter.unusedSimpArgs false
open Go.RowKit

/-! ### valid elements are those that an element of their own offsets is -/
theorem bef_iff (a b : Int × Int) : befB a b = true ↔ (a.2 < b.2 ∨ (a.2 = b.2 ∧ a.1 < b.1)) := by simp [befB]
theorem bef_trans {a b c : Int × Int} (h : befB a b = true) (k : befB b c = true) : befB a c = true := by
  rw [bef_iff] at *; omega
theorem bef_irr (a : Int × Int) : ¬ befB a a = true := by rw [bef_iff]; omega
theorem bef_asym {a b : Int × Int} (h : befB a b = true) : ¬ befB b a = true := by rw [bef_iff] at *; omega
abbrev Srt (l : List (Int × Int)) : Prop := l.Pairwise (fun a b => befB a b = true)
theorem srt_eq : ∀ {l1 l2 : List (Int × Int)}, Srt l1 → Srt l2 → (∀ p, p ∈ l1 ↔ p ∈ l2) → l1 = l2
  | [], [], _, _, _ => rfl
  | [], b :: l2, _, _, h => absurd ((h b).2 (List.mem_cons_self ..)) (by simp)
  | a :: l1, [], _, _, h => absurd ((h a).1 (List.mem_cons_self ..)) (by simp)
  | a :: l1, b :: l2, h1, h2, h => by
    have k1 := List.pairwise_cons.1 h1
    have k2 := List.pairwise_cons.1 h2
    have e : a = b := by
      rcases List.mem_cons.1 ((h a).1 (List.mem_cons_self ..)) with e | e
      · exact e
      · rcases List.mem_cons.1 ((h b).2 (List.mem_cons_self ..)) with e' | e'
        · exact e'.symm
        · exact absurd (k2.1 a e) (bef_asym (k1.1 b e'))
    subst e
    congr 1
    refine srt_eq k1.2 k2.2 fun p => ⟨fun hp => ?_, fun hp => ?_⟩
    · rcases List.mem_cons.1 ((h p).1 (List.mem_cons_of_mem _ hp)) with e | e
      · subst e; exact absurd (k1.1 _ hp) (bef_irr _)
      · exact e
    · rcases List.mem_cons.1 ((h p).2 (List.mem_cons_of_mem _ hp)) with e | e
      · subst e; exact absurd (k2.1 _ hp) (bef_irr _)
      · exact e

set_option maxRecDepth 100000 in
theorem offL_srt : (offL 81).Pairwise (fun a b => befB a.1 b.1 = true) := by decide +kernel
theorem off_mem (x : Off) : x ∈ offL 81 := by
  obtain ⟨⟨a, b⟩, ⟨h1, h2⟩, h3, h4⟩ := x
  simp only at h1 h2 h3 h4
  unfold offL
  refine List.mem_map.2 ⟨((b + 4) * 9 + (a + 4)).toNat, List.mem_range.2 (by omega), ?_⟩
  apply Subtype.ext
  simp only [offAt]
  refine Prod.ext ?_ ?_
  · show ((((b + 4) * 9 + (a + 4)).toNat % 9 : Nat) : Int) - 4 = a
    omega
  · show ((((b + 4) * 9 + (a + 4)).toNat / 9 % 9 : Nat) : Int) - 4 = b
    omega
theorem elL_srt (f : Int → Int → Bool) : Srt (elL f) := by
  unfold elL selL Srt
  rw [List.pairwise_map]
  exact offL_srt.filter _
theorem elL_mem (f : Int → Int → Bool) (p : Int × Int) : p ∈ elL f ↔ (((-4 ≤ p.1 ∧ p.1 ≤ 4) ∧ (-4 ≤ p.2 ∧ p.2 ≤ 4)) ∧ f p.1 p.2 = true) := by
  unfold elL selL
  rw [List.mem_map]
  constructor
  · rintro ⟨x, hx, rfl⟩
    exact ⟨x.2, (List.mem_filter.1 hx).2⟩
  · rintro ⟨h, hf⟩
    exact ⟨⟨p, h⟩, List.mem_filter.2 ⟨off_mem _, hf⟩, rfl⟩
theorem okO_iff (p : Int × Int) : okO p = true ↔ ((-4 ≤ p.1 ∧ p.1 ≤ 4) ∧ (-4 ≤ p.2 ∧ p.2 ≤ 4)) := by simp [okO]

theorem getD_of_lt {xs : List (Int × Int)} {i : Nat} (h : i < xs.length) : xs.getD i (0, 0) = xs[i] := by
  rw [List.getD_eq_getElem?_getD, List.getElem?_eq_getElem h]; rfl
theorem srt_of_steps {xs : List (Int × Int)} (h : ∀ i, i < xs.length → stepOk xs i = true) : Srt xs := by
  have key : ∀ j, ∀ i, i < j → (hj : j < xs.length) → befB (xs.getD i (0, 0)) (xs.getD j (0, 0)) = true := by
    intro j
    induction j with
    | zero => intro i hi; omega
    | succ j ih =>
      intro i hi hj
      have hs := h (j + 1) hj
      unfold stepOk at hs
      simp at hs
      by_cases e : i = j
      · subst e; simpa using hs.2
      · exact bef_trans (ih i (by omega) (by omega)) (by simpa using hs.2)
  unfold Srt
  rw [List.pairwise_iff_getElem]
  intro i j hi hj hij
  have := key j i hij hj
  rwa [getD_of_lt hi, getD_of_lt hj] at this
theorem steps_of_srt {xs : List (Int × Int)} (h : Srt xs) (hr : ∀ p ∈ xs, okO p = true) : ∀ i, i < xs.length → stepOk xs i = true := by
  intro i hi
  unfold stepOk
  rw [getD_of_lt hi, hr _ (List.getElem_mem hi), Bool.true_and]
  by_cases e : i = 0
  · simp [e]
  · rw [getD_of_lt (show i - 1 < xs.length by omega)]
    unfold Srt at h
    rw [List.pairwise_iff_getElem] at h
    rw [h (i - 1) i (by omega) hi (by omega), Bool.or_true]

def memB (xs : List (Int × Int)) (x y : Int) : Bool := decide ((x, y) ∈ xs)
/-- how many different ones are among the first k -/
def dC (xs : List (Int × Int)) : Nat → Nat
  | 0 => 0
  | k + 1 => if xs.getD k (0, 0) ∈ xs.take k then dC xs k else dC xs k + 1
theorem dC_le (xs : List (Int × Int)) : ∀ k, dC xs k ≤ k
  | 0 => Nat.le_refl _
  | k + 1 => by have := dC_le xs k; simp only [dC]; split <;> omega
theorem dC_srt {xs : List (Int × Int)} (h : Srt xs) : ∀ k, k ≤ xs.length → dC xs k = k
  | 0, _ => rfl
  | k + 1, hk => by
    have ih := dC_srt h k (by omega)
    simp only [dC]
    rw [if_neg, ih]
    intro hm
    obtain ⟨j, hj, e⟩ := List.mem_take_iff_getElem.1 hm
    unfold Srt at h
    rw [List.pairwise_iff_getElem] at h
    have := h j k (by omega) (by omega) (by omega)
    rw [e, getD_of_lt (by omega)] at this
    exact bef_irr _ this

theorem el_self {xs : List (Int × Int)} (h : ∀ i, i < xs.length → stepOk xs i = true) : elL (memB xs) = xs := by
  refine srt_eq (elL_srt _) (srt_of_steps h) fun p => ?_
  rw [elL_mem]
  constructor
  · rintro ⟨_, h2⟩
    exact of_decide_eq_true h2
  · intro hp
    obtain ⟨i, hi, e⟩ := List.mem_iff_getElem.1 hp
    have hs := h i hi
    unfold stepOk at hs
    rw [getD_of_lt hi, Bool.and_eq_true] at hs
    rw [e] at hs
    exact ⟨(okO_iff p).1 hs.1, decide_eq_true hp⟩

/-- what ValidElement reckons -/
theorem valid_eq (xs : List (Int × Int)) : (decide ((elL (memB xs)).length = dC xs xs.length) && (decide (1 ≤ dC xs xs.length) && decide (dC xs xs.length ≤ 50)) && decide (elL (memB xs) = xs)) = elB xs := by
  by_cases h : ∀ i, i < xs.length → stepOk xs i = true
  · have e := el_self h
    rw [e, dC_srt (srt_of_steps h) _ (Nat.le_refl _), elB_good h]
    simp
  · obtain ⟨i, hi⟩ : ∃ i, ¬ (i < xs.length → stepOk xs i = true) := Classical.not_forall.1 h
    have hlt : i < xs.length := Classical.byContradiction fun k => hi (fun h' => absurd h' k)
    have hst : stepOk xs i = false := by
      cases e : stepOk xs i with
      | false => rfl
      | true => exact absurd (fun _ => e) hi
    rw [elB_bad hlt hst]
    have hne : elL (memB xs) ≠ xs := fun e => h (by
      have hs := elL_srt (memB xs)
      rw [e] at hs
      refine steps_of_srt hs fun p hp => ?_
      rw [← e] at hp
      exact (okO_iff p).2 ((elL_mem _ _).1 hp).1)
    rw [decide_eq_false hne, Bool.and_false]
end Go.Proofs.YtnmnlbgialolhaaDoor

/- Contracts of single functions, and plain lemmas, on which the exact laws of this seat rest; each holds under the conditions that it states. -/
namespace Go.Proofs.YtnmnlbgialolhaaDoor
set_option linter.unusedVariables false
set_option maxRecDepth 100000
set_option linter.unusedSimpArgs false
open Go.RowKit Go.Maps

/-! ### a set of spots that the call keeps in a map -/
theorem laidOutE : laidOutB Tryd.prog = true := by kernel_rfl
theorem wideSpot : (match Tryd.prog.underlying 93 with | some (.array _ _) | some (.struct _) => true | _ => false) = true := by rw [Tryd.underlying93]
set_option maxRecDepth 100000 in
theorem lawSpot : Keyed Tryd.prog 93 := Keyed.of_law (deep_law_laid laidOutE (m := 4) (by omega) (of_decide_eq_true (by kernel_rfl)) (by kernel_rfl) wideSpot)
theorem zeroBoolE (w : World) : (zeroValue 4).run Tryd.prog w = .ok (.bool false) w := by kernel_rfl
def spV (x y : Int) : Value := .agg #[.int .i64 x, .int .i64 y]
theorem spV_inj {x y x' y' : Int} (h : spV x y = spV x' y') : x = x' ∧ y = y' := by unfold spV at h; simpa using h
theorem cellsSpotE : Tryd.prog.cellsOf 93 = 2 := by kernel_rfl
theorem cellsI64E : Tryd.prog.cellsOf 2 = 1 := by kernel_rfl
theorem keyTypeSpot : Tryd.prog.keyType 93 = true := by kernel_rfl
theorem manyTypesE : 4 ≤ Tryd.prog.types.size := of_decide_eq_true (by kernel_rfl)
theorem keySpot (x y : Int) (hx : (Lit.int .i64 x).wf = true) (hy : (Lit.int .i64 y).wf = true) : ∃ kl, keyOf Tryd.prog 93 (spV x y) = some kl := by
  refine ⟨.string (keyBytes [.int .i64 x, .int .i64 y]), ?_⟩
  have h2 : (spV x y).formed Tryd.prog 93 = true := by simp [Value.formed, spV, Tryd.underlying93, cellsSpotE]
  obtain ⟨m, hm⟩ : ∃ m, Tryd.prog.types.size + 1 = m + 5 := ⟨Tryd.prog.types.size - 4, by have := manyTypesE; omega⟩
  have h3 : Tryd.prog.keyLits (Tryd.prog.types.size + 1) 93 (spV x y).cells.toList = some [.int .i64 x, .int .i64 y] := by
    rw [hm]
    simp [Program.keyLits, spV, Value.cells, Tryd.underlying93, Tryd.underlying2, cellsSpotE, cellsI64E, hx, hy]
    try rfl
  unfold keyOf
  rw [Tryd.underlying93]
  simp only [keyTypeSpot, h2, Bool.and_self, if_true, h3, Option.map_some]

/-- block b is a map with just the spots of xs, N of them -/
def SetS (w : World) (b m N : Nat) (xs : List (Int × Int)) : Prop :=
  ∃ D : DataW Unit, w.ownsMap Tryd.prog 93 (plainElem Tryd.prog 4) b m D ∧ Tidy D ∧ Maps.size D = N ∧
    ∀ x y kl, keyOf Tryd.prog 93 (spV x y) = some kl → D.atKey kl (.lit (.bool false)) = .lit (.bool (memB xs x y)) ∧ Maps.has D kl = memB xs x y
theorem SetS.made (w : World) : SetS (w.alloc (.map #[] 0)) w.heap.size 0 0 [] :=
  ⟨_, World.ownsMap_made w Tryd.prog _ _, tidy_empty, rfl, fun _ _ _ _ => ⟨rfl, rfl⟩⟩
theorem SetS.lt {w : World} {b m N : Nat} {xs : List (Int × Int)} (h : SetS w b m N xs) : b < w.heap.size := by
  obtain ⟨D, h1, _⟩ := h; exact h1.lt
theorem SetS.block {w w' : World} {b m N : Nat} {xs : List (Int × Int)} (h : SetS w b m N xs) (hb : w'.heap[b]? = w.heap[b]?) : SetS w' b m N xs := by
  obtain ⟨D, ⟨es, clock, h1, h2⟩, h3⟩ := h
  exact ⟨D, ⟨es, clock, hb.trans h1, h2⟩, h3⟩
theorem SetS.below {w w' : World} {b m N : Nat} {xs : List (Int × Int)} (h : SetS w b m N xs) (hb : Below w.heap.size w w') : SetS w' b m N xs :=
  h.block (hb.block b h.lt)
theorem SetS.look {w : World} {b m N : Nat} {xs : List (Int × Int)} {t : TypeId} (h : SetS w b m N xs) (ht : Tryd.prog.underlying t = some (.map 93 4)) {x y : Int} {kl : Lit} (hkey : keyOf Tryd.prog 93 (spV x y) = some kl) :
    (Instr.lookup t (.map (some b)) (spV x y) false).run Tryd.prog w = .ok (.bool (memB xs x y)) w := by
  obtain ⟨D, h1, _, _, h3⟩ := h
  obtain ⟨v, ps, hrun, hv⟩ := h1.lookup lawSpot ht (zeroBoolE w) (plainElem_bool Tryd.underlying4 false) hkey
  rw [(h3 _ _ _ hkey).1] at hv
  have : v = .bool (memB xs x y) := by
    unfold plainElem at hv
    rw [Tryd.underlying4] at hv
    cases v <;> simp at hv
    rw [hv.1]
  rw [this] at hrun
  exact hrun
theorem SetS.len {w : World} {b m N : Nat} {xs : List (Int × Int)} {t : TypeId} (h : SetS w b m N xs) (ht : Tryd.prog.underlying t = some (.map 93 4)) (ty : TypeId) : (Builtin.len_ #[t] ty #[.map (some b)]).run Tryd.prog w = .ok (.int .i64 (N : Int)) w := by
  obtain ⟨D, h1, _, h2, _⟩ := h
  have := h1.len ht ty
  rwa [h2] at this

theorem memB_snoc (xs : List (Int × Int)) (a c x y : Int) : memB (xs ++ [(a, c)]) x y = (memB xs x y || decide ((x, y) = (a, c))) := by
  unfold memB
  rw [Bool.eq_iff_iff]
  simp
/-- a spot is put into the set -/
theorem wpList_put_spot {w : World} {ops : Array Oper} {rest : List Oper} {o : Oper} {a : Act} {Q : Exit → Act → World → Prop} {t : TypeId}
    (hg : o.guard = none) (mm x v : Operand) (hop : o.op = Op.mapUpdate t mm x v) (ht : Tryd.prog.underlying t = some (.map 93 4))
    (b m N : Nat) (xs : List (Int × Int)) (hm : a.eval mm = .map (some b)) (hs : SetS w b m N xs) (hn : m < maxLen) (p q : Int) (hx : a.eval x = spV p q) (hv : a.eval v = .bool true) (hp : (Lit.int .i64 p).wf = true) (hq : (Lit.int .i64 q).wf = true)
    (N' : Nat) (hN' : N' = if (p, q) ∈ xs then N else N + 1)
    (hK : ∀ w', SetS w' b (m + 1) N' (xs ++ [(p, q)]) → w.grownBy w' (some b) → wpList Tryd.prog ops Q rest (a.put o.dst undef) w') :
    wpList Tryd.prog ops Q (o :: rest) a w := by
  subst hN'
  obtain ⟨D, h1, h2, h2', h3⟩ := hs
  obtain ⟨kl, hkey⟩ := keySpot p q hp hq
  refine wpList_mapUpdate_own w hg mm x v t hop 93 4 lawSpot ht (plainElem Tryd.prog 4) b m D hm h1 hn (spV p q) (.bool true) kl hx hv hkey (.lit (.bool true)) [] (plainElem_bool Tryd.underlying4 true) fun w' ho hgr => hK w' ⟨_, ho, h2.put (lawSpot.key hkey) _, ?_, fun u z ul hu => ?_⟩ hgr
  · rw [size_put h2, (h3 _ _ _ hkey).2, h2']
    unfold memB
    by_cases hm2 : (p, q) ∈ xs
    · simp [hm2]
    · simp [hm2]
  · rw [memB_snoc]
    by_cases hc : ul = kl
    · subst hc
      obtain ⟨rfl, rfl⟩ := spV_inj (lawSpot.inj hu hkey)
      rw [atKey_put_same h2.isMap (lawSpot.key hkey), has_put_same h2.isMap (lawSpot.key hkey)]
      simp
    · rw [atKey_put_other hc, has_put_other hc, (h3 _ _ _ hu).1, (h3 _ _ _ hu).2]
      have : ¬ (u, z) = (p, q) := fun h => hc (by
        obtain ⟨rfl, rfl⟩ := Prod.mk.inj h
        exact Option.some.inj (hu.symm.trans hkey))
      rw [decide_eq_false this, Bool.or_false]
      exact ⟨rfl, rfl⟩
end Go.Proofs.YtnmnlbgialolhaaDoor

/- Contracts of single functions, and plain lemmas, on which the exact laws of this seat rest; each holds under the conditions that it states. -/
namespace Go.Proofs.YtnmnlbgialolhaaDoor
set_option linter.unusedVariables false
set_option linter.unusedSimpArgs false
open Go.RowKit Go.Maps

theorem wfE {x : Int} (h1 : -9223372036854775808 ≤ x) (h2 : x ≤ 9223372036854775807) : (Lit.int .i64 x).wf = true := by
  have e1 : IntKind.i64.min = -9223372036854775808 := by decide
  have e2 : IntKind.i64.max = 9223372036854775807 := by decide
  simp [Lit.wf, e1, e2]
  omega

/-- a variable is no map -/
theorem var_set {w w' : World} {P b m N : Nat} {t : TypeId} {cs : Array Value} {xs : List (Int × Int)} (h : w.heap[P]? = some (.cells cs t (0, 0))) (hs : SetS w b m N xs) (hg : w.grownBy w' (some b)) : w'.heap[P]? = some (.cells cs t (0, 0)) := by
  refine (hg.block P (Array.getElem?_eq_some_iff.1 h).1 fun e => ?_).trans h
  have e := Option.some.inj e
  subst e
  obtain ⟨D, ⟨es, clock, h1, _⟩, _⟩ := hs
  rw [h] at h1
  cases h1

/-- what offsetsOf hands back -/
def SaysSet (xs : List (Int × Int)) (w : World) (e : Ending) (w' : World) : Prop := ∃ b, e = .returned (.map (some b)) ∧ SetS w' b xs.length (dC xs xs.length) xs ∧ Below w.heap.size w w'

theorem take_more {xs : List (Int × Int)} {k : Nat} (h : k < xs.length) : xs.take (k + 1) = xs.take k ++ [((xs.getD k (0, 0)).1, (xs.getD k (0, 0)).2)] := by
  rw [List.take_add_one, List.getElem?_eq_getElem h, List.getD_eq_getElem?_getD, List.getElem?_eq_getElem h]; rfl

end Go.Proofs.YtnmnlbgialolhaaDoor
