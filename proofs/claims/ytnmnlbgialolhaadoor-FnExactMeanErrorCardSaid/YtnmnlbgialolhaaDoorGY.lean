/- Contracts of single functions, and plain lemmas, on which the exact laws of this seat rest; each holds under the conditions that it states. -/
import Derived.Test.YtnmnlbgialolhaaDoorGS
import Derived.Test.YtnmnlbgialolhaaDoorGP
import Derived.Test.YtnmnlbgialolhaaDoorV5
import Derived.Test.YtnmnlbgialolhaaDoorAL2
import Derived.Test.YtnmnlbgialolhaaDoorRJ
import Derived.Test.YtnmnlbgialolhaaDoorS5
namespace Go.Proofs.YtnmnlbgialolhaaDoor
set_option linter.unusedVariables false
set_option linter.unusedSimpArgs false
open Go.RowKit
attribute [local go_sem] Oper.semAt_some

/-- a row that is anywhere above is appended -/
theorem OwnR.snoc2 {W w2 w' : World} {lo n : Nat} {v v' u : Value} {us : Nat → Value} {f : Nat → List Int} {x : List Int} (h : OwnR W lo W.heap.size v us n f) (hlo : lo ≤ W.heap.size) (hb : Below W.heap.size W w2) (hu : OwnN w2 W.heap.size u x) (o : Obj)
    (hown : w'.ownsRow lo 88 1 v' (n + 1) ((List.range n).map us ++ [u])) (hg : (w2.alloc o).grownBy w' v.ownBlock) :
    OwnR w' lo w'.heap.size v' (fun i => if i = n then u else us i) (n + 1) (fun i => if i = n then x else f i) := by
  have hs1 := hb.size
  have hs : w2.heap.size + 1 ≤ w'.heap.size := by have := hg.size; simp at this; omega
  have hrow2 : (w2.alloc o).ownsRow lo 88 1 v n ((List.range n).map us) := World.ownsRow.alloc (own_below h.row hb) o
  have old : ∀ i, i < n → OwnN w' lo (us i) (f i) := fun i hi => by
    have h1 := h.each i hi
    have h2 : (w2.alloc o).ownsRow lo 2 1 (us i) (f i).length (numsV (f i)) := World.ownsRow.alloc (own_below h1 hb) o
    exact own_keep h2 (fun k e => hg.block k (h2.lt k e).2 (fun e2 => own_two hrow2 h2 (by decide) k e2.symm e))
  have new : OwnN w' lo u x := by
    have h2 : (w2.alloc o).ownsRow W.heap.size 2 1 u x.length (numsV x) := World.ownsRow.alloc hu o
    exact own_keep (Joins.ownsRow_le h2 hlo) (fun k e => hg.block k (h2.lt k e).2 (fun e2 => by
      have a1 := (h.row.lt k e2.symm).2
      have a2 := (h2.lt k e).1
      omega))
  refine ⟨?_, fun i hi => ?_, fun i hi k e => ?_, fun k e => (hown.lt k e).2, fun i j hi hj hne k e => ?_⟩
  · have : (List.range (n + 1)).map (fun i => if i = n then u else us i) = (List.range n).map us ++ [u] := by
      rw [List.range_succ, List.map_append]
      congr 1
      · refine List.map_congr_left fun i hi => ?_
        rw [List.mem_range] at hi
        rw [if_neg (by omega)]
      · simp
    rw [this]
    exact hown
  · by_cases e : i = n
    · subst e
      simpa using new
    · simpa [e] using old i (by omega)
  · by_cases e2 : i = n
    · subst e2
      simp only [if_true] at e
      have a2 := (World.ownsRow.lt (h := hu) k e).2
      omega
    · simp only [e2, if_false] at e
      have := h.up i (by omega) k e
      omega
  · by_cases ei : i = n
    · have ej : j ≠ n := fun e2 => hne (ei.trans e2.symm)
      simp only [ei, if_true] at e
      simp only [ej, if_false]
      have a2 := (World.ownsRow.lt (h := hu) k e).1
      intro e3
      have := h.up j (by omega) k e3
      omega
    · simp only [ei, if_false] at e
      by_cases ej : j = n
      · simp only [ej, if_true]
        have := h.up i (by omega) k e
        intro e3
        have a2 := (World.ownsRow.lt (h := hu) k e3).1
        omega
      · simp only [ej, if_false]
        exact h.apart i j (by omega) (by omega) hne k e

/-- the k-th row of a list -/
def rowAt (L : List Int) (a k : Nat) : List Int := (List.range a).map fun x => L.getD (k * a + x) 0
theorem rowAt_len (L : List Int) (a k : Nat) : (rowAt L a k).length = a := by simp [rowAt]
theorem rowAt_at (L : List Int) (a k x : Nat) (hx : x < a) : (rowAt L a k).getD x 0 = L.getD (k * a + x) 0 := by
  rw [List.getD_eq_getElem?_getD]
  unfold rowAt
  rw [List.getElem?_map, List.getElem?_range hx]
  rfl
end Go.Proofs.YtnmnlbgialolhaaDoor

/- Contracts of single functions, and plain lemmas, on which the exact laws of this seat rest; each holds under the conditions that it states. -/
namespace Go.Proofs.YtnmnlbgialolhaaDoor
set_option linter.unusedVariables false
set_option linter.unusedSimpArgs false
open Go.RowKit
attribute [local go_sem] Oper.semAt_some

/-! ### the opposite of a grey picture -/
/-- a list whose first k numbers are the opposite ones -/
def mixV (L : List Int) (N k : Nat) : List Value := (List.range N).map fun j => .int .i64 (if j < k then 99 - L.getD j 0 else L.getD j 0)
theorem mixV_len (L : List Int) (N k : Nat) : (mixV L N k).length = N := by simp [mixV]
theorem mixV_at (L : List Int) (N k : Nat) (h : k < N) : (mixV L N k)[k]? = some (.int .i64 (L.getD k 0)) := by
  unfold mixV
  rw [List.getElem?_map, List.getElem?_range h]
  simp
theorem mixV_set (L : List Int) (N k : Nat) (h : k < N) : (mixV L N k).set k (.int .i64 (99 - L.getD k 0)) = mixV L N (k + 1) := by
  apply List.ext_getElem?
  intro j
  rw [List.getElem?_set]
  unfold mixV
  simp only [List.getElem?_map, List.length_map, List.length_range]
  by_cases e : k = j
  · subst e
    rw [if_pos rfl, if_pos h, List.getElem?_range h]
    simp
  · rw [if_neg e]
    by_cases hj : j < N
    · rw [List.getElem?_range hj]
      simp only [Option.map_some]
      by_cases h2 : j < k
      · rw [if_pos h2, if_pos (by omega)]
      · rw [if_neg h2, if_neg (by omega)]
    · rw [List.getElem?_eq_none (by simp; omega)]
      rfl
theorem mixV_zero (L : List Int) : mixV L L.length 0 = numsV L := by
  apply List.ext_getElem?
  intro j
  unfold mixV numsV
  simp only [List.getElem?_map]
  by_cases hj : j < L.length
  · rw [List.getElem?_range hj, List.getElem?_eq_getElem hj]
    simp [List.getD_eq_getElem?_getD, hj]
  · rw [List.getElem?_eq_none (by simp; omega), List.getElem?_eq_none (by omega)]
    rfl
def ivL (L : List Int) : List Int := L.map fun x => 99 - x
theorem ivL_len (L : List Int) : (ivL L).length = L.length := by simp [ivL]
theorem mixV_full (L : List Int) : mixV L L.length L.length = numsV (ivL L) := by
  apply List.ext_getElem?
  intro j
  unfold mixV numsV ivL
  simp only [List.getElem?_map]
  by_cases hj : j < L.length
  · rw [List.getElem?_range hj, List.getElem?_eq_getElem hj]
    simp [List.getD_eq_getElem?_getD, hj]
  · rw [List.getElem?_eq_none (by simp; omega), List.getElem?_eq_none (by omega)]
    rfl
/-- the opposite numbers -/
def ivGs (gs : List (List Int)) : List (List Int) := (List.range gs.length).map fun y => (List.range (rowF gs 0).length).map fun x => 99 - (rowF gs y).getD x 0
theorem ivGs_len (gs : List (List Int)) : (ivGs gs).length = gs.length := by simp [ivGs]
theorem ivGs_row {m : Int} {gs : List (List Int)} (V : VG m gs) (y : Nat) (hy : y < gs.length) : rowF (ivGs gs) y = rowAt (ivL (flG gs gs.length)) (rowF gs 0).length y := by
  have e1 : rowF (ivGs gs) y = (List.range (rowF gs 0).length).map fun x => 99 - (rowF gs y).getD x 0 := by
    show (ivGs gs).getD y [] = _
    unfold ivGs
    rw [List.getD_eq_getElem?_getD, List.getElem?_map, List.getElem?_range hy]
    rfl
  rw [e1]
  unfold rowAt
  refine List.map_congr_left fun x hx => ?_
  have hx2 := List.mem_range.1 hx
  have hl := flG_len V gs.length (Nat.le_refl _)
  have hlt : y * (rowF gs 0).length + x < (flG gs gs.length).length := by
    have : (y + 1) * (rowF gs 0).length ≤ gs.length * (rowF gs 0).length := Nat.mul_le_mul hy (Nat.le_refl _)
    rw [Nat.add_mul, Nat.one_mul] at this
    omega
  have h1 := flG_at V y x hx2 gs.length (Nat.le_refl _) hy
  have h2 : (ivL (flG gs gs.length)).getD (y * (rowF gs 0).length + x) 0 = 99 - (flG gs gs.length).getD (y * (rowF gs 0).length + x) 0 := by
    unfold ivL
    rw [List.getD_eq_getElem?_getD, List.getElem?_map, List.getD_eq_getElem?_getD, List.getElem?_eq_getElem hlt]
    rfl
  rw [h2, h1]
end Go.Proofs.YtnmnlbgialolhaaDoor

/- Contracts of single functions, and plain lemmas, on which the exact laws of this seat rest; each holds under the conditions that it states. -/
namespace Go.Proofs.YtnmnlbgialolhaaDoor
set_option linter.unusedVariables false
set_option linter.unusedSimpArgs false
open Go.RowKit
attribute [local go_sem] Oper.semAt_some

theorem own_cap2 {W : World} {base g n cap s : Nat} {e : TypeId} {xs : List Value} (h : W.ownsRow base e s (.slice (some ⟨g, 0, none⟩) n cap) n xs) : n ≤ cap := own_capA h _ _ _ rfl
theorem flG_num {m : Int} {gs : List (List Int)} (V : VG m gs) (j : Nat) (hj : j < (flG gs gs.length).length) : 0 ≤ (flG gs gs.length).getD j 0 ∧ (flG gs gs.length).getD j 0 ≤ m := by
  have hw := V.w1
  rw [flG_len V gs.length (Nat.le_refl _)] at hj
  have hm : j % (rowF gs 0).length < (rowF gs 0).length := Nat.mod_lt _ hw
  have hd : j / (rowF gs 0).length < gs.length := Nat.div_lt_of_lt_mul (by rw [Nat.mul_comm]; exact hj)
  have h := flG_at V (j / (rowF gs 0).length) (j % (rowF gs 0).length) hm gs.length (Nat.le_refl _) hd
  rw [show j / (rowF gs 0).length * (rowF gs 0).length + j % (rowF gs 0).length = j from by rw [Nat.mul_comm]; exact Nat.div_add_mod j _] at h
  rw [h]
  exact V.num _ hd _ hm
def ivGp (gs : List (List Int)) : List (List Int) := if vG 99 gs then ivGs gs else []

end Go.Proofs.YtnmnlbgialolhaaDoor

/- Contracts of single functions, and plain lemmas, on which the exact laws of this seat rest; each holds under the conditions that it states. -/
namespace Go.Proofs.YtnmnlbgialolhaaDoor
set_option linter.unusedVariables false
set_option linter.unusedSimpArgs false
open Go.RowKit Go.Shelf
attribute [local go_sem] Oper.semAt_some

/-! ### the opposite numbers, spot by spot -/
/-- row y of a by b when some spots are done -/
def chR (gs : List (List Int)) (a : Nat) {P : Int × Int → Prop} (pre : List { q : Int × Int // P q }) (y : Nat) : List Int :=
  (List.range a).map fun (x : Nat) => if ((x : Int), (y : Int)) ∈ pre.map (·.1) then 99 - (rowF gs y).getD x 0 else 0
theorem chR_len (gs : List (List Int)) (a : Nat) {P : Int × Int → Prop} (pre : List { q : Int × Int // P q }) (y : Nat) : (chR gs a pre y).length = a := by simp [chR]
theorem chR_nil (gs : List (List Int)) (a : Nat) {P : Int × Int → Prop} (y : Nat) : chR gs a ([] : List { q : Int × Int // P q }) y = zerosN a := by
  apply List.ext_getElem?
  intro i
  unfold chR zerosN
  by_cases h : i < a
  · simp [h]
  · simp [h]
theorem mem_snoc2 {P : Int × Int → Prop} (pre : List { q : Int × Int // P q }) (xe : { q : Int × Int // P q }) (p : Int × Int) (h : p ≠ xe.1) : (p ∈ (pre ++ [xe]).map (·.1)) = (p ∈ pre.map (·.1)) := by
  rw [List.map_append, List.mem_append]
  refine propext ⟨fun h2 => ?_, Or.inl⟩
  rcases h2 with h2 | h2
  · exact h2
  · exact absurd (List.mem_singleton.1 h2) h
theorem chR_other (gs : List (List Int)) (a : Nat) {P : Int × Int → Prop} (pre : List { q : Int × Int // P q }) (xe : { q : Int × Int // P q }) (y y' : Nat) (hy : xe.1.2 = y) (hne : y' ≠ y) : chR gs a (pre ++ [xe]) y' = chR gs a pre y' := by
  unfold chR
  refine List.map_congr_left fun x hx => ?_
  have : ((x : Int), (y' : Int)) ≠ xe.1 := fun e => by
    have e2 := congrArg Prod.snd e
    rw [hy] at e2
    simp at e2
    omega
  simp only [mem_snoc2 pre xe _ this]
theorem chR_set (gs : List (List Int)) (a : Nat) {P : Int × Int → Prop} (pre : List { q : Int × Int // P q }) (xe : { q : Int × Int // P q }) (x y : Nat) (hx : xe.1.1 = x) (hy : xe.1.2 = y) (hxa : x < a) : (numsV (chR gs a pre y)).set x (.int .i64 (99 - (rowF gs y).getD x 0)) = numsV (chR gs a (pre ++ [xe]) y) := by
  apply List.ext_getElem?
  intro i
  rw [List.getElem?_set]
  unfold numsV chR
  simp only [List.getElem?_map, List.length_map, List.length_range]
  have hxe : xe.1 = ((x : Int), (y : Int)) := Prod.ext hx hy
  by_cases e : x = i
  · subst e
    rw [if_pos rfl, if_pos hxa, List.getElem?_range hxa]
    simp [hxe]
  · rw [if_neg e]
    by_cases hi : i < a
    · rw [List.getElem?_range hi]
      have : ((i : Int), (y : Int)) ≠ xe.1 := fun e2 => by
        rw [hxe] at e2
        have e3 := congrArg Prod.fst e2
        simp at e3
        omega
      simp only [Option.map_some]
      simp only [mem_snoc2 pre xe _ this]
    · rw [List.getElem?_eq_none (by simp; omega)]
      rfl
theorem chR_full {m : Int} {gs : List (List Int)} (V : VG m gs) (y : Nat) (hy : y < gs.length) : chR gs (rowF gs 0).length ((gGrid (rowF gs 0).length gs.length V.w1 V.n1).list (gs.length * (rowF gs 0).length)) y = rowF (ivGs gs) y := by
  have e1 : rowF (ivGs gs) y = (List.range (rowF gs 0).length).map fun x => 99 - (rowF gs y).getD x 0 := by
    show (ivGs gs).getD y [] = _
    unfold ivGs
    rw [List.getD_eq_getElem?_getD, List.getElem?_map, List.getElem?_range hy]
    rfl
  rw [e1]
  unfold chR
  refine List.map_congr_left fun x hx => ?_
  have hx2 := List.mem_range.1 hx
  have hlt : y * (rowF gs 0).length + x < gs.length * (rowF gs 0).length := by
    have : (y + 1) * (rowF gs 0).length ≤ gs.length * (rowF gs 0).length := Nat.mul_le_mul hy (Nat.le_refl _)
    rw [Nat.add_mul, Nat.one_mul] at this
    omega
  rw [if_pos]
  refine List.mem_map.2 ⟨(gGrid (rowF gs 0).length gs.length V.w1 V.n1).at (y * (rowF gs 0).length + x), ?_, ?_⟩
  · unfold Grid.list
    exact List.mem_map.2 ⟨_, List.mem_range.2 hlt, rfl⟩
  · have d1 : (y * (rowF gs 0).length + x) % (rowF gs 0).length = x := by rw [Nat.mul_comm, Nat.mul_add_mod, Nat.mod_eq_of_lt hx2]
    have d2 : (y * (rowF gs 0).length + x) / (rowF gs 0).length = y := by
      rw [Nat.mul_comm, Nat.mul_add_div (by omega), Nat.div_eq_of_lt hx2, Nat.add_zero]
    refine Prod.ext ?_ ?_
    · show (((y * (rowF gs 0).length + x) % (rowF gs 0).length : Nat) : Int) - ((0 : Nat) : Int) = x
      rw [d1, Int.natCast_zero, Int.sub_zero]
    · show (((y * (rowF gs 0).length + x) / (rowF gs 0).length % gs.length : Nat) : Int) - ((0 : Nat) : Int) = y
      rw [d2, Nat.mod_eq_of_lt hy, Int.natCast_zero, Int.sub_zero]
theorem ownR_from {β : Type} (lo hi B n : Nat) (v : Value) (us : Nat → Value) (f : β → Nat → List Int) (hhi : hi ≤ B) : OwnFrom B (fun (s : β) W => OwnR W lo hi v us n (f s) ∧ hi ≤ W.heap.size) := fun s W W' row h hg hr =>
  ⟨h.1.keep (fun k h1 h2 => hg.block k (Nat.lt_of_lt_of_le h2 h.2) (fun e => by have := (hr k e.symm).1; omega)), Nat.le_trans h.2 hg.size⟩
end Go.Proofs.YtnmnlbgialolhaaDoor
