/- Contracts of single functions, and plain lemmas, on which the exact laws of this seat rest; each holds under the conditions that it states. -/
import Derived.Test.YtnmnlbgialolhaaDoorQb
import Derived.Test.YtnmnlbgialolhaaDoorRc
import Derived.Deep.RegionHeld3
import Derived.RegionTactic
import Derived.BigRegion
import Derived.Deep.RegionWith
import Derived.Test.YtnmnlbgialolhaaDoorAn
import Derived.Test.YtnmnlbgialolhaaDoorGA
import Derived.Test.YtnmnlbgialolhaaDoorAi
import Derived.Test.YtnmnlbgialolhaaDoorGW
import Derived.Test.YtnmnlbgialolhaaDoorGP
import Derived.Test.YtnmnlbgialolhaaDoorRJ
import Derived.Test.YtnmnlbgialolhaaDoorS5
namespace Go.Proofs.YtnmnlbgialolhaaDoor
set_option linter.unusedVariables false
set_option linter.unusedSimpArgs false
open Go.RowKit

/-! ### an argument that is a slice of spots -/
/-- the spots xs lie in w from block b, cell off on -/
def SpotsAt (w : World) (b off : Nat) (xs : List (Int × Int)) : Prop := b < w.heap.size ∧ ∀ i, i < xs.length → w.cell? ⟨b, off + i * 2, none⟩ = some (.int .i64 (xs.getD i (0, 0)).1) ∧ w.cell? ⟨b, off + i * 2 + 1, none⟩ = some (.int .i64 (xs.getD i (0, 0)).2)
theorem SpotsAt.below {w w' : World} {b off : Nat} {xs : List (Int × Int)} (h : SpotsAt w b off xs) (hb : Below w.heap.size w w') : SpotsAt w' b off xs :=
  ⟨Nat.lt_of_lt_of_le h.1 hb.size, fun i hi => ⟨cell_kept hb (h.2 i hi).1, cell_kept hb (h.2 i hi).2⟩⟩
def SlA (w : World) (v : Value) (xs : List (Int × Int)) : Prop :=
  (∃ ao cap, v = .slice ao 0 cap ∧ xs = []) ∨ (∃ b off cap, v = .slice (some ⟨b, off, none⟩) xs.length cap ∧ 0 < xs.length ∧ SpotsAt w b off xs)
theorem SlA.below {w w' : World} {v : Value} {xs : List (Int × Int)} (h : SlA w v xs) (hb : Below w.heap.size w w') : SlA w' v xs := by
  rcases h with h | ⟨b, off, cap, h1, h2, h3⟩
  · exact Or.inl h
  · exact Or.inr ⟨b, off, cap, h1, h2, h3.below hb⟩

/-- the first c cells are copied -/
def part2 (xs : List (Int × Int)) (n c : Nat) : List Value := (List.range (n * 2)).map fun j => if j < c then Value.int .i64 (spotC xs j) else Value.int .i64 0
theorem part2_full (xs : List (Int × Int)) (n : Nat) (h : xs.length = n) : part2 xs n (n * 2) = flat2 xs := by
  unfold part2 flat2
  rw [h]
  apply List.map_congr_left
  intro j hj
  simp only [List.mem_range] at hj
  rw [if_pos hj]
theorem part2_set (xs : List (Int × Int)) (n c : Nat) : (part2 xs n c).set c (.int .i64 (spotC xs c)) = part2 xs n (c + 1) := by
  unfold part2
  rw [set_map_range]
  apply List.map_congr_left
  intro j hj
  by_cases h1 : j = c
  · subst h1; simp
  · by_cases h2 : j < c
    · simp [h1, h2, show j < c + 1 from by omega]
    · simp [h1, h2, show ¬ j < c + 1 from by omega]
theorem part2_at (xs : List (Int × Int)) (n c : Nat) (h : c < n * 2) : (part2 xs n c)[c]? = some (.int .i64 0) := by
  unfold part2
  simp [h]
theorem part2_zero (xs : List (Int × Int)) (n : Nat) : (madeCells #[.int .i64 0, .int .i64 0] (n * 2)).toList = part2 xs n 0 := by
  unfold madeCells part2
  simp only [Nat.not_lt_zero, if_false]
  simp only [Array.toList_map, Array.toList_range]
  apply List.map_congr_left
  intro j hj
  have : j % 2 < 2 := Nat.mod_lt _ (by omega)
  show (#[Value.int .i64 0, Value.int .i64 0] : Array Value)[j % 2]! = _
  rcases Nat.mod_two_eq_zero_or_one j with h | h <;> rw [h] <;> rfl

/-- a copy of spots of the call's own -/
def TookSp (w : World) (n : Nat) (xs : List (Int × Int)) (e : Ending) (w' : World) : Prop := e = .returned (.slice (some ⟨w.heap.size, 0, none⟩) n n) ∧ OwnS w' w.heap.size (.slice (some ⟨w.heap.size, 0, none⟩) n n) xs ∧ Below w.heap.size w w'

end Go.Proofs.YtnmnlbgialolhaaDoor

/- Contracts of single functions, and plain lemmas, on which the exact laws of this seat rest; each holds under the conditions that it states. -/
namespace Go.Proofs.YtnmnlbgialolhaaDoor
set_option linter.unusedVariables false
set_option linter.unusedSimpArgs false
open Go.RowKit

/-- a copy of an element -/
def TookEl (w : World) (xs : List (Int × Int)) (e : Ending) (w' : World) : Prop := ∃ g cap, e = .returned (.agg #[.slice (some ⟨g, 0, none⟩) xs.length cap]) ∧ OwnS w' w.heap.size (.slice (some ⟨g, 0, none⟩) xs.length cap) xs ∧ Below w.heap.size w w'

end Go.Proofs.YtnmnlbgialolhaaDoor

/- Contracts of single functions, and plain lemmas, on which the exact laws of this seat rest; each holds under the conditions that it states. -/
namespace Go.Proofs.YtnmnlbgialolhaaDoor
set_option linter.unusedVariables false
open Go.RowKit

/-- an element's offsets -/
abbrev ElO (lo hi : Nat) (v : Value) (xs : List (Int × Int)) : World → Prop := Row 93 2 lo hi v xs.length (flat2 xs)
theorem ElO.of {W : World} {lo hi : Nat} {v : Value} {xs : List (Int × Int)} (h : OwnS W lo v xs) (hh : W.heap.size ≤ hi) : ElO lo hi v xs W :=
  ⟨h, fun j hj => Nat.lt_of_lt_of_le (h.lt j hj).2 hh⟩
theorem ElO.sl {W : World} {lo hi : Nat} {v : Value} {xs : List (Int × Int)} (h : ElO lo hi v xs W) : SlS W v xs := OwnS.sl h.o
/-- a row of one's own has room for what it holds -/
theorem own_capA {W : World} {base s n : Nat} {e : TypeId} {v : Value} {xs : List Value} (h : W.ownsRow base e s v n xs) : ∀ ao m c, v = .slice ao m c → m ≤ c := by
  intro ao m c hv
  rcases h.2 with ⟨rfl, rfl⟩ | ⟨g, cap, cur, rfl, _, _, hc, _⟩
  · cases hv; exact Nat.le_refl _
  · cases hv; exact hc
end Go.Proofs.YtnmnlbgialolhaaDoor

/- Contracts of single functions, and plain lemmas, on which the exact laws of this seat rest; each holds under the conditions that it states. -/
namespace Go.Proofs.YtnmnlbgialolhaaDoor
set_option linter.unusedVariables false
set_option linter.unusedSimpArgs false
open Go.RowKit
attribute [local go_sem] Oper.semAt_some

theorem own_cap2 {W : World} {base g n cap s : Nat} {e : TypeId} {xs : List Value} (h : W.ownsRow base e s (.slice (some ⟨g, 0, none⟩) n cap) n xs) : n ≤ cap := own_capA h _ _ _ rfl
theorem flG_num {m : Int} {gs : List (List Int)} (V : VG m gs) (j : Nat) (hj : j < (flG gs gs.length).length) : 0 ≤ (flG gs gs.length).getD j 0 ∧ (flG gs gs.length).getD j 0 ≤ m := by
  have hw := V.w1
  rw [flG_len V gs.length (Nat.le_refl _)] at hj
  have hm : j % (rowF gs 0).length < (rowF gs 0).length := Nat.mod_lt _ hw
  have hd : j / (rowF gs 0).length < gs.length := Nat.div_lt_of_lt_mul (by rw [Nat.mul_comm]; exact hj)
  have h := flG_at V (j / (rowF gs 0).length) (j % (rowF gs 0).length) hm gs.length (Nat.le_refl _) hd
  rw [show j / (rowF gs 0).length * (rowF gs 0).length + j % (rowF gs 0).length = j from by rw [Nat.mul_comm]; exact Nat.div_add_mod j _] at h
  rw [h]
  exact V.num _ hd _ hm
def ivGp (gs : List (List Int)) : List (List Int) := if vG 99 gs then ivGs gs else []

end Go.Proofs.YtnmnlbgialolhaaDoor

/- Contracts of single functions, and plain lemmas, on which the exact laws of this seat rest; each holds under the conditions that it states. -/
namespace Go.Proofs.YtnmnlbgialolhaaDoor
set_option linter.unusedVariables false
set_option linter.unusedSimpArgs false
open Go.RowKit Go.Shelf
attribute [local go_sem] Oper.semAt_some

/-! ### the opposite numbers, spot by spot -/
/-- row y of a by b when some spots are done -/
def chR (gs : List (List Int)) (a : Nat) {P : Int × Int → Prop} (pre : List { q : Int × Int // P q }) (y : Nat) : List Int :=
  (List.range a).map fun (x : Nat) => if ((x : Int), (y : Int)) ∈ pre.map (·.1) then 99 - (rowF gs y).getD x 0 else 0
theorem chR_len (gs : List (List Int)) (a : Nat) {P : Int × Int → Prop} (pre : List { q : Int × Int // P q }) (y : Nat) : (chR gs a pre y).length = a := by simp [chR]
theorem chR_nil (gs : List (List Int)) (a : Nat) {P : Int × Int → Prop} (y : Nat) : chR gs a ([] : List { q : Int × Int // P q }) y = zerosN a := by
  apply List.ext_getElem?
  intro i
  unfold chR zerosN
  by_cases h : i < a
  · simp [h]
  · simp [h]
theorem mem_snoc2 {P : Int × Int → Prop} (pre : List { q : Int × Int // P q }) (xe : { q : Int × Int // P q }) (p : Int × Int) (h : p ≠ xe.1) : (p ∈ (pre ++ [xe]).map (·.1)) = (p ∈ pre.map (·.1)) := by
  rw [List.map_append, List.mem_append]
  refine propext ⟨fun h2 => ?_, Or.inl⟩
  rcases h2 with h2 | h2
  · exact h2
  · exact absurd (List.mem_singleton.1 h2) h
theorem chR_other (gs : List (List Int)) (a : Nat) {P : Int × Int → Prop} (pre : List { q : Int × Int // P q }) (xe : { q : Int × Int // P q }) (y y' : Nat) (hy : xe.1.2 = y) (hne : y' ≠ y) : chR gs a (pre ++ [xe]) y' = chR gs a pre y' := by
  unfold chR
  refine List.map_congr_left fun x hx => ?_
  have : ((x : Int), (y' : Int)) ≠ xe.1 := fun e => by
    have e2 := congrArg Prod.snd e
    rw [hy] at e2
    simp at e2
    omega
  simp only [mem_snoc2 pre xe _ this]
theorem chR_set (gs : List (List Int)) (a : Nat) {P : Int × Int → Prop} (pre : List { q : Int × Int // P q }) (xe : { q : Int × Int // P q }) (x y : Nat) (hx : xe.1.1 = x) (hy : xe.1.2 = y) (hxa : x < a) : (numsV (chR gs a pre y)).set x (.int .i64 (99 - (rowF gs y).getD x 0)) = numsV (chR gs a (pre ++ [xe]) y) := by
  apply List.ext_getElem?
  intro i
  rw [List.getElem?_set]
  unfold numsV chR
  simp only [List.getElem?_map, List.length_map, List.length_range]
  have hxe : xe.1 = ((x : Int), (y : Int)) := Prod.ext hx hy
  by_cases e : x = i
  · subst e
    rw [if_pos rfl, if_pos hxa, List.getElem?_range hxa]
    simp [hxe]
  · rw [if_neg e]
    by_cases hi : i < a
    · rw [List.getElem?_range hi]
      have : ((i : Int), (y : Int)) ≠ xe.1 := fun e2 => by
        rw [hxe] at e2
        have e3 := congrArg Prod.fst e2
        simp at e3
        omega
      simp only [Option.map_some]
      simp only [mem_snoc2 pre xe _ this]
    · rw [List.getElem?_eq_none (by simp; omega)]
      rfl
theorem chR_full {m : Int} {gs : List (List Int)} (V : VG m gs) (y : Nat) (hy : y < gs.length) : chR gs (rowF gs 0).length ((gGrid (rowF gs 0).length gs.length V.w1 V.n1).list (gs.length * (rowF gs 0).length)) y = rowF (ivGs gs) y := by
  have e1 : rowF (ivGs gs) y = (List.range (rowF gs 0).length).map fun x => 99 - (rowF gs y).getD x 0 := by
    show (ivGs gs).getD y [] = _
    unfold ivGs
    rw [List.getD_eq_getElem?_getD, List.getElem?_map, List.getElem?_range hy]
    rfl
  rw [e1]
  unfold chR
  refine List.map_congr_left fun x hx => ?_
  have hx2 := List.mem_range.1 hx
  have hlt : y * (rowF gs 0).length + x < gs.length * (rowF gs 0).length := by
    have : (y + 1) * (rowF gs 0).length ≤ gs.length * (rowF gs 0).length := Nat.mul_le_mul hy (Nat.le_refl _)
    rw [Nat.add_mul, Nat.one_mul] at this
    omega
  rw [if_pos]
  refine List.mem_map.2 ⟨(gGrid (rowF gs 0).length gs.length V.w1 V.n1).at (y * (rowF gs 0).length + x), ?_, ?_⟩
  · unfold Grid.list
    exact List.mem_map.2 ⟨_, List.mem_range.2 hlt, rfl⟩
  · have d1 : (y * (rowF gs 0).length + x) % (rowF gs 0).length = x := by rw [Nat.mul_comm, Nat.mul_add_mod, Nat.mod_eq_of_lt hx2]
    have d2 : (y * (rowF gs 0).length + x) / (rowF gs 0).length = y := by
      rw [Nat.mul_comm, Nat.mul_add_div (by omega), Nat.div_eq_of_lt hx2, Nat.add_zero]
    refine Prod.ext ?_ ?_
    · show (((y * (rowF gs 0).length + x) % (rowF gs 0).length : Nat) : Int) - ((0 : Nat) : Int) = x
      rw [d1, Int.natCast_zero, Int.sub_zero]
    · show (((y * (rowF gs 0).length + x) / (rowF gs 0).length % gs.length : Nat) : Int) - ((0 : Nat) : Int) = y
      rw [d2, Nat.mod_eq_of_lt hy, Int.natCast_zero, Int.sub_zero]
theorem ownR_from {β : Type} (lo hi B n : Nat) (v : Value) (us : Nat → Value) (f : β → Nat → List Int) (hhi : hi ≤ B) : OwnFrom B (fun (s : β) W => OwnR W lo hi v us n (f s) ∧ hi ≤ W.heap.size) := fun s W W' row h hg hr =>
  ⟨h.1.keep (fun k h1 h2 => hg.block k (Nat.lt_of_lt_of_le h2 h.2) (fun e => by have := (hr k e.symm).1; omega)), Nat.le_trans h.2 hg.size⟩
end Go.Proofs.YtnmnlbgialolhaaDoor
