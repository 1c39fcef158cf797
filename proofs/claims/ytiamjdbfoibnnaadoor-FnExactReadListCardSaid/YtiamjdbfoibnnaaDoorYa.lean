/- Contracts of single functions, and plain lemmas, on which the exact laws of this seat rest; each holds under the conditions that it states. -/
import Derived.Test.YtiamjdbfoibnnaaDoorNb
import Derived.Lib.SplitLaws
import Derived.Lib.IndexLaws
namespace Go.Proofs.YtiamjdbfoibnnaaDoor
set_option linter.unusedVariables false
set_option linter.unusedSimpArgs false
open Go.RowKit

/-! ### a text cut at commas -/
/-- what is cut, behind acc -/
def cutA (acc : List UInt8) : List UInt8 → List (List UInt8)
  | [] => [acc]
  | c :: r => if c = 44 then acc :: cutA [] r else cutA (acc ++ [c]) r
theorem cutA_no : ∀ (l acc : List UInt8), (∀ k : Nat, l[k]? ≠ some (44 : UInt8)) → cutA acc l = [acc ++ l]
  | [], acc, _ => by simp [cutA]
  | c :: r, acc, h => by
    have h0 : ¬ c = 44 := fun e => h 0 (by rw [e]; rfl)
    unfold cutA
    rw [if_neg h0, cutA_no r (acc ++ [c]) (fun k => h (k + 1))]
    simp
theorem cutA_hit : ∀ (p acc r : List UInt8), (∀ k : Nat, k < p.length → p[k]? ≠ some (44 : UInt8)) → cutA acc (p ++ 44 :: r) = (acc ++ p) :: cutA [] r
  | [], acc, r, _ => by
    show cutA acc (44 :: r) = _
    rw [cutA, if_pos rfl, List.append_nil]
  | c :: p, acc, r, h => by
    have h0 : ¬ c = 44 := fun e => h 0 (by simp) (by rw [e]; rfl)
    show cutA acc (c :: (p ++ 44 :: r)) = _
    rw [cutA, if_neg h0, cutA_hit p (acc ++ [c]) r (fun k hk => h (k + 1) (by simp; omega))]
    simp
theorem cutA_len : ∀ (l acc : List UInt8), (cutA acc l).length = l.count 44 + 1
  | [], acc => by simp [cutA]
  | c :: r, acc => by
    unfold cutA
    by_cases h : c = 44
    · rw [if_pos h, List.length_cons, cutA_len r, h, List.count_cons_self]
    · rw [if_neg h, cutA_len r, List.count_cons_of_ne (fun e => h e)]
theorem split_cut : ∀ (k : Nat) (l : List UInt8), (l.count 44 ≤ k → Lib.splitK [44] 0 k l = cutA [] l) ∧ (k < l.count 44 → (Lib.splitK [44] 0 k l).length = k + 1)
  | 0, l => by
    refine ⟨fun h => ?_, fun _ => rfl⟩
    have h0 : l.count 44 = 0 := by omega
    rw [cutA_no l [] (fun k hk => by
      have : (44 : UInt8) ∈ l := List.mem_of_getElem? hk
      exact absurd (List.count_eq_zero.1 h0) (fun hn => hn this))]
    rfl
  | k + 1, l => by
    have hge := Lib.indexByte_ge l 44
    have hi := Lib.index_one l 44
    by_cases hm : Lib.indexByte l 44 = -1
    · have hno := Lib.indexByte_none hm
      have h0 : l.count 44 = 0 := List.count_eq_zero.2 (fun hmem => by
        obtain ⟨j, hj⟩ := List.mem_iff_getElem?.1 hmem
        exact hno j hj)
      refine ⟨fun _ => ?_, fun h => by omega⟩
      rw [cutA_no l [] hno]
      unfold Lib.splitK
      rw [hi, hm]; rfl
    · obtain ⟨o, ho⟩ := Int.eq_ofNat_of_zero_le (show 0 ≤ Lib.indexByte l 44 by omega)
      obtain ⟨h1, h2⟩ := Lib.indexByte_some ho
      have hlt : o < l.length := by
        apply Nat.lt_of_not_le
        intro hle
        rw [List.getElem?_eq_none hle] at h1
        cases h1
      have hl : l = l.take o ++ 44 :: l.drop (o + 1) := by
        have e : l[o] = 44 := by rw [List.getElem?_eq_getElem hlt] at h1; exact Option.some.inj h1
        rw [← e, ← List.drop_eq_getElem_cons hlt, List.take_append_drop]
      have hp : ∀ k, k < (l.take o).length → (l.take o)[k]? ≠ some 44 := fun k hk => by
        rw [List.length_take] at hk
        rw [List.getElem?_take_of_lt (by omega)]
        exact h2 k (by omega)
      have hc : l.count 44 = (l.drop (o + 1)).count 44 + 1 := by
        have h3 := cutA_len l []
        have h4 := cutA_len (l.drop (o + 1)) []
        rw [hl, cutA_hit _ _ _ hp, List.length_cons, h4, ← hl] at h3
        omega
      have hs : Lib.splitK [44] 0 (k + 1) l = l.take o :: Lib.splitK [44] 0 k (l.drop (o + 1)) := by
        rw [Lib.splitK, hi, ho]
        have : ¬ (((o : Int) == -1) = true) := by rw [beq_iff_eq]; omega
        rw [if_neg this]
        rfl
      obtain ⟨ih1, ih2⟩ := split_cut k (l.drop (o + 1))
      refine ⟨fun h => ?_, fun h => ?_⟩
      · rw [hs, ih1 (by omega)]
        conv => rhs; rw [hl, cutA_hit _ _ _ hp]
        rfl
      · rw [hs, List.length_cons, ih2 (by omega)]

def toL (b : ByteArray) : List UInt8 := b.data.toList
theorem toL_inj {a b : ByteArray} (h : toL a = toL b) : a = b := by
  cases a; cases b
  congr 1
  exact Array.toList_inj.1 h
theorem toLs_inj : ∀ {a b : List ByteArray}, a.map toL = b.map toL → a = b
  | [], [], _ => rfl
  | [], _ :: _, h => by cases h
  | _ :: _, [], h => by cases h
  | x :: a, y :: b, h => by
    rw [List.map_cons, List.map_cons] at h
    rw [toL_inj (List.cons.inj h).1, toLs_inj (List.cons.inj h).2]
/-- the pieces of a text -/
def pieces (s : ByteArray) : List ByteArray := (cutA [] (toL s)).map fun l => ⟨l.toArray⟩
theorem pieces_toL (s : ByteArray) : (pieces s).map toL = cutA [] (toL s) := by
  unfold pieces
  rw [List.map_map]
  exact List.map_id' _
theorem pieces_split (s : ByteArray) : Lib.splitB ⟨#[44]⟩ 0 (min 301 (s.size + 1) - 1) s = pieces s ∨ (300 < (Lib.splitB ⟨#[44]⟩ 0 (min 301 (s.size + 1) - 1) s).length ∧ 300 < (pieces s).length) := by
  have hd := Lib.splitB_data ⟨#[44]⟩ 0 (min 301 (s.size + 1) - 1) s
  have hlen : s.data.toList.length = s.size := by rw [Array.length_toList]; rfl
  have hcl : s.data.toList.count 44 ≤ s.size := by rw [← hlen]; exact List.count_le_length
  obtain ⟨h1, h2⟩ := split_cut (min 301 (s.size + 1) - 1) s.data.toList
  by_cases h : s.data.toList.count 44 ≤ min 301 (s.size + 1) - 1
  · left
    apply toLs_inj
    rw [pieces_toL]
    exact hd.trans (h1 h)
  · right
    have h3 := h2 (by omega)
    have h4 : (pieces s).length = s.data.toList.count 44 + 1 := by
      unfold pieces
      rw [List.length_map]; exact cutA_len _ _
    have h5 : (Lib.splitB ⟨#[44]⟩ 0 (min 301 (s.size + 1) - 1) s).length = min 301 (s.size + 1) - 1 + 1 := by
      rw [← h3, ← List.length_map (f := fun b : ByteArray => b.data.toList)]
      exact congrArg List.length hd
    omega

/-! ### what ReadList says -/
def rd (l : List UInt8) : Option Int := if inD (valS l) (-1000000000) 1000000000 && decide (Lib.itoa (valS l) = l) then some (valS l) else none
theorem ReadS.rd {l : List UInt8} {z : Int} {ok : Bool} (h : ReadS l z ok) : (ok = true ∧ rd l = some z) ∨ (ok = false ∧ rd l = none) := by
  unfold Proofs.YtiamjdbfoibnnaaDoor.rd
  rcases h with ⟨h1, h2, h3, h4⟩ | ⟨h1, h2, h3⟩
  · left
    have hv : valS l = z := by rw [← h4, valS_itoa]
    refine ⟨h1, ?_⟩
    rw [hv, if_pos (by unfold inD; rw [decide_eq_true h2, decide_eq_true h3, decide_eq_true h4]; rfl)]
  · right
    refine ⟨h1, if_neg fun hh => ?_⟩
    rw [Bool.and_eq_true, decide_eq_true_eq] at hh
    have := inD_true hh.1
    exact h3 _ this.1 this.2 hh.2
def okL (ps : List ByteArray) : Bool := ps.all (fun p => (rd (toL p)).isSome) && decide (ps.length ≤ 300)
def vals (ps : List ByteArray) : List Int := ps.map fun p => (rd (toL p)).getD 0
def isNone (s : ByteArray) : Bool := decide (s = ⟨#[110, 111, 110, 101]⟩)
def rlB (s : ByteArray) : Bool := isNone s || okL (pieces s)
def rlN (s : ByteArray) : List Int := if isNone s then [] else if okL (pieces s) then vals (pieces s) else []
theorem okL_no {ps : List ByteArray} {k : Nat} (hk : k < ps.length) (h : rd (toL (ps.getD k ByteArray.empty)) = none) : okL ps = false := by
  unfold okL
  rw [Bool.and_eq_false_iff]
  left
  cases hall : ps.all (fun p => (rd (toL p)).isSome) with
  | false => rfl
  | true =>
    have := List.all_eq_true.1 hall (ps.getD k ByteArray.empty) (by rw [List.getD_eq_getElem?_getD, List.getElem?_eq_getElem hk]; exact List.getElem_mem hk)
    rw [h] at this
    cases this
theorem okL_long {ps : List ByteArray} (h : 300 < ps.length) : okL ps = false := by
  unfold okL
  rw [decide_eq_false (by omega), Bool.and_false]
theorem okL_yes {ps : List ByteArray} (h3 : ps.length ≤ 300) (h : ∀ i, i < ps.length → ∃ z, rd (toL (ps.getD i ByteArray.empty)) = some z) : okL ps = true := by
  unfold okL
  rw [decide_eq_true h3, Bool.and_true]
  exact List.all_eq_true.2 fun x hx => by
    obtain ⟨i, hi, rfl⟩ := List.getElem_of_mem hx
    obtain ⟨z, hz⟩ := h i hi
    rw [List.getD_eq_getElem?_getD, List.getElem?_eq_getElem hi] at hz
    show (rd (toL ps[i])).isSome = true
    rw [show rd (toL ps[i]) = some z from hz]
    rfl
theorem vals_take {ps : List ByteArray} {k : Nat} {z : Int} (hk : k < ps.length) (h : rd (toL (ps.getD k ByteArray.empty)) = some z) : vals (ps.take (k + 1)) = vals (ps.take k) ++ [z] := by
  unfold vals
  rw [List.take_succ_eq_append_getElem hk, List.map_append]
  rw [List.getD_eq_getElem?_getD, List.getElem?_eq_getElem hk] at h
  show _ ++ [(rd (toL ps[k])).getD 0] = _
  rw [show rd (toL ps[k]) = some z from h]
  rfl
end Go.Proofs.YtiamjdbfoibnnaaDoor
