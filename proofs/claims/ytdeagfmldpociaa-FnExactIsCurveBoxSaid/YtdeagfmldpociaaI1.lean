/- Contracts of single functions, and plain lemmas, on which the exact laws of this seat rest; each holds under the conditions that it states. -/
import Derived.Test.YtdeagfmldpociaaQb
import Derived.Deep.QuietTactic
import Derived.BigQuiet
namespace Go.Proofs.Ytdeagfmldpociaa
set_option linter.unusedVariables false
set_option linter.unusedSimpArgs false
open Go.RowKit

def NumsAt (w : World) (b off : Nat) (ns : List Int) : Prop := b < w.heap.size ∧ ∀ i, i < ns.length → w.cell? ⟨b, off + i, none⟩ = some (.int .i64 (ns.getD i 0))
theorem NumsAt.below {w w' : World} {b off : Nat} {ns : List Int} (h : NumsAt w b off ns) (hb : Below w.heap.size w w') : NumsAt w' b off ns :=
  ⟨Nat.lt_of_lt_of_le h.1 hb.size, fun i hi => cell_kept hb (h.2 i hi)⟩
def SlN (w : World) (v : Value) (ns : List Int) : Prop :=
  (∃ ao cap, v = .slice ao 0 cap ∧ ns = []) ∨ (∃ b off cap, v = .slice (some ⟨b, off, none⟩) ns.length cap ∧ 0 < ns.length ∧ NumsAt w b off ns)
theorem SlN.below {w w' : World} {v : Value} {ns : List Int} (h : SlN w v ns) (hb : Below w.heap.size w w') : SlN w' v ns := by
  rcases h with h | ⟨b, off, cap, h1, h2, h3⟩
  · exact Or.inl h
  · exact Or.inr ⟨b, off, cap, h1, h2, h3.below hb⟩
theorem infoN64 : (Try.prog.info? 2).map (fun i => (i.zero, i.size, i.bytes)) = some (some (.int .i64 0), 1, 8) := by kernel_rfl
def numsV (ns : List Int) : List Value := ns.map (Value.int .i64)
theorem own_nums {w : World} {base g n cap : Nat} {ns : List Int} (e : TypeId) (h : w.ownsRow base e 1 (.slice (some ⟨g, 0, none⟩) n cap) n (numsV ns)) (hn : ns.length = n) : SlN w (.slice (some ⟨g, 0, none⟩) n cap) ns := by
  by_cases h0 : n = 0
  · subst h0
    exact Or.inl ⟨_, _, rfl, List.length_eq_zero_iff.1 hn⟩
  · refine Or.inr ⟨g, 0, cap, by rw [hn], by omega, (h.lt g rfl).2, fun i hi => ?_⟩
    have := h.cellAt i (by omega)
    rw [Nat.zero_add, this]
    simp [numsV, hi]

theorem SlN.form {w : World} {v : Value} {ns : List Int} (h : SlN w v ns) : ∃ ao cap, v = .slice ao ns.length cap := by
  rcases h with ⟨ao, cap, rfl, rfl⟩ | ⟨b, off, cap, rfl, _⟩
  · exact ⟨_, _, rfl⟩
  · exact ⟨_, _, rfl⟩

/-- a variable of the call's own (a block of another type) is kept while an owned row grows -/
def OwnN (w : World) (base : Nat) (v : Value) (ns : List Int) : Prop := w.ownsRow base 2 1 v ns.length (numsV ns)
theorem OwnN.sl {w : World} {base : Nat} {v : Value} {ns : List Int} (h : OwnN w base v ns) : SlN w v ns := by
  rcases Joins.ownsRow_forms h with ⟨rfl, h0⟩ | ⟨g, cap, rfl⟩
  · exact Or.inl ⟨none, 0, rfl, List.length_eq_zero_iff.1 h0⟩
  · exact own_nums _ h rfl
theorem OwnN.below {w w' : World} {base : Nat} {v : Value} {ns : List Int} (h : OwnN w base v ns) (hb : Below w.heap.size w w') : OwnN w' base v ns := by
  refine ⟨h.1, ?_⟩
  rcases h.2 with h2 | ⟨g, cap, cur, hv, hg, hh, r⟩
  · exact Or.inl h2
  · exact Or.inr ⟨g, cap, cur, hv, hg, by rw [hb.block g (Array.getElem?_eq_some_iff.1 hh).1]; exact hh, r⟩
theorem OwnN.mono {w : World} {base base' : Nat} {v : Value} {ns : List Int} (h : OwnN w base v ns) (hb : base' ≤ base) : OwnN w base' v ns := Joins.ownsRow_le h hb
theorem OwnN.nil (w : World) (base : Nat) : OwnN w base (.slice none 0 0) [] := World.ownsRow_nil _ _ _ _
theorem numsV_snoc (ns : List Int) (n : Int) : numsV (ns ++ [n]) = numsV ns ++ [.int .i64 n] := by simp [numsV]

/-- a list of the call's own and a bool handed back -/
def SaysN (ns : List Int) (ok : Bool) (w : World) (e : Ending) (w' : World) : Prop := ∃ v, e = .returned (.tuple #[v, .bool ok]) ∧ OwnN w' w.heap.size v ns ∧ Below w.heap.size w w'

/-! ### marksN -/
/-- the numbers from k on -/
def marksN (k n : Nat) : List Int := (List.range n).map fun i => ((k + i : Nat) : Int)
theorem marksN_len (k n : Nat) : (marksN k n).length = n := by simp [marksN]
theorem marksN_at (k n j : Nat) (h : j < n) : (marksN k n).getD j 0 = ((k + j : Nat) : Int) := by
  unfold marksN
  rw [List.getD_eq_getElem?_getD, List.getElem?_map, List.getElem?_range h]
  rfl
/-- the first j are marked -/
def halfN (k : Nat) (ns : List Int) (j : Nat) : List Value := numsV (marksN k j) ++ (numsV ns).drop j
theorem halfN_zero (k : Nat) (ns : List Int) : halfN k ns 0 = numsV ns := by simp [halfN, marksN, numsV]
theorem halfN_full (k : Nat) (ns : List Int) : halfN k ns ns.length = numsV (marksN k ns.length) := by
  unfold halfN
  rw [List.drop_eq_nil_of_le (by simp [numsV]), List.append_nil]
theorem halfN_at (k : Nat) (ns : List Int) (j : Nat) (h : j < ns.length) : (halfN k ns j)[j]? = some (.int .i64 (ns.getD j 0)) := by
  unfold halfN
  rw [List.getElem?_append_right (by simp [numsV, marksN]), List.getElem?_drop]
  simp [numsV, marksN, h]
theorem halfN_set (k : Nat) (ns : List Int) (j : Nat) (h : j < ns.length) : (halfN k ns j).set j (.int .i64 ((k + j : Nat) : Int)) = halfN k ns (j + 1) := by
  have hl : (numsV ns).length = ns.length := by simp [numsV]
  unfold halfN
  rw [List.drop_eq_getElem_cons (i := j) (by rw [hl]; exact h), List.set_append, if_neg (by simp [numsV, marksN])]
  have e : j - (numsV (marksN k j)).length = 0 := by simp [numsV, marksN]
  rw [e, List.set_cons_zero]
  have e2 : numsV (marksN k (j + 1)) = numsV (marksN k j) ++ [.int .i64 ((k + j : Nat) : Int)] := by
    simp [numsV, marksN, List.range_succ]
  rw [e2]
  simp

end Go.Proofs.Ytdeagfmldpociaa
