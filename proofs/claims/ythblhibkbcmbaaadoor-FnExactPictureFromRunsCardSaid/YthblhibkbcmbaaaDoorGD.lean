/- Contracts of single functions, and plain lemmas, on which the exact laws of this seat rest; each holds under the conditions that it states. -/
import Derived.Test.YthblhibkbcmbaaaDoorGA
import Derived.Test.YthblhibkbcmbaaaDoorRc
import Derived.Test.YthblhibkbcmbaaaDoorMo
import Derived.BigQuiet
import Derived.Test.YthblhibkbcmbaaaDoorR1
namespace Go.Proofs.YthblhibkbcmbaaaDoor
set_option linter.unusedVariables false
set_option linter.unusedSimpArgs false
open Go.RowKit

theorem Far.refl (l r : Nat) (W : World) : Far l r W W := ⟨rfl, rfl, rfl, Nat.le_refl _, fun _ _ _ => rfl⟩
set_option maxHeartbeats 1000000 in
theorem markInt64G9 (base : Nat) (v : Value) (ns : List Int) (k : Nat) (w : World) (hN : ns.length ≤ 1048576) (hk : k ≤ 9000000) (hv : OwnN w base v ns) :
    Calls Tryd.prog 13 #[v, .int .i64 k] w (fun e w' => e = .returned (.int .i64 ((k + ns.length : Nat) : Int)) ∧ OwnN w' base v (marksN k ns.length) ∧ w.grownBy w' v.ownBlock) := by
  rcases Joins.ownsRow_forms hv with ⟨rfl, h0⟩ | ⟨g, cap, rfl⟩
  · obtain rfl := List.length_eq_zero_iff.1 h0
    clear hv
    go_enter Tryd.func13, Tryd.ntmps13
    go_wp2
    refine wp_loop_rounds 1 ?_; rw [rounds_succ]
    go_wp2
    go_ret
    exact ⟨rfl, OwnN.nil _ _, World.grownBy.refl _ _⟩
  · have HH0 := Lib.hid (halfN_zero k ns)
    have HHf := Lib.hid (halfN_full k ns)
    have HAt := Lib.hid (halfN_at k ns)
    have HSet := Lib.hid (halfN_set k ns)
    have hgb : base ≤ g := (hv.lt g rfl).1
    unfold OwnN at hv ⊢
    rw [marksN_len]
    obtain ⟨n, hn⟩ : ∃ n, ns.length = n := ⟨_, rfl⟩
    rw [hn] at HHf HAt HSet hv hN ⊢
    rw [← HH0.out] at hv
    have HV := Lib.hid hv
    clear hv hn
    go_enter Tryd.func13, Tryd.ntmps13
    go_wp2
    go_loopw [1, 5] (fun kv iv wr => ∃ j : Nat, j ≤ n ∧ iv = .int .i64 j ∧ kv = .int .i64 ((k + j : Nat) : Int) ∧ wr.ownsRow base 2 1 (.slice (some ⟨g, 0, none⟩) n cap) n (halfN k ns j) ∧ w.grownBy wr (some g)) (fun _ iv _ => n - (intOf iv).toNat)
    case atStart => exact ⟨0, Nat.zero_le _, rfl, rfl, HV.out, World.grownBy.refl _ _⟩
    case round =>
      clear HV
      obtain ⟨j, hj, rfl, rfl, hown, hbel⟩ := hrel
      by_cases hlt : j < n
      · have hfz := hown.frozenAt j
        have hold := (hown.cellAt j (by omega)).trans (HAt.out j hlt)
        have hst := (hown.stored j (.int .i64 ((k + j : Nat) : Int))).1
        rw [HSet.out j hlt] at hst
        have HS := Lib.hid hst
        have HB := Lib.hid hbel
        have kl : (j : Int) < (n : Int) := by omega
        have kw : wrap64 (((k + j : Nat) : Int) + 1) = ((k + j : Nat) : Int) + 1 := IntWalk.wrap64_in _ (by omega)
        obtain ⟨z, hz⟩ : ∃ z : Int, ((k + j : Nat) : Int) = z := ⟨_, rfl⟩
        have HZ : Hid (((k + (j + 1) : Nat) : Int) = z + 1) := by show _ = _; omega
        have hzb : -9223372036854775808 ≤ z ∧ z ≤ 9223372036854775806 := by omega
        rw [hz] at kw HS ⊢
        clear hst hown hbel hz
        go_wp2
        go_roundw
        case rel => exact ⟨j + 1, by omega, by go_num, by rw [HZ.out], HS.out, HB.out.trans (grown_cell _ _ _)⟩
        case measure => simp [intOf]; omega
      · obtain rfl : j = n := by omega
        rw [HHf.out] at hown
        have HO := Lib.hid hown
        have HB := Lib.hid hbel
        clear hown hbel
        go_wp2
        go_ret
        exact ⟨rfl, HO.out, HB.out⟩


/-! ### grey pictures -/
def rowF (gs : List (List Int)) (i : Nat) : List Int := gs.getD i []
def SlG (W : World) (v : Value) (gs : List (List Int)) : Prop := SlR W v gs.length (rowF gs)
theorem SlG.below {W W' : World} {v : Value} {gs : List (List Int)} (h : SlG W v gs) (hb : Below W.heap.size W W') : SlG W' v gs := SlR.below h hb
/-- all numbers together -/
def totG (gs : List (List Int)) : Nat := offR (rowF gs) gs.length
def OwnG (W : World) (lo hi : Nat) (v : Value) (gs : List (List Int)) : Prop := ∃ us, OwnR W lo hi v us gs.length (rowF gs)
/-- .. in a stretch of blocks -/
def GreyO (lo hi : Nat) (v : Value) (gs : List (List Int)) (W : World) : Prop := OwnG W lo hi v gs ∧ hi ≤ W.heap.size
theorem GreyO.liv {lo hi : Nat} {v : Value} {gs : List (List Int)} : Liv lo hi (GreyO lo hi v gs) := by
  intro l r W W' hf hd h
  obtain ⟨⟨us, h1⟩, h2⟩ := h
  exact ⟨⟨us, h1.keep fun k hk1 hk2 => hf.block k (by omega) (by omega)⟩, Nat.le_trans h2 hf.size⟩
theorem GreyO.of {W : World} {lo : Nat} {v : Value} {gs : List (List Int)} (h : OwnG W lo W.heap.size v gs) (hh : W.heap.size ≤ W.heap.size) : GreyO lo W.heap.size v gs W := ⟨h, Nat.le_refl _⟩
theorem GreyO.sl {W : World} {lo hi : Nat} {v : Value} {gs : List (List Int)} (h : GreyO lo hi v gs W) : SlG W v gs := by
  obtain ⟨⟨us, h1⟩, _⟩ := h
  exact h1.sl
theorem OwnG.sl {W : World} {lo hi : Nat} {v : Value} {gs : List (List Int)} (h : OwnG W lo hi v gs) : SlG W v gs := by
  obtain ⟨us, h1⟩ := h
  exact h1.sl
/-- the marks of all numbers, from k on -/
def marksG (k : Nat) (gs : List (List Int)) : List (List Int) := (List.range gs.length).map (markR (rowF gs) k)
theorem marksG_len (k : Nat) (gs : List (List Int)) : (marksG k gs).length = gs.length := by simp [marksG]
theorem marksG_row (k : Nat) (gs : List (List Int)) (i : Nat) (h : i < gs.length) : rowF (marksG k gs) i = markR (rowF gs) k i := by
  show ((List.range gs.length).map (markR (rowF gs) k)).getD i [] = _
  rw [List.getD_eq_getElem?_getD]
  simp [h]
theorem SlG.marks {W : World} {v : Value} {k : Nat} {gs : List (List Int)} (h : SlG W v (marksG k gs)) : SlR W v gs.length (markR (rowF gs) k) := by
  unfold SlG at h
  rw [marksG_len] at h
  rcases h with h | ⟨b, off, cap, us, h1, h2, h3, h4⟩
  · exact Or.inl h
  · refine Or.inr ⟨b, off, cap, us, h1, h2, h3, fun i hi => ⟨(h4 i hi).1, ?_⟩⟩
    rw [← marksG_row k gs i hi]
    exact (h4 i hi).2
def TookG (w : World) (gs : List (List Int)) (e : Ending) (w' : World) : Prop := ∃ g cap, e = .returned (.agg #[.slice (some ⟨g, 0, none⟩) gs.length cap]) ∧ OwnG w' w.heap.size w'.heap.size (.slice (some ⟨g, 0, none⟩) gs.length cap) gs ∧ Below w.heap.size w w'
def SomeSzG (left : Int) (gs : List (List Int)) (w : World) (e : Ending) (w' : World) : Prop :=
  ∃ r : Int, e = .returned (.int .i64 r) ∧ r ≤ left ∧ -1 ≤ r ∧ (0 ≤ r → (gs.length : Int) + (totG gs : Nat) ≤ left) ∧ Below w.heap.size w w'
theorem offR_row (f : Nat → List Int) : ∀ {n i : Nat}, i < n → (f i).length ≤ offR f n
  | 0, i, h => absurd h (Nat.not_lt_zero i)
  | n + 1, i, h => by
    show _ ≤ offR f n + (f n).length
    by_cases e : i = n
    · subst e; omega
    · have := offR_row f (n := n) (i := i) (by omega)
      omega
theorem rows_small {gs : List (List Int)} (h : gs.length + totG gs ≤ 1048576) : ∀ i, i < gs.length → (rowF gs i).length ≤ 1048576 := fun i hi => by
  have := offR_row (rowF gs) hi
  unfold totG at h
  omega
theorem rows_max {gs : List (List Int)} (h : gs.length + totG gs ≤ 1048576) : ∀ i, i < gs.length → (rowF gs i).length ≤ maxLen := fun i hi => by
  have := rows_small h i hi
  unfold maxLen; omega
theorem offR_bound (f : Nat → List Int) (c : Nat) : ∀ n, (∀ i, i < n → (f i).length ≤ c) → offR f n ≤ n * c
  | 0, _ => by simp [offR]
  | n + 1, h => by
    have h1 := offR_bound f c n (fun i hi => h i (by omega))
    have h2 := h n (by omega)
    show offR f n + (f n).length ≤ _
    rw [Nat.add_mul, Nat.one_mul]
    omega
theorem small_grey {gs : List (List Int)} (h1 : gs.length ≤ 16) (h2 : ∀ i, i < gs.length → (rowF gs i).length ≤ 16) : gs.length + totG gs ≤ 1000 := by
  have := offR_bound (rowF gs) 16 gs.length h2
  unfold totG
  omega
/-- a grey picture and a bool handed back -/
def SaysGrey (gs : List (List Int)) (ok : Bool) (w : World) (e : Ending) (w' : World) : Prop :=
  ∃ ao n cap, e = .returned (.tuple #[.agg #[.slice ao n cap], .bool ok]) ∧ OwnG w' w.heap.size w'.heap.size (.slice ao n cap) gs ∧ Below w.heap.size w w'
end Go.Proofs.YthblhibkbcmbaaaDoor

/- Contracts of single functions, and plain lemmas, on which the exact laws of this seat rest; each holds under the conditions that it states. -/
namespace Go.Proofs.YthblhibkbcmbaaaDoor
set_option linter.unusedVariables false
set_option linter.unusedSimpArgs false
open Go.RowKit

/-! ### which rows are those of a grey picture -/
/-- a row with numbers up to m alone -/
def numsB (m : Int) (ns : List Int) : Bool := ns.all fun x => inB x 0 m
/-- the first k rows are as long as the first one and have such numbers -/
def rowsB (m : Int) (gs : List (List Int)) (k : Nat) : Bool := (List.range k).all fun i => decide ((rowF gs i).length = (rowF gs 0).length) && numsB m (rowF gs i)
def vG (m : Int) (gs : List (List Int)) : Bool := inB (gs.length : Int) 1 16 && inB ((rowF gs 0).length : Int) 1 16 && rowsB m gs gs.length
theorem rowsB_bad {m : Int} {gs : List (List Int)} {i : Nat} (hi : i < gs.length) (h : (rowF gs i).length ≠ (rowF gs 0).length ∨ numsB m (rowF gs i) = false) : vG m gs = false := by
  have : rowsB m gs gs.length = false := by
    unfold rowsB
    rw [List.all_eq_false]
    refine ⟨i, List.mem_range.2 hi, ?_⟩
    rcases h with h | h
    · rw [decide_eq_false h]; simp
    · rw [h]; simp
  unfold vG
  rw [this, Bool.and_false]
theorem numsB_bad {m : Int} {ns : List Int} {j : Nat} (hj : j < ns.length) (h : inB (ns.getD j 0) 0 m = false) : numsB m ns = false := by
  unfold numsB
  rw [List.all_eq_false]
  refine ⟨ns.getD j 0, ?_, by rw [h]; simp⟩
  rw [List.getD_eq_getElem?_getD, List.getElem?_eq_getElem hj]
  exact List.getElem_mem hj
theorem numsB_good {m : Int} {ns : List Int} (h : ∀ j, j < ns.length → inB (ns.getD j 0) 0 m = true) : numsB m ns = true := by
  unfold numsB
  rw [List.all_eq_true]
  intro x hx
  obtain ⟨j, hj, rfl⟩ := List.getElem_of_mem hx
  have := h j hj
  rwa [List.getD_eq_getElem?_getD, List.getElem?_eq_getElem hj] at this
theorem rowsB_good {m : Int} {gs : List (List Int)} (h : ∀ i, i < gs.length → (rowF gs i).length = (rowF gs 0).length ∧ numsB m (rowF gs i) = true) : rowsB m gs gs.length = true := by
  unfold rowsB
  rw [List.all_eq_true]
  intro i hi
  have := h i (List.mem_range.1 hi)
  rw [decide_eq_true this.1, this.2]
  rfl
/-- what a valid one has -/
structure VG (m : Int) (gs : List (List Int)) : Prop where
  n1 : 1 ≤ gs.length
  n16 : gs.length ≤ 16
  w1 : 1 ≤ (rowF gs 0).length
  w16 : (rowF gs 0).length ≤ 16
  len : ∀ i, i < gs.length → (rowF gs i).length = (rowF gs 0).length
  num : ∀ i, i < gs.length → ∀ j, j < (rowF gs 0).length → 0 ≤ (rowF gs i).getD j 0 ∧ (rowF gs i).getD j 0 ≤ m
theorem vg_of {m : Int} {gs : List (List Int)} (h : vG m gs = true) : VG m gs := by
  unfold vG inB at h
  simp only [Bool.and_eq_true, decide_eq_true_eq] at h
  obtain ⟨⟨⟨a, b⟩, c, d⟩, e⟩ := h
  unfold rowsB at e
  rw [List.all_eq_true] at e
  have hl : ∀ i, i < gs.length → (rowF gs i).length = (rowF gs 0).length := fun i hi => by
    have := e i (List.mem_range.2 hi)
    rw [Bool.and_eq_true] at this
    exact of_decide_eq_true this.1
  refine ⟨by omega, by omega, by omega, by omega, hl, fun i hi j hj => ?_⟩
  have := e i (List.mem_range.2 hi)
  rw [Bool.and_eq_true] at this
  have h2 := this.2
  unfold numsB at h2
  rw [List.all_eq_true] at h2
  have hj' : j < (rowF gs i).length := by rw [hl i hi]; exact hj
  have h3 := h2 ((rowF gs i)[j]) (List.getElem_mem hj')
  rw [List.getD_eq_getElem?_getD, List.getElem?_eq_getElem hj']
  unfold inB at h3
  simpa using h3

/-- a row of rows opened: each row's cell, and its numbers -/
theorem SlG.open' {W : World} {v : Value} {gs : List (List Int)} (h : SlG W v gs) : ∃ (ao : Option Addr) (cap : Nat), v = .slice ao gs.length cap ∧
    (0 < gs.length → ∃ b off, ao = some ⟨b, off, none⟩ ∧ b < W.heap.size ∧ ∀ i, i < gs.length → ∃ (ay : Option Addr) (cy : Nat), W.cell? ⟨b, off + i, none⟩ = some (.slice ay (rowF gs i).length cy) ∧ SlN W (.slice ay (rowF gs i).length cy) (rowF gs i) ∧
      (0 < (rowF gs i).length → ∃ b2 o2, ay = some ⟨b2, o2, none⟩ ∧ b2 < W.heap.size ∧ ∀ j, j < (rowF gs i).length → W.cell? ⟨b2, o2 + j, none⟩ = some (.int .i64 ((rowF gs i).getD j 0)))) := by
  rcases h with ⟨ao, cap, rfl, h0⟩ | ⟨b, off, cap, us, rfl, hpos, hb, hc⟩
  · exact ⟨ao, cap, by rw [h0], fun h => by omega⟩
  · refine ⟨_, cap, rfl, fun _ => ⟨b, off, rfl, hb, fun i hi => ?_⟩⟩
    obtain ⟨h1, h2⟩ := hc i hi
    obtain ⟨ay, cy, e⟩ := h2.form
    rw [e] at h1 h2
    refine ⟨ay, cy, h1, h2, fun hp => ?_⟩
    rcases h2 with ⟨ao2, cap2, e2, h0⟩ | ⟨b2, o2, cap2, e2, _, hb2, hc2⟩
    · rw [h0] at hp; simp at hp
    · injection e2 with e3 e4 e5
      exact ⟨b2, o2, e3, hb2, hc2⟩

end Go.Proofs.YthblhibkbcmbaaaDoor

/- Contracts of single functions, and plain lemmas, on which the exact laws of this seat rest; each holds under the conditions that it states. -/
namespace Go.Proofs.YthblhibkbcmbaaaDoor
set_option linter.unusedVariables false
open Go.RowKit

theorem isSide_any (n : Int) (w : World) : Calls Tryd.prog 60 #[.int .i64 n] w fun e w' => e = .returned (.bool (inB n 1 16)) ∧ w = w' := by
  by_cases h1 : 1 ≤ n
  · have e2 : Hid (inB n 1 16 = decide (n ≤ 16)) := by
      show inB n 1 16 = _
      simp [inB, h1]
    go_enter Tryd.func60, Tryd.ntmps60
    go_wp2
    go_ret
    exact ⟨ret_bool e2.out.symm, rfl⟩
  · have e2 : Hid (inB n 1 16 = false) := by
      show inB n 1 16 = _
      simp [inB, h1]
    go_enter Tryd.func60, Tryd.ntmps60
    go_wp2
    go_ret
    exact ⟨ret_bool (a := false) e2.out.symm, rfl⟩

/-! ### has, black: the matrix's cells are a variable C -/
end Go.Proofs.YthblhibkbcmbaaaDoor

/- Contracts of single functions, and plain lemmas, on which the exact laws of this seat rest; each holds under the conditions that it states. -/
namespace Go.Proofs.YthblhibkbcmbaaaDoor
set_option linter.unusedVariables false
set_option linter.unusedSimpArgs false
open Go.RowKit

/-! ### the least and the greatest number of a row -/
def mnK (ns : List Int) : Nat → Int
  | 0 => ns.getD 0 0
  | k + 1 => min (mnK ns k) (ns.getD k 0)
def mxK (ns : List Int) : Nat → Int
  | 0 => ns.getD 0 0
  | k + 1 => max (mxK ns k) (ns.getD k 0)
theorem mnK_ge (ns : List Int) (z : Int) : ∀ k, z ≤ mnK ns k ↔ z ≤ ns.getD 0 0 ∧ ∀ j, j < k → z ≤ ns.getD j 0
  | 0 => by simp [mnK]
  | k + 1 => by
    show z ≤ min (mnK ns k) (ns.getD k 0) ↔ _
    have ih := mnK_ge ns z k
    constructor
    · intro h
      have h1 : z ≤ mnK ns k := by omega
      have h2 : z ≤ ns.getD k 0 := by omega
      refine ⟨(ih.1 h1).1, fun j hj => ?_⟩
      by_cases e : j = k
      · rw [e]; exact h2
      · exact (ih.1 h1).2 j (by omega)
    · rintro ⟨h1, h2⟩
      have h3 := ih.2 ⟨h1, fun j hj => h2 j (by omega)⟩
      have h4 := h2 k (by omega)
      omega
theorem mxK_le (ns : List Int) (z : Int) : ∀ k, mxK ns k ≤ z ↔ ns.getD 0 0 ≤ z ∧ ∀ j, j < k → ns.getD j 0 ≤ z
  | 0 => by simp [mxK]
  | k + 1 => by
    show max (mxK ns k) (ns.getD k 0) ≤ z ↔ _
    have ih := mxK_le ns z k
    constructor
    · intro h
      have h1 : mxK ns k ≤ z := by omega
      have h2 : ns.getD k 0 ≤ z := by omega
      refine ⟨(ih.1 h1).1, fun j hj => ?_⟩
      by_cases e : j = k
      · rw [e]; exact h2
      · exact (ih.1 h1).2 j (by omega)
    · rintro ⟨h1, h2⟩
      have h3 := ih.2 ⟨h1, fun j hj => h2 j (by omega)⟩
      have h4 := h2 k (by omega)
      omega
theorem numsB_mm {ns : List Int} (m : Int) (h : 0 < ns.length) : numsB m ns = (decide (0 ≤ mnK ns ns.length) && decide (mxK ns ns.length ≤ m)) := by
  rw [Bool.eq_iff_iff, Bool.and_eq_true, decide_eq_true_eq, decide_eq_true_eq, mnK_ge, mxK_le]
  constructor
  · intro hh
    have key : ∀ j, j < ns.length → 0 ≤ ns.getD j 0 ∧ ns.getD j 0 ≤ m := fun j hj => by
      cases hb : inB (ns.getD j 0) 0 m with
      | false => rw [numsB_bad hj hb] at hh; cases hh
      | true => unfold inB at hb; simpa using hb
    exact ⟨⟨(key 0 h).1, fun j hj => (key j hj).1⟩, (key 0 h).2, fun j hj => (key j hj).2⟩
  · rintro ⟨⟨_, h1⟩, _, h2⟩
    exact numsB_good fun j hj => inB_yes (h1 j hj) (h2 j hj)

end Go.Proofs.YthblhibkbcmbaaaDoor
