/- Contracts of single functions, and plain lemmas, on which the exact laws of this seat rest; each holds under the conditions that it states. -/
import Derived.Test.YthblhibkbcmbaaaDoorGA
import Derived.Test.YthblhibkbcmbaaaDoorRc
namespace Go.Proofs.YthblhibkbcmbaaaDoor
set_option linter.unusedVariables false
set_option linter.unusedSimpArgs false
open Go.RowKit

theorem Far.refl (l r : Nat) (W : World) : Far l r W W := ⟨rfl, rfl, rfl, Nat.le_refl _, fun _ _ _ => rfl⟩
theorem Far.trans {l r : Nat} {a b c : World} (h : Far l r a b) (k : Far l r b c) : Far l r a c :=
  ⟨k.os.trans h.os, k.tape.trans h.tape, k.output.trans h.output, Nat.le_trans h.size k.size, fun i hi hd => (k.block i (Nat.lt_of_lt_of_le hi h.size) hd).trans (h.block i hi hd)⟩

set_option maxHeartbeats 1000000 in
theorem markInt64G9 (base : Nat) (v : Value) (ns : List Int) (k : Nat) (w : World) (hN : ns.length ≤ 1048576) (hk : k ≤ 9000000) (hv : OwnN w base v ns) :
    Calls Tryd.prog 13 #[v, .int .i64 k] w (fun e w' => e = .returned (.int .i64 ((k + ns.length : Nat) : Int)) ∧ OwnN w' base v (marksN k ns.length) ∧ w.grownBy w' v.ownBlock) := by
  rcases Joins.ownsRow_forms hv with ⟨rfl, h0⟩ | ⟨g, cap, rfl⟩
  · obtain rfl := List.length_eq_zero_iff.1 h0
    clear hv
    go_enter Tryd.func13, Tryd.ntmps13
    go_wp2
    refine wp_loop_rounds 1 ?_; rw [rounds_succ]
    go_wp2
    go_ret
    exact ⟨rfl, OwnN.nil _ _, World.grownBy.refl _ _⟩
  · have HH0 := Lib.hid (halfN_zero k ns)
    have HHf := Lib.hid (halfN_full k ns)
    have HAt := Lib.hid (halfN_at k ns)
    have HSet := Lib.hid (halfN_set k ns)
    have hgb : base ≤ g := (hv.lt g rfl).1
    unfold OwnN at hv ⊢
    rw [marksN_len]
    obtain ⟨n, hn⟩ : ∃ n, ns.length = n := ⟨_, rfl⟩
    rw [hn] at HHf HAt HSet hv hN ⊢
    rw [← HH0.out] at hv
    have HV := Lib.hid hv
    clear hv hn
    go_enter Tryd.func13, Tryd.ntmps13
    go_wp2
    go_loopw [1, 5] (fun kv iv wr => ∃ j : Nat, j ≤ n ∧ iv = .int .i64 j ∧ kv = .int .i64 ((k + j : Nat) : Int) ∧ wr.ownsRow base 2 1 (.slice (some ⟨g, 0, none⟩) n cap) n (halfN k ns j) ∧ w.grownBy wr (some g)) (fun _ iv _ => n - (intOf iv).toNat)
    case atStart => exact ⟨0, Nat.zero_le _, rfl, rfl, HV.out, World.grownBy.refl _ _⟩
    case round =>
      clear HV
      obtain ⟨j, hj, rfl, rfl, hown, hbel⟩ := hrel
      by_cases hlt : j < n
      · have hfz := hown.frozenAt j
        have hold := (hown.cellAt j (by omega)).trans (HAt.out j hlt)
        have hst := (hown.stored j (.int .i64 ((k + j : Nat) : Int))).1
        rw [HSet.out j hlt] at hst
        have HS := Lib.hid hst
        have HB := Lib.hid hbel
        have kl : (j : Int) < (n : Int) := by omega
        have kw : wrap64 (((k + j : Nat) : Int) + 1) = ((k + j : Nat) : Int) + 1 := IntWalk.wrap64_in _ (by omega)
        obtain ⟨z, hz⟩ : ∃ z : Int, ((k + j : Nat) : Int) = z := ⟨_, rfl⟩
        have HZ : Hid (((k + (j + 1) : Nat) : Int) = z + 1) := by show _ = _; omega
        have hzb : -9223372036854775808 ≤ z ∧ z ≤ 9223372036854775806 := by omega
        rw [hz] at kw HS ⊢
        clear hst hown hbel hz
        go_wp2
        go_roundw
        case rel => exact ⟨j + 1, by omega, by go_num, by rw [HZ.out], HS.out, HB.out.trans (grown_cell _ _ _)⟩
        case measure => simp [intOf]; omega
      · obtain rfl : j = n := by omega
        rw [HHf.out] at hown
        have HO := Lib.hid hown
        have HB := Lib.hid hbel
        clear hown hbel
        go_wp2
        go_ret
        exact ⟨rfl, HO.out, HB.out⟩


/-! ### grey pictures -/
def rowF (gs : List (List Int)) (i : Nat) : List Int := gs.getD i []
def SlG (W : World) (v : Value) (gs : List (List Int)) : Prop := SlR W v gs.length (rowF gs)
theorem SlG.below {W W' : World} {v : Value} {gs : List (List Int)} (h : SlG W v gs) (hb : Below W.heap.size W W') : SlG W' v gs := SlR.below h hb
/-- all numbers together -/
def totG (gs : List (List Int)) : Nat := offR (rowF gs) gs.length
def OwnG (W : World) (lo hi : Nat) (v : Value) (gs : List (List Int)) : Prop := ∃ us, OwnR W lo hi v us gs.length (rowF gs)
/-- .. in a stretch of blocks -/
def GreyO (lo hi : Nat) (v : Value) (gs : List (List Int)) (W : World) : Prop := OwnG W lo hi v gs ∧ hi ≤ W.heap.size
theorem GreyO.liv {lo hi : Nat} {v : Value} {gs : List (List Int)} : Liv lo hi (GreyO lo hi v gs) := by
  intro l r W W' hf hd h
  obtain ⟨⟨us, h1⟩, h2⟩ := h
  exact ⟨⟨us, h1.keep fun k hk1 hk2 => hf.block k (by omega) (by omega)⟩, Nat.le_trans h2 hf.size⟩
theorem GreyO.of {W : World} {lo : Nat} {v : Value} {gs : List (List Int)} (h : OwnG W lo W.heap.size v gs) (hh : W.heap.size ≤ W.heap.size) : GreyO lo W.heap.size v gs W := ⟨h, Nat.le_refl _⟩
theorem GreyO.sl {W : World} {lo hi : Nat} {v : Value} {gs : List (List Int)} (h : GreyO lo hi v gs W) : SlG W v gs := by
  obtain ⟨⟨us, h1⟩, _⟩ := h
  exact h1.sl
theorem OwnG.sl {W : World} {lo hi : Nat} {v : Value} {gs : List (List Int)} (h : OwnG W lo hi v gs) : SlG W v gs := by
  obtain ⟨us, h1⟩ := h
  exact h1.sl
/-- the marks of all numbers, from k on -/
def marksG (k : Nat) (gs : List (List Int)) : List (List Int) := (List.range gs.length).map (markR (rowF gs) k)
theorem marksG_len (k : Nat) (gs : List (List Int)) : (marksG k gs).length = gs.length := by simp [marksG]
theorem marksG_row (k : Nat) (gs : List (List Int)) (i : Nat) (h : i < gs.length) : rowF (marksG k gs) i = markR (rowF gs) k i := by
  show ((List.range gs.length).map (markR (rowF gs) k)).getD i [] = _
  rw [List.getD_eq_getElem?_getD]
  simp [h]
theorem SlG.marks {W : World} {v : Value} {k : Nat} {gs : List (List Int)} (h : SlG W v (marksG k gs)) : SlR W v gs.length (markR (rowF gs) k) := by
  unfold SlG at h
  rw [marksG_len] at h
  rcases h with h | ⟨b, off, cap, us, h1, h2, h3, h4⟩
  · exact Or.inl h
  · refine Or.inr ⟨b, off, cap, us, h1, h2, h3, fun i hi => ⟨(h4 i hi).1, ?_⟩⟩
    rw [← marksG_row k gs i hi]
    exact (h4 i hi).2
def TookG (w : World) (gs : List (List Int)) (e : Ending) (w' : World) : Prop := ∃ g cap, e = .returned (.agg #[.slice (some ⟨g, 0, none⟩) gs.length cap]) ∧ OwnG w' w.heap.size w'.heap.size (.slice (some ⟨g, 0, none⟩) gs.length cap) gs ∧ Below w.heap.size w w'
def SomeSzG (left : Int) (gs : List (List Int)) (w : World) (e : Ending) (w' : World) : Prop :=
  ∃ r : Int, e = .returned (.int .i64 r) ∧ r ≤ left ∧ -1 ≤ r ∧ (0 ≤ r → (gs.length : Int) + (totG gs : Nat) ≤ left) ∧ Below w.heap.size w w'
theorem offR_row (f : Nat → List Int) : ∀ {n i : Nat}, i < n → (f i).length ≤ offR f n
  | 0, i, h => absurd h (Nat.not_lt_zero i)
  | n + 1, i, h => by
    show _ ≤ offR f n + (f n).length
    by_cases e : i = n
    · subst e; omega
    · have := offR_row f (n := n) (i := i) (by omega)
      omega
theorem rows_small {gs : List (List Int)} (h : gs.length + totG gs ≤ 1048576) : ∀ i, i < gs.length → (rowF gs i).length ≤ 1048576 := fun i hi => by
  have := offR_row (rowF gs) hi
  unfold totG at h
  omega
theorem rows_max {gs : List (List Int)} (h : gs.length + totG gs ≤ 1048576) : ∀ i, i < gs.length → (rowF gs i).length ≤ maxLen := fun i hi => by
  have := rows_small h i hi
  unfold maxLen; omega
theorem offR_bound (f : Nat → List Int) (c : Nat) : ∀ n, (∀ i, i < n → (f i).length ≤ c) → offR f n ≤ n * c
  | 0, _ => by simp [offR]
  | n + 1, h => by
    have h1 := offR_bound f c n (fun i hi => h i (by omega))
    have h2 := h n (by omega)
    show offR f n + (f n).length ≤ _
    rw [Nat.add_mul, Nat.one_mul]
    omega
theorem small_grey {gs : List (List Int)} (h1 : gs.length ≤ 16) (h2 : ∀ i, i < gs.length → (rowF gs i).length ≤ 16) : gs.length + totG gs ≤ 1000 := by
  have := offR_bound (rowF gs) 16 gs.length h2
  unfold totG
  omega
/-- a grey picture and a bool handed back -/
def SaysGrey (gs : List (List Int)) (ok : Bool) (w : World) (e : Ending) (w' : World) : Prop :=
  ∃ ao n cap, e = .returned (.tuple #[.agg #[.slice ao n cap], .bool ok]) ∧ OwnG w' w.heap.size w'.heap.size (.slice ao n cap) gs ∧ Below w.heap.size w w'
end Go.Proofs.YthblhibkbcmbaaaDoor
