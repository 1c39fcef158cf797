/- Contracts of single functions, and plain lemmas, on which the exact laws of this seat rest; each holds under the conditions that it states. -/
import Derived.Test.YtnmnlbgialolhaaDoorQb
import Derived.Deep.QuietTactic
import Derived.BigQuiet
namespace Go.Proofs.YtnmnlbgialolhaaDoor
set_option linter.unusedVariables false
set_option linter.unusedSimpArgs false
open Go.RowKit

def NumsAt (w : World) (b off : Nat) (ns : List Int) : Prop := b < w.heap.size ∧ ∀ i, i < ns.length → w.cell? ⟨b, off + i, none⟩ = some (.int .i64 (ns.getD i 0))
theorem NumsAt.below {w w' : World} {b off : Nat} {ns : List Int} (h : NumsAt w b off ns) (hb : Below w.heap.size w w') : NumsAt w' b off ns :=
  ⟨Nat.lt_of_lt_of_le h.1 hb.size, fun i hi => cell_kept hb (h.2 i hi)⟩
def SlN (w : World) (v : Value) (ns : List Int) : Prop :=
  (∃ ao cap, v = .slice ao 0 cap ∧ ns = []) ∨ (∃ b off cap, v = .slice (some ⟨b, off, none⟩) ns.length cap ∧ 0 < ns.length ∧ NumsAt w b off ns)
theorem SlN.below {w w' : World} {v : Value} {ns : List Int} (h : SlN w v ns) (hb : Below w.heap.size w w') : SlN w' v ns := by
  rcases h with h | ⟨b, off, cap, h1, h2, h3⟩
  · exact Or.inl h
  · exact Or.inr ⟨b, off, cap, h1, h2, h3.below hb⟩
theorem infoN64 : (Tryd.prog.info? 2).map (fun i => (i.zero, i.size, i.bytes)) = some (some (.int .i64 0), 1, 8) := by kernel_rfl
def numsV (ns : List Int) : List Value := ns.map (Value.int .i64)
theorem own_nums {w : World} {base g n cap : Nat} {ns : List Int} (e : TypeId) (h : w.ownsRow base e 1 (.slice (some ⟨g, 0, none⟩) n cap) n (numsV ns)) (hn : ns.length = n) : SlN w (.slice (some ⟨g, 0, none⟩) n cap) ns := by
  by_cases h0 : n = 0
  · subst h0
    exact Or.inl ⟨_, _, rfl, List.length_eq_zero_iff.1 hn⟩
  · refine Or.inr ⟨g, 0, cap, by rw [hn], by omega, (h.lt g rfl).2, fun i hi => ?_⟩
    have := h.cellAt i (by omega)
    rw [Nat.zero_add, this]
    simp [numsV, hi]

theorem SlN.form {w : World} {v : Value} {ns : List Int} (h : SlN w v ns) : ∃ ao cap, v = .slice ao ns.length cap := by
  rcases h with ⟨ao, cap, rfl, rfl⟩ | ⟨b, off, cap, rfl, _⟩
  · exact ⟨_, _, rfl⟩
  · exact ⟨_, _, rfl⟩

set_option maxHeartbeats 400000 in
theorem eqInt64N (u v : Value) (ns : List Int) (w : World) (hA : ns.length ≤ maxLen) (hu : SlN w u ns) (hv : SlN w v ns) :
    Calls Tryd.prog 98 #[u, v] w (fun e w' => e = .returned (.bool true) ∧ Below w.heap.size w w') := by
  unfold maxLen at hA
  rcases hu with ⟨ao, cap, rfl, rfl⟩ | ⟨b, off, cap, rfl, hpos, hb, hc⟩
  · obtain ⟨ao2, cap2, rfl⟩ := hv.form
    go_enter Tryd.func98, Tryd.ntmps98
    go_wp2
    refine wp_loop_rounds 1 ?_; rw [rounds_succ]
    go_wp2
    go_ret
    exact ⟨rfl, Below.refl _ _⟩
  · rcases hv with ⟨ao2, cap2, rfl, rfl⟩ | ⟨b2, off2, cap2, rfl, hpos2, hb2, hc2⟩
    · simp at hpos
    · obtain ⟨n, hn⟩ : ∃ n, ns.length = n := ⟨_, rfl⟩
      rw [hn] at hc hc2 hpos hA ⊢
      have HC := Lib.hid hc
      have HC2 := Lib.hid hc2
      clear hn hc hc2 hpos2
      go_enter Tryd.func98, Tryd.ntmps98
      go_wp2
      go_loopw [5] (fun i wr => ∃ k : Nat, k ≤ n ∧ i = .int .i64 k ∧ Below w.heap.size w wr) (fun i _ => n - (intOf i).toNat)
      case atStart => exact ⟨0, Nat.zero_le _, rfl, Below.refl _ _⟩
      case round =>
        obtain ⟨k, hk, rfl, hbel⟩ := hrel
        by_cases hlt : k < n
        · have hcell := (hbel.cell (p := ⟨b, off + k, none⟩) hb).trans (HC.out k hlt)
          have hcell2 := (hbel.cell (p := ⟨b2, off2 + k, none⟩) hb2).trans (HC2.out k hlt)
          obtain ⟨s, hs⟩ : ∃ s, ns.getD k 0 = s := ⟨_, rfl⟩
          rw [hs] at hcell hcell2
          have HB := Lib.hid hbel
          clear hbel hs
          have k0 : (0 : Int) ≤ (k : Int) := by omega
          have k1 : (k : Int) < (n : Int) := by omega
          go_wp2
          go_quiet (fail)
          go_wp2
          go_roundw
          case rel => exact ⟨k + 1, by omega, by go_num, HB.out.trans (Joins.below_draws _ _ _)⟩
          case measure => simp [intOf]; omega
        · obtain rfl : k = n := by omega
          have HB := Lib.hid hbel
          clear hbel
          go_wp2
          go_ret
          exact ⟨rfl, HB.out⟩
/-- a variable of the call's own (a block of another type) is kept while an owned row grows -/
def OwnN (w : World) (base : Nat) (v : Value) (ns : List Int) : Prop := w.ownsRow base 2 1 v ns.length (numsV ns)
theorem OwnN.sl {w : World} {base : Nat} {v : Value} {ns : List Int} (h : OwnN w base v ns) : SlN w v ns := by
  rcases Joins.ownsRow_forms h with ⟨rfl, h0⟩ | ⟨g, cap, rfl⟩
  · exact Or.inl ⟨none, 0, rfl, List.length_eq_zero_iff.1 h0⟩
  · exact own_nums _ h rfl
theorem OwnN.below {w w' : World} {base : Nat} {v : Value} {ns : List Int} (h : OwnN w base v ns) (hb : Below w.heap.size w w') : OwnN w' base v ns := by
  refine ⟨h.1, ?_⟩
  rcases h.2 with h2 | ⟨g, cap, cur, hv, hg, hh, r⟩
  · exact Or.inl h2
  · exact Or.inr ⟨g, cap, cur, hv, hg, by rw [hb.block g (Array.getElem?_eq_some_iff.1 hh).1]; exact hh, r⟩
theorem OwnN.mono {w : World} {base base' : Nat} {v : Value} {ns : List Int} (h : OwnN w base v ns) (hb : base' ≤ base) : OwnN w base' v ns := Joins.ownsRow_le h hb
theorem OwnN.nil (w : World) (base : Nat) : OwnN w base (.slice none 0 0) [] := World.ownsRow_nil _ _ _ _
theorem numsV_snoc (ns : List Int) (n : Int) : numsV (ns ++ [n]) = numsV ns ++ [.int .i64 n] := by simp [numsV]

/-- a list of the call's own and a bool handed back -/
def SaysN (ns : List Int) (ok : Bool) (w : World) (e : Ending) (w' : World) : Prop := ∃ v, e = .returned (.tuple #[v, .bool ok]) ∧ OwnN w' w.heap.size v ns ∧ Below w.heap.size w w'

/-! ### marksN -/
/-- the numbers from k on -/
def marksN (k n : Nat) : List Int := (List.range n).map fun i => ((k + i : Nat) : Int)
theorem marksN_len (k n : Nat) : (marksN k n).length = n := by simp [marksN]
theorem marksN_at (k n j : Nat) (h : j < n) : (marksN k n).getD j 0 = ((k + j : Nat) : Int) := by
  unfold marksN
  rw [List.getD_eq_getElem?_getD, List.getElem?_map, List.getElem?_range h]
  rfl
/-- the first j are marked -/
def halfN (k : Nat) (ns : List Int) (j : Nat) : List Value := numsV (marksN k j) ++ (numsV ns).drop j
theorem halfN_zero (k : Nat) (ns : List Int) : halfN k ns 0 = numsV ns := by simp [halfN, marksN, numsV]
theorem halfN_full (k : Nat) (ns : List Int) : halfN k ns ns.length = numsV (marksN k ns.length) := by
  unfold halfN
  rw [List.drop_eq_nil_of_le (by simp [numsV]), List.append_nil]
theorem halfN_at (k : Nat) (ns : List Int) (j : Nat) (h : j < ns.length) : (halfN k ns j)[j]? = some (.int .i64 (ns.getD j 0)) := by
  unfold halfN
  rw [List.getElem?_append_right (by simp [numsV, marksN]), List.getElem?_drop]
  simp [numsV, marksN, h]
theorem halfN_set (k : Nat) (ns : List Int) (j : Nat) (h : j < ns.length) : (halfN k ns j).set j (.int .i64 ((k + j : Nat) : Int)) = halfN k ns (j + 1) := by
  have hl : (numsV ns).length = ns.length := by simp [numsV]
  unfold halfN
  rw [List.drop_eq_getElem_cons (i := j) (by rw [hl]; exact h), List.set_append, if_neg (by simp [numsV, marksN])]
  have e : j - (numsV (marksN k j)).length = 0 := by simp [numsV, marksN]
  rw [e, List.set_cons_zero]
  have e2 : numsV (marksN k (j + 1)) = numsV (marksN k j) ++ [.int .i64 ((k + j : Nat) : Int)] := by
    simp [numsV, marksN, List.range_succ]
  rw [e2]
  simp

set_option maxHeartbeats 1000000 in
theorem markInt64N (base : Nat) (v : Value) (ns : List Int) (k : Nat) (w : World) (hN : ns.length ≤ 1048576) (hk : k ≤ 1048576) (hv : OwnN w base v ns) :
    Calls Tryd.prog 99 #[v, .int .i64 k] w (fun e w' => e = .returned (.int .i64 ((k + ns.length : Nat) : Int)) ∧ OwnN w' base v (marksN k ns.length) ∧ Below base w w') := by
  rcases Joins.ownsRow_forms hv with ⟨rfl, h0⟩ | ⟨g, cap, rfl⟩
  · obtain rfl := List.length_eq_zero_iff.1 h0
    clear hv
    go_enter Tryd.func99, Tryd.ntmps99
    go_wp2
    refine wp_loop_rounds 1 ?_; rw [rounds_succ]
    go_wp2
    go_ret
    exact ⟨rfl, OwnN.nil _ _, Below.refl _ _⟩
  · have HH0 := Lib.hid (halfN_zero k ns)
    have HHf := Lib.hid (halfN_full k ns)
    have HAt := Lib.hid (halfN_at k ns)
    have HSet := Lib.hid (halfN_set k ns)
    have hgb : base ≤ g := (hv.lt g rfl).1
    unfold OwnN at hv ⊢
    rw [marksN_len]
    obtain ⟨n, hn⟩ : ∃ n, ns.length = n := ⟨_, rfl⟩
    rw [hn] at HHf HAt HSet hv hN ⊢
    rw [← HH0.out] at hv
    have HV := Lib.hid hv
    clear hv hn
    go_enter Tryd.func99, Tryd.ntmps99
    go_wp2
    go_loopw [1, 5] (fun kv iv wr => ∃ j : Nat, j ≤ n ∧ iv = .int .i64 j ∧ kv = .int .i64 ((k + j : Nat) : Int) ∧ wr.ownsRow base 2 1 (.slice (some ⟨g, 0, none⟩) n cap) n (halfN k ns j) ∧ Below base w wr) (fun _ iv _ => n - (intOf iv).toNat)
    case atStart => exact ⟨0, Nat.zero_le _, rfl, rfl, HV.out, Below.refl _ _⟩
    case round =>
      clear HV
      obtain ⟨j, hj, rfl, rfl, hown, hbel⟩ := hrel
      by_cases hlt : j < n
      · have hfz := hown.frozenAt j
        have hold := (hown.cellAt j (by omega)).trans (HAt.out j hlt)
        have hst := (hown.stored j (.int .i64 ((k + j : Nat) : Int))).1
        rw [HSet.out j hlt] at hst
        have HS := Lib.hid hst
        have HB := Lib.hid hbel
        have kl : (j : Int) < (n : Int) := by omega
        have kw : wrap64 (((k + j : Nat) : Int) + 1) = ((k + j : Nat) : Int) + 1 := IntWalk.wrap64_in _ (by omega)
        obtain ⟨z, hz⟩ : ∃ z : Int, ((k + j : Nat) : Int) = z := ⟨_, rfl⟩
        have HZ : Hid (((k + (j + 1) : Nat) : Int) = z + 1) := by show _ = _; omega
        have hzb : -9223372036854775808 ≤ z ∧ z ≤ 9223372036854775806 := by omega
        rw [hz] at kw HS ⊢
        clear hst hown hbel hz
        go_wp2
        go_roundw
        case rel => exact ⟨j + 1, by omega, by go_num, by rw [HZ.out], HS.out, HB.out.setCell hgb _⟩
        case measure => simp [intOf]; omega
      · obtain rfl : j = n := by omega
        rw [HHf.out] at hown
        have HO := Lib.hid hown
        have HB := Lib.hid hbel
        clear hown hbel
        go_wp2
        go_ret
        exact ⟨rfl, HO.out, HB.out⟩

set_option maxHeartbeats 1000000 in
theorem heldInt64N (v : Value) (n k : Nat) (w : World) (hN : n ≤ 1048576) (hk : k ≤ 1048576) (hv : SlN w v (marksN k n)) :
    Calls Tryd.prog 100 #[v, .int .i64 k] w (fun e w' => e = .returned (.int .i64 ((k + n : Nat) : Int)) ∧ Below w.heap.size w w') := by
  rcases hv with ⟨ao, cap, rfl, h0⟩ | ⟨b, off, cap, rfl, hpos, hb, hc⟩
  · have h1 := congrArg List.length h0
    rw [marksN_len] at h1
    obtain rfl : n = 0 := h1
    clear h0
    go_enter Tryd.func100, Tryd.ntmps100
    go_wp2
    refine wp_loop_rounds 1 ?_; rw [rounds_succ]
    go_wp2
    go_ret
    exact ⟨rfl, Below.refl _ _⟩
  · have HAt := Lib.hid (marksN_at k n)
    rw [marksN_len] at hc hpos ⊢
    have HC := Lib.hid hc
    clear hc
    go_enter Tryd.func100, Tryd.ntmps100
    go_wp2
    go_loopw [1, 5] (fun kv iv wr => ∃ j : Nat, j ≤ n ∧ iv = .int .i64 j ∧ kv = .int .i64 ((k + j : Nat) : Int) ∧ Below w.heap.size w wr) (fun _ iv _ => n - (intOf iv).toNat)
    case atStart => exact ⟨0, Nat.zero_le _, rfl, rfl, Below.refl _ _⟩
    case round =>
      obtain ⟨j, hj, rfl, rfl, hbel⟩ := hrel
      by_cases hlt : j < n
      · have hcell := (hbel.cell (p := ⟨b, off + j, none⟩) hb).trans (HC.out j hlt)
        rw [HAt.out j hlt] at hcell
        have HB := Lib.hid hbel
        have kl : (j : Int) < (n : Int) := by omega
        have kw : wrap64 (((k + j : Nat) : Int) + 1) = ((k + j : Nat) : Int) + 1 := IntWalk.wrap64_in _ (by omega)
        obtain ⟨z, hz⟩ : ∃ z : Int, ((k + j : Nat) : Int) = z := ⟨_, rfl⟩
        have HZ : Hid (((k + (j + 1) : Nat) : Int) = z + 1) := by show _ = _; omega
        have hzb : -9223372036854775808 ≤ z ∧ z ≤ 9223372036854775806 := by omega
        rw [hz] at kw hcell ⊢
        clear hbel hz
        go_wp2
        go_roundw
        case rel => exact ⟨j + 1, by omega, by go_num, by rw [HZ.out], HB.out⟩
        case measure => simp [intOf]; omega
      · obtain rfl : j = n := by omega
        have HB := Lib.hid hbel
        clear hbel
        go_wp2
        go_ret
        exact ⟨rfl, HB.out⟩
end Go.Proofs.YtnmnlbgialolhaaDoor
