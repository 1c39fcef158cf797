/- Contracts of single functions, and plain lemmas, on which the exact laws of this seat rest; each holds under the conditions that it states. -/
import Derived.Test.YtiamjdbfoibnnaaDoorEb
namespace Go.Proofs.YtiamjdbfoibnnaaDoor
set_option linter.unusedVariables false
set_option linter.unusedSimpArgs false
open Go.RowKit

/-! ### an argument that is a slice of numbers -/
def IntsAt (w : World) (b off : Nat) (ns : List Int) : Prop := b < w.heap.size ∧ ∀ i, i < ns.length → w.cell? ⟨b, off + i, none⟩ = some (.int .i64 (ns.getD i 0))
theorem IntsAt.below {w w' : World} {b off : Nat} {ns : List Int} (h : IntsAt w b off ns) (hb : Below w.heap.size w w') : IntsAt w' b off ns :=
  ⟨Nat.lt_of_lt_of_le h.1 hb.size, fun i hi => kept_cell hb (h.2 i hi)⟩
def SlI (w : World) (v : Value) (ns : List Int) : Prop :=
  (∃ ao cap, v = .slice ao 0 cap ∧ ns = []) ∨ (∃ b off cap, v = .slice (some ⟨b, off, none⟩) ns.length cap ∧ 0 < ns.length ∧ IntsAt w b off ns)
theorem SlI.below {w w' : World} {v : Value} {ns : List Int} (h : SlI w v ns) (hb : Below w.heap.size w w') : SlI w' v ns := by
  rcases h with h | ⟨b, off, cap, h1, h2, h3⟩
  · exact Or.inl h
  · exact Or.inr ⟨b, off, cap, h1, h2, h3.below hb⟩
theorem infoI64 : (Tryd.prog.info? 2).map (fun i => (i.zero, i.size, i.bytes)) = some (some (.int .i64 0), 1, 8) := by kernel_rfl
def intsV (ns : List Int) : List Value := ns.map (Value.int .i64)
theorem range_ints (ns : List Int) : (List.range ns.length).map (fun i => Value.int .i64 (ns.getD i 0)) = intsV ns := by
  unfold intsV
  apply List.ext_getElem?
  intro i
  by_cases hi : i < ns.length
  · simp [hi]
  · simp [hi]
theorem own_ints {w : World} {base g n cap : Nat} {ns : List Int} (e : TypeId) (h : w.ownsRow base e 1 (.slice (some ⟨g, 0, none⟩) n cap) n (intsV ns)) (hn : ns.length = n) : SlI w (.slice (some ⟨g, 0, none⟩) n cap) ns := by
  by_cases h0 : n = 0
  · subst h0
    exact Or.inl ⟨_, _, rfl, List.length_eq_zero_iff.1 hn⟩
  · refine Or.inr ⟨g, 0, cap, by rw [hn], by omega, (h.lt g rfl).2, fun i hi => ?_⟩
    have := h.cellAt i (by omega)
    rw [Nat.zero_add, this]
    simp [intsV, hi]

/-- a copy of numbers -/
def TookI (ns : List Int) (w : World) (e : Ending) (w' : World) : Prop := ∃ v, e = .returned v ∧ SlI w' v ns ∧ Below w.heap.size w w'

set_option maxHeartbeats 400000 in
theorem toInt64S_any (b off n cap : Nat) (ns : List Int) (w : World) (hn : ns.length = n) (hN : n ≤ 1048576) (hc : IntsAt w b off ns) :
    Calls Tryd.prog 10 #[.slice (some ⟨b, off, none⟩) n cap] w (TookI ns w) := by
  obtain ⟨i0, hi, hz0, hz1, hz2⟩ := info_parts infoI64
  obtain ⟨hb, hc⟩ := hc
  have HC := Lib.hid hc
  clear hc
  go_enter Tryd.func10, Tryd.ntmps10
  go_wp2_with (at_make; refine wpList_make_full _ rfl _ _ 24 rfl w.heap.size 2 i0 (.int .i64 0) 1 Tryd.underlying24 hi hz0 hz1 _ _ _ _ n rfl rfl rfl rfl ?c1 ?c2 (Nat.le_refl _) ?_)
  case c1 => rw [hz2]; omega
  case c2 => unfold maxLen; omega
  intro w1 hown hg
  rw [toList_madeCells_one] at hown
  have hbel : Below w.heap.size w w1 := (Below.refl _ _).grown hg (Nat.le_refl _) (fun k h => by cases h)
  clear hg
  go_wp2
  go_loopw [4] (fun i wr => ∃ k : Nat, k ≤ n ∧ i = .int .i64 k ∧ wr.ownsRow w.heap.size 2 1 (.slice (some ⟨w.heap.size, 0, none⟩) n n) n ((List.range k).map (fun i => Value.int .i64 (ns.getD i 0)) ++ List.replicate (n - k) (.int .i64 0)) ∧ Below w.heap.size w wr) (fun i _ => n - (intOf i).toNat)
  case atStart => exact ⟨0, Nat.zero_le _, rfl, by simpa using hown, hbel⟩
  case round =>
    clear hown hbel
    obtain ⟨k, hk, rfl, hown, hbel⟩ := hrel
    by_cases hlt : k < n
    · have hcell : wr.cell? ⟨b, off + k, none⟩ = some (.int .i64 (ns.getD k 0)) := (hbel.cell (p := ⟨b, off + k, none⟩) hb).trans (HC.out k (by omega))
      have hfz := hown.frozenAt k
      have hold := hown.cellAt k (by omega)
      rw [List.getElem?_append_right (by simp)] at hold
      simp only [List.length_map, List.length_range, Nat.sub_self] at hold
      rw [show n - k = (n - (k + 1)) + 1 from by omega, List.replicate_succ] at hold
      simp only [List.getElem?_cons_zero] at hold
      have hst := hown.stored k (.int .i64 (ns.getD k 0))
      rw [set_prefix (fun i => Value.int .i64 (ns.getD i 0)) _ n k hlt] at hst
      have HS := Lib.hid hst
      have HB := Lib.hid hbel
      obtain ⟨s, hs⟩ : ∃ s, ns.getD k 0 = s := ⟨_, rfl⟩
      rw [hs] at hcell HS
      clear hst hown hbel hs
      go_wp2
      go_roundw
      case rel => exact ⟨k + 1, by omega, by go_num, HS.out.1, HB.out.setCell (Nat.le_refl _) _⟩
      case measure => simp [intOf]; omega
    · obtain rfl : k = n := by omega
      subst hn
      simp only [Nat.sub_self, List.replicate_zero, List.append_nil, range_ints] at hown
      have HO := Lib.hid (own_ints _ hown rfl)
      have HB := Lib.hid hbel
      clear hown hbel
      go_wp2
      go_ret
      exact ⟨_, rfl, HO.out, HB.out⟩

set_option maxHeartbeats 400000 in
theorem toInt64S_sl (v : Value) (ns : List Int) (w : World) (hN : ns.length ≤ 1048576) (hv : SlI w v ns) :
    Calls Tryd.prog 10 #[v] w (TookI ns w) := by
  rcases hv with ⟨ao, cap, rfl, rfl⟩ | ⟨b, off, cap, rfl, hpos, hc⟩
  · obtain ⟨i0, hi, hz0, hz1, hz2⟩ := info_parts infoI64
    go_enter Tryd.func10, Tryd.ntmps10
    go_wp2_with (at_make; refine wpList_make_full _ rfl _ _ 24 rfl w.heap.size 2 i0 (.int .i64 0) 1 Tryd.underlying24 hi hz0 hz1 _ _ _ _ 0 rfl rfl rfl rfl ?c1 ?c2 (Nat.le_refl _) ?_)
    case c1 => omega
    case c2 => unfold maxLen; omega
    intro w1 hown hg
    have hbel : Below w.heap.size w w1 := (Below.refl _ _).grown hg (Nat.le_refl _) (fun k h => by cases h)
    have HB := Lib.hid hbel
    clear hg hown hbel
    go_wp2
    refine wp_loop_rounds 1 ?_; rw [rounds_succ]
    go_wp2
    go_ret
    exact ⟨_, rfl, Or.inl ⟨_, _, rfl, rfl⟩, HB.out⟩
  · exact toInt64S_any b off ns.length cap ns w rfl hN hc

theorem SlI.form {w : World} {v : Value} {ns : List Int} (h : SlI w v ns) : ∃ ao cap, v = .slice ao ns.length cap := by
  rcases h with ⟨ao, cap, rfl, rfl⟩ | ⟨b, off, cap, rfl, _⟩
  · exact ⟨_, _, rfl⟩
  · exact ⟨_, _, rfl⟩

set_option maxHeartbeats 400000 in
theorem eqInt64S_self (u v : Value) (ns : List Int) (w : World) (hA : ns.length ≤ maxLen) (hu : SlI w u ns) (hv : SlI w v ns) :
    Calls Tryd.prog 12 #[u, v] w (fun e w' => e = .returned (.bool true) ∧ Below w.heap.size w w') := by
  unfold maxLen at hA
  rcases hu with ⟨ao, cap, rfl, rfl⟩ | ⟨b, off, cap, rfl, hpos, hb, hc⟩
  · obtain ⟨ao2, cap2, rfl⟩ := hv.form
    go_enter Tryd.func12, Tryd.ntmps12
    go_wp2
    refine wp_loop_rounds 1 ?_; rw [rounds_succ]
    go_wp2
    go_ret
    exact ⟨rfl, Below.refl _ _⟩
  · rcases hv with ⟨ao2, cap2, rfl, rfl⟩ | ⟨b2, off2, cap2, rfl, hpos2, hb2, hc2⟩
    · simp at hpos
    · obtain ⟨n, hn⟩ : ∃ n, ns.length = n := ⟨_, rfl⟩
      rw [hn] at hc hc2 hpos hA ⊢
      have HC := Lib.hid hc
      have HC2 := Lib.hid hc2
      clear hn hc hc2 hpos2
      go_enter Tryd.func12, Tryd.ntmps12
      go_wp2
      go_loopw [5] (fun i wr => ∃ k : Nat, k ≤ n ∧ i = .int .i64 k ∧ Below w.heap.size w wr) (fun i _ => n - (intOf i).toNat)
      case atStart => exact ⟨0, Nat.zero_le _, rfl, Below.refl _ _⟩
      case round =>
        obtain ⟨k, hk, rfl, hbel⟩ := hrel
        by_cases hlt : k < n
        · have hcell := (hbel.cell (p := ⟨b, off + k, none⟩) hb).trans (HC.out k hlt)
          have hcell2 := (hbel.cell (p := ⟨b2, off2 + k, none⟩) hb2).trans (HC2.out k hlt)
          obtain ⟨s, hs⟩ : ∃ s, ns.getD k 0 = s := ⟨_, rfl⟩
          rw [hs] at hcell hcell2
          have HB := Lib.hid hbel
          clear hbel hs
          have k0 : (0 : Int) ≤ (k : Int) := by omega
          have k1 : (k : Int) < (n : Int) := by omega
          go_wp2
          go_quiet (fail)
          go_wp2
          go_roundw
          case rel => exact ⟨k + 1, by omega, by go_num, HB.out.trans (Joins.below_draws _ _ _)⟩
          case measure => simp [intOf]; omega
        · obtain rfl : k = n := by omega
          have HB := Lib.hid hbel
          clear hbel
          go_wp2
          go_ret
          exact ⟨rfl, HB.out⟩
end Go.Proofs.YtiamjdbfoibnnaaDoor
