/- Contracts of single functions, and plain lemmas, on which the exact laws of this seat rest; each holds under the conditions that it states. -/
import Derived.Test.YthoffbibaimjlaaDoorPb
import Derived.Deep.RegionHeld3
namespace Go.Proofs.YthoffbibaimjlaaDoor
set_option linter.unusedVariables false
set_option linter.unusedSimpArgs false
open Go.RowKit

/-! ### slices of spots: two cells each -/
/-- the spots xs lie in w from block b on -/
def Spots (w : World) (b : Nat) (xs : List (Int × Int)) : Prop := b < w.heap.size ∧ ∀ i, i < xs.length → w.cell? ⟨b, i * 2, none⟩ = some (.int .i64 (xs.getD i (0, 0)).1) ∧ w.cell? ⟨b, i * 2 + 1, none⟩ = some (.int .i64 (xs.getD i (0, 0)).2)
theorem Spots.below {w w' : World} {b : Nat} {xs : List (Int × Int)} (h : Spots w b xs) (hb : Below w.heap.size w w') : Spots w' b xs :=
  ⟨Nat.lt_of_lt_of_le h.1 hb.size, fun i hi => ⟨cell_kept hb (h.2 i hi).1, cell_kept hb (h.2 i hi).2⟩⟩
/-- a slice of spots: empty, or its cells lie there -/
def SlS (w : World) (v : Value) (xs : List (Int × Int)) : Prop :=
  (∃ ao cap, v = .slice ao 0 cap ∧ xs = []) ∨ (∃ b cap, v = .slice (some ⟨b, 0, none⟩) xs.length cap ∧ 0 < xs.length ∧ Spots w b xs)
theorem SlS.below {w w' : World} {v : Value} {xs : List (Int × Int)} (h : SlS w v xs) (hb : Below w.heap.size w w') : SlS w' v xs := by
  rcases h with h | ⟨b, cap, h1, h2, h3⟩
  · exact Or.inl h
  · exact Or.inr ⟨b, cap, h1, h2, h3.below hb⟩

set_option maxHeartbeats 400000 in
theorem eqSpot_any (a b c d : Int) (w : World) : Calls Tryd.prog 27 #[.agg #[.int .i64 a, .int .i64 b], .agg #[.int .i64 c, .int .i64 d]] w (SaysB (decide (a = c) && decide (b = d)) w) := by
  by_cases h1 : a = c
  · by_cases h2 : b = d
    · subst h1
      subst h2
      have e : Hid ((decide (a = a) && decide (b = b)) = true) := by show _ = _; simp
      go_enter Tryd.func27, Tryd.ntmps27
      go_wp2
      go_ret
      exact ⟨ret_bool (a := true) e.out.symm, Joins.below_alloc2 _ _ _⟩
    · subst h1
      have e : Hid ((decide (a = a) && decide (b = d)) = false) := by show _ = _; simp [h2]
      have k : (b != d) = true := by rw [bne_iff_ne]; exact h2
      clear h2
      go_enter Tryd.func27, Tryd.ntmps27
      go_wp2
      go_ret
      exact ⟨ret_bool (a := false) e.out.symm, Joins.below_alloc2 _ _ _⟩
  · have e : Hid ((decide (a = c) && decide (b = d)) = false) := by show _ = _; simp [h1]
    have k : (a != c) = true := by rw [bne_iff_ne]; exact h1
    clear h1
    go_enter Tryd.func27, Tryd.ntmps27
    go_wp2
    go_ret
    exact ⟨ret_bool (a := false) e.out.symm, Joins.below_alloc2 _ _ _⟩

set_option maxHeartbeats 1000000 in
theorem eqSpotS_same (u v : Value) (xs : List (Int × Int)) (w : World) (hN : xs.length ≤ 1048576) (hu : SlS w u xs) (hv : SlS w v xs) :
    Calls Tryd.prog 12 #[u, v] w (SaysB true w) := by
  rcases hu with ⟨ao, cap, rfl, rfl⟩ | ⟨b, cap, rfl, hpos, hb, hc⟩
  · rcases hv with ⟨ao2, cap2, rfl, _⟩ | ⟨b2, cap2, rfl, hpos2, _⟩
    · go_enter Tryd.func12, Tryd.ntmps12
      go_wp2
      refine wp_loop_rounds 1 ?_; rw [rounds_succ]
      go_wp2
      go_ret
      exact ⟨rfl, Below.refl _ _⟩
    · simp at hpos2
  · rcases hv with ⟨ao2, cap2, rfl, h0⟩ | ⟨b2, cap2, rfl, hpos2, hb2, hc2⟩
    · subst h0; simp at hpos
    · obtain ⟨n, hn⟩ : ∃ n, xs.length = n := ⟨_, rfl⟩
      rw [hn] at hc hc2 hpos hN ⊢
      have HC := Lib.hid hc
      have HC2 := Lib.hid hc2
      clear hn hc hc2 hpos2
      go_enter Tryd.func12, Tryd.ntmps12
      go_wp2
      go_loopw [5] (fun i wr => ∃ k : Nat, k ≤ n ∧ i = .int .i64 k ∧ Below w.heap.size w wr) (fun i _ => n - (intOf i).toNat)
      case atStart => exact ⟨0, Nat.zero_le _, rfl, Below.refl _ _⟩
      case round =>
        obtain ⟨k, hk, rfl, hbel⟩ := hrel
        by_cases hlt : k < n
        · have hx1 := cell_kept hbel (HC.out k hlt).1
          have hy1 := cell_kept hbel (HC.out k hlt).2
          have hx2 := cell_kept hbel (HC2.out k hlt).1
          have hy2 := cell_kept hbel (HC2.out k hlt).2
          obtain ⟨p, hp⟩ : ∃ p, (xs.getD k (0, 0)).1 = p := ⟨_, rfl⟩
          obtain ⟨q, hq⟩ : ∃ p, (xs.getD k (0, 0)).2 = p := ⟨_, rfl⟩
          rw [hp] at hx1 hx2
          rw [hq] at hy1 hy2
          have CE : Hid (∀ W, Calls Tryd.prog 27 #[.agg #[.int .i64 p, .int .i64 q], .agg #[.int .i64 p, .int .i64 q]] W (SaysB true W)) := fun W => by
            have := eqSpot_any p q p q W
            simpa using this
          have HX : Hid (∀ W, Below wr.heap.size wr W → W.cell? ⟨b, k * 2, none⟩ = some (.int .i64 p) ∧ W.cell? ⟨b, k * 2 + 1, none⟩ = some (.int .i64 q) ∧ W.cell? ⟨b2, k * 2, none⟩ = some (.int .i64 p) ∧ W.cell? ⟨b2, k * 2 + 1, none⟩ = some (.int .i64 q)) := fun W hb => ⟨cell_kept hb hx1, cell_kept hb hy1, cell_kept hb hx2, cell_kept hb hy2⟩
          have HB := Lib.hid hbel
          have k0 : (0 : Int) ≤ (k : Int) := by omega
          have k1 : (k : Int) < (n : Int) := by omega
          clear hbel hp hq hx1 hy1 hx2 hy2
          go_wp2
          go_region_held3 (fun w' => w'.cell? ⟨b, k * 2, none⟩ = some (.int .i64 p) ∧ w'.cell? ⟨b, k * 2 + 1, none⟩ = some (.int .i64 q) ∧ w'.cell? ⟨b2, k * 2, none⟩ = some (.int .i64 p) ∧ w'.cell? ⟨b2, k * 2 + 1, none⟩ = some (.int .i64 q))
            (first | exact HX.out _ (Below.refl _ _).drew | exact HX.out _ ((Below.refl _ _).drew.trans hb1))
            (first | (go_at_call 27; refine (CE.out _).mono ?_; rintro e w1 ⟨rfl, hb1⟩))
          have HB1 : Hid (Below w.heap.size w w1) := HB.out.trans (((Below.refl wr.heap.size wr).drew.trans hb1).mono HB.out.size)
          clear hb1
          go_wp2
          go_roundw
          case rel => exact ⟨k + 1, by omega, by go_num, HB1.out⟩
          case measure => simp [intOf]; omega
        · obtain rfl : k = n := by omega
          have HB := Lib.hid hbel
          clear hbel
          go_wp2
          go_ret
          exact ⟨rfl, HB.out⟩
end Go.Proofs.YthoffbibaimjlaaDoor
