/- Contracts of single functions, and plain lemmas, on which the exact laws of this seat rest; each holds under the conditions that it states. -/
import Derived.Test.YtdeagfmldpociaaQb
import Derived.Test.YtdeagfmldpociaaRc
import Derived.Deep.RegionHeld3
import Derived.RegionTactic
import Derived.BigRegion
import Derived.Deep.RegionWith
namespace Go.Proofs.Ytdeagfmldpociaa
set_option linter.unusedVariables false
open Go.RowKit

set_option maxHeartbeats 400000 in
theorem szSpotS_any (ao : Option Addr) (n cap : Nat) (left : Int) (w : World) (h0 : 0 ≤ left) (h1 : left ≤ 1048576) (hn : n ≤ maxLen) :
    Calls Try.prog 19 #[.slice ao n cap, .int .i64 left] w (fun e w' => ∃ r : Int, e = .returned (.int .i64 r) ∧ r ≤ left ∧ -1 ≤ r ∧ (0 ≤ r → (n : Int) ≤ left) ∧ w = w') := by
  unfold maxLen at hn
  have k1 : IntKind.i64.wrap (left - (n : Int)) = left - (n : Int) := IntWalk.i64_in _ (by omega)
  by_cases h : left - (n : Int) < 0
  · go_enter Try.func19, Try.ntmps19
    go_wp2
    go_ret
    exact ⟨-1, rfl, by omega, by omega, fun h => by omega, rfl⟩
  · go_enter Try.func19, Try.ntmps19
    go_wp2
    go_ret
    exact ⟨left - n, rfl, by omega, by omega, fun h => by omega, rfl⟩
end Go.Proofs.Ytdeagfmldpociaa

/- Contracts of single functions, and plain lemmas, on which the exact laws of this seat rest; each holds under the conditions that it states. -/
namespace Go.Proofs.Ytdeagfmldpociaa
set_option linter.unusedVariables false
set_option linter.unusedSimpArgs false
open Go.RowKit

/-! ### an argument that is a slice of spots -/
/-- the spots xs lie in w from block b, cell off on -/
def SpotsAt (w : World) (b off : Nat) (xs : List (Int × Int)) : Prop := b < w.heap.size ∧ ∀ i, i < xs.length → w.cell? ⟨b, off + i * 2, none⟩ = some (.int .i64 (xs.getD i (0, 0)).1) ∧ w.cell? ⟨b, off + i * 2 + 1, none⟩ = some (.int .i64 (xs.getD i (0, 0)).2)
theorem SpotsAt.below {w w' : World} {b off : Nat} {xs : List (Int × Int)} (h : SpotsAt w b off xs) (hb : Below w.heap.size w w') : SpotsAt w' b off xs :=
  ⟨Nat.lt_of_lt_of_le h.1 hb.size, fun i hi => ⟨cell_kept hb (h.2 i hi).1, cell_kept hb (h.2 i hi).2⟩⟩
def SlA (w : World) (v : Value) (xs : List (Int × Int)) : Prop :=
  (∃ ao cap, v = .slice ao 0 cap ∧ xs = []) ∨ (∃ b off cap, v = .slice (some ⟨b, off, none⟩) xs.length cap ∧ 0 < xs.length ∧ SpotsAt w b off xs)
theorem SlA.below {w w' : World} {v : Value} {xs : List (Int × Int)} (h : SlA w v xs) (hb : Below w.heap.size w w') : SlA w' v xs := by
  rcases h with h | ⟨b, off, cap, h1, h2, h3⟩
  · exact Or.inl h
  · exact Or.inr ⟨b, off, cap, h1, h2, h3.below hb⟩

theorem toSpot_any (x y : Int) (w : World) :
    Calls Try.prog 6 #[.agg #[.int .i64 x, .int .i64 y]] w (fun e w' => e = .returned (.agg #[.int .i64 x, .int .i64 y]) ∧ Below w.heap.size w w') := by
  go_enter Try.func6, Try.ntmps6
  go_wp2
  exact bodyPost_ret (v := .agg #[.int .i64 x, .int .i64 y]) (by simp [results, Try.results6, go_sem]) rfl ⟨rfl, Joins.below_alloc3 _ _ _ _⟩

/-- the first c cells are copied -/
def part2 (xs : List (Int × Int)) (n c : Nat) : List Value := (List.range (n * 2)).map fun j => if j < c then Value.int .i64 (spotC xs j) else Value.int .i64 0
theorem part2_full (xs : List (Int × Int)) (n : Nat) (h : xs.length = n) : part2 xs n (n * 2) = flat2 xs := by
  unfold part2 flat2
  rw [h]
  apply List.map_congr_left
  intro j hj
  simp only [List.mem_range] at hj
  rw [if_pos hj]
theorem part2_set (xs : List (Int × Int)) (n c : Nat) : (part2 xs n c).set c (.int .i64 (spotC xs c)) = part2 xs n (c + 1) := by
  unfold part2
  rw [set_map_range]
  apply List.map_congr_left
  intro j hj
  by_cases h1 : j = c
  · subst h1; simp
  · by_cases h2 : j < c
    · simp [h1, h2, show j < c + 1 from by omega]
    · simp [h1, h2, show ¬ j < c + 1 from by omega]
theorem part2_at (xs : List (Int × Int)) (n c : Nat) (h : c < n * 2) : (part2 xs n c)[c]? = some (.int .i64 0) := by
  unfold part2
  simp [h]
theorem part2_zero (xs : List (Int × Int)) (n : Nat) : (madeCells #[.int .i64 0, .int .i64 0] (n * 2)).toList = part2 xs n 0 := by
  unfold madeCells part2
  simp only [Nat.not_lt_zero, if_false]
  simp only [Array.toList_map, Array.toList_range]
  apply List.map_congr_left
  intro j hj
  have : j % 2 < 2 := Nat.mod_lt _ (by omega)
  show (#[Value.int .i64 0, Value.int .i64 0] : Array Value)[j % 2]! = _
  rcases Nat.mod_two_eq_zero_or_one j with h | h <;> rw [h] <;> rfl

/-- a copy of spots of the call's own -/
def TookSp (w : World) (n : Nat) (xs : List (Int × Int)) (e : Ending) (w' : World) : Prop := e = .returned (.slice (some ⟨w.heap.size, 0, none⟩) n n) ∧ OwnS w' w.heap.size (.slice (some ⟨w.heap.size, 0, none⟩) n n) xs ∧ Below w.heap.size w w'

set_option maxHeartbeats 1000000 in
set_option maxRecDepth 100000 in
theorem toSpotS_any (b off n cap : Nat) (xs : List (Int × Int)) (w : World) (hn : xs.length = n) (hN : n ≤ 1048576) (hc : SpotsAt w b off xs) :
    Calls Try.prog 25 #[.slice (some ⟨b, off, none⟩) n cap] w (TookSp w n xs) := by
  obtain ⟨i0, hi, hz0, hz1, hz2⟩ := info_parts infoSp
  obtain ⟨hb, hc⟩ := hc
  have HC := Lib.hid hc
  have HN := Lib.hid hn
  clear hc hn
  go_enter Try.func25, Try.ntmps25
  go_wp2_with (at_make; refine wpList_make_full _ rfl _ _ 32 rfl w.heap.size 25 i0 (.agg #[.int .i64 0, .int .i64 0]) 2 Try.underlying32 hi hz0 hz1 _ _ _ _ n rfl rfl rfl rfl ?c1 ?c2 (Nat.le_refl _) ?_)
  case c1 => rw [hz2]; omega
  case c2 => unfold maxLen; omega
  intro w1 hown hg
  rw [part2_zero xs n] at hown
  have hbel : Below w.heap.size w w1 := (Below.refl _ _).grown hg (Nat.le_refl _) (fun k h => by cases h)
  clear hg
  go_wp2
  go_loopw [4] (fun i wr => ∃ k : Nat, k ≤ n ∧ i = .int .i64 k ∧ wr.ownsRow w.heap.size 25 2 (.slice (some ⟨w.heap.size, 0, none⟩) n n) n (part2 xs n (k * 2)) ∧ Below w.heap.size w wr) (fun i _ => n - (intOf i).toNat)
  case atStart => exact ⟨0, Nat.zero_le _, rfl, by rw [Nat.zero_mul]; exact hown, hbel⟩
  case round =>
    clear hown hbel
    obtain ⟨k, hk, rfl, hown, hbel⟩ := hrel
    by_cases hlt : k < n
    · have hx := (hbel.cell (p := ⟨b, off + k * 2, none⟩) hb).trans (HC.out k (by rw [HN.out]; exact hlt)).1
      have hy := (hbel.cell (p := ⟨b, off + k * 2 + 1, none⟩) hb).trans (HC.out k (by rw [HN.out]; exact hlt)).2
      rw [← spotC_x] at hx
      rw [← spotC_y] at hy
      have hs1 := part2_set xs n (k * 2)
      have hs2 := part2_set xs n (k * 2 + 1)
      obtain ⟨p, hp⟩ : ∃ p, spotC xs (k * 2) = p := ⟨_, rfl⟩
      obtain ⟨q, hq⟩ : ∃ p, spotC xs (k * 2 + 1) = p := ⟨_, rfl⟩
      rw [hp] at hx hs1
      rw [hq] at hy hs2
      have HS1 := Lib.hid hs1
      have HS2 := Lib.hid hs2
      have HO := Lib.hid hown
      have HB := Lib.hid hbel
      clear hown hbel hp hq hs1 hs2
      go_wp2_with fail
      refine (toSpot_any p q _).mono ?_
      rintro e w2 ⟨rfl, hb2⟩
      have ho2 := own_below HO.out hb2
      have B2 := Lib.hid (HB.out.trans (hb2.mono HB.out.size))
      have hfz := ho2.frozenAt (k * 2)
      have hold := (ho2.cellAt (k * 2) (by omega)).trans (part2_at xs n (k * 2) (by omega))
      have hst := (ho2.stored (k * 2) (.int .i64 p)).1
      rw [HS1.out] at hst
      have hfz2 := hst.frozenAt (k * 2 + 1)
      have hold2 := (hst.cellAt (k * 2 + 1) (by omega)).trans (part2_at xs n (k * 2 + 1) (by omega))
      have hst2 := (hst.stored (k * 2 + 1) (.int .i64 q)).1
      rw [HS2.out] at hst2
      have HS := Lib.hid hst2
      clear hst hst2 ho2 hb2
      go_wp2
      go_roundw
      case rel => exact ⟨k + 1, by omega, by go_num, by have := HS.out; rwa [show (k + 1) * 2 = k * 2 + 1 + 1 from by omega], (B2.out.setCell (Nat.le_refl _) _).setCell (Nat.le_refl _) _⟩
      case measure => simp [intOf]; omega
    · obtain rfl : k = n := by omega
      rw [part2_full xs k HN.out] at hown
      have HO : Hid (OwnS wr w.heap.size (.slice (some ⟨w.heap.size, 0, none⟩) k k) xs) := by
        show OwnS _ _ _ _
        unfold OwnS
        rw [HN.out]; exact hown
      have HB := Lib.hid hbel
      clear hown hbel
      go_wp2
      go_ret
      exact ⟨rfl, HO.out, HB.out⟩

set_option maxHeartbeats 1000000 in
theorem toSpotS_sl (v : Value) (xs : List (Int × Int)) (w : World) (hN : xs.length ≤ 1048576) (hv : SlA w v xs) :
    Calls Try.prog 25 #[v] w (TookSp w xs.length xs) := by
  rcases hv with ⟨ao, cap, rfl, rfl⟩ | ⟨b, off, cap, rfl, hpos, hc⟩
  · obtain ⟨i0, hi, hz0, hz1, hz2⟩ := info_parts infoSp
    go_enter Try.func25, Try.ntmps25
    go_wp2_with (at_make; refine wpList_make_full _ rfl _ _ 32 rfl w.heap.size 25 i0 (.agg #[.int .i64 0, .int .i64 0]) 2 Try.underlying32 hi hz0 hz1 _ _ _ _ 0 rfl rfl rfl rfl ?c1 ?c2 (Nat.le_refl _) ?_)
    case c1 => omega
    case c2 => unfold maxLen; omega
    intro w1 hown hg
    have hbel : Below w.heap.size w w1 := (Below.refl _ _).grown hg (Nat.le_refl _) (fun k h => by cases h)
    have HB := Lib.hid hbel
    have HO : Hid (OwnS w1 w.heap.size (.slice (some ⟨w.heap.size, 0, none⟩) 0 0) []) := by
      show OwnS _ _ _ _
      rw [show (madeCells #[Value.int .i64 0, .int .i64 0] 0).toList = [] from by simp [madeCells]] at hown
      exact hown
    clear hg hown hbel
    go_wp2
    refine wp_loop_rounds 1 ?_; rw [rounds_succ]
    go_wp2
    go_ret
    exact ⟨rfl, HO.out, HB.out⟩
  · exact toSpotS_any b off xs.length cap xs w rfl hN hc
end Go.Proofs.Ytdeagfmldpociaa
