/- Contracts of single functions, and plain lemmas, on which the exact laws of this seat rest; each holds under the conditions that it states. -/
import Derived.Test.YtaopdhncapoefaaDoorQb
import Derived.Test.YtaopdhncapoefaaDoorSz
import Derived.Test.YtaopdhncapoefaaDoorPb
import Derived.Test.YtaopdhncapoefaaDoorQd
import Derived.Test.YtaopdhncapoefaaDoorT3
namespace Go.Proofs.YtaopdhncapoefaaDoor
set_option linter.unusedVariables false
set_option linter.unusedSimpArgs false
open Go.RowKit

set_option maxHeartbeats 1000000 in
set_option maxRecDepth 100000 in
theorem heldSpotS_any (v : Value) (k n : Nat) (w : World) (h1 : 1 ≤ k) (h2 : k + n * 2 ≤ 9000000) (hv : SlS w v (marksS k n)) :
    Calls Tryd.prog 22 #[v, .int .i64 k] w (fun e w' => e = .returned (.int .i64 ((k + n * 2 : Nat) : Int)) ∧ w = w') := by
  rcases hv with ⟨ao, cap, rfl, h0⟩ | ⟨b, cap, rfl, hpos, hb, hc⟩
  · obtain rfl : n = 0 := by have := congrArg List.length h0; rwa [marksS_len] at this
    go_enter Tryd.func22, Tryd.ntmps22
    go_wp2
    refine wp_loop_rounds 1 ?_; rw [rounds_succ]
    go_wp2
    go_ret
    exact ⟨rfl, rfl⟩
  · rw [marksS_len] at hpos hc ⊢
    have HC := Lib.hid hc
    clear hc
    go_enter Tryd.func22, Tryd.ntmps22
    go_wp2
    go_loop [1, 5] (fun kv iv => ∃ i : Nat, i ≤ n ∧ kv = .int .i64 ((k + i * 2 : Nat) : Int) ∧ iv = .int .i64 i) (fun _ iv => n - (intOf iv).toNat)
    case atStart => exact ⟨0, Nat.zero_le _, by simp, rfl⟩
    case round =>
      obtain ⟨i, hi, rfl, rfl⟩ := hrel
      by_cases hlt : i < n
      · have ki : (i : Int) < (n : Int) := by omega
        have hx := (HC.out i hlt).1
        have hy := (HC.out i hlt).2
        rw [marksS_at k n i hlt] at hx hy
        obtain ⟨q, hq⟩ : ∃ q, k + i * 2 = q := ⟨_, rfl⟩
        rw [hq] at hx hy ⊢
        have hy' : w.cell? ⟨b, i * 2 + 1, none⟩ = some (.int .i64 ((q : Int) + 1)) := hy
        have HQ := Lib.hid hq
        have kq : (q : Int) ≤ 9000000 := by omega
        have n1 : ((q : Int) != (q : Int)) = false := by simp
        have n2 : ((q : Int) + 1 != (q : Int) + 1) = false := by simp
        clear hq hy
        go_wp2
        go_round
        case rel => exact ⟨i + 1, by omega, by have := HQ.out; go_num, by go_num⟩
        case measure => simp [intOf]; omega
      · obtain rfl : i = n := by omega
        go_wp2
        go_ret
        exact ⟨rfl, rfl⟩
end Go.Proofs.YtaopdhncapoefaaDoor

/- Contracts of single functions, and plain lemmas, on which the exact laws of this seat rest; each holds under the conditions that it states. -/
namespace Go.Proofs.YtaopdhncapoefaaDoor
set_option linter.unusedVariables false
set_option linter.unusedSimpArgs false
open Go.RowKit

/-- want (in a slot), the argument's copy (in a variable) and got (in a slot) -/
structure SpT (W : World) (b2 lo h2 h3 : Nat) (u v x : Value) (xs : List (Int × Int)) (ys : List ByteArray) (zs : List (Int × Int)) : Prop where
  c2 : W.heap[b2]? = some (.cells #[v] 28 (0, 0))
  o1 : OwnS W lo u xs
  o2 : OwnP W h2 v ys
  o3 : OwnS W h3 x zs
  lt1 : ∀ j, u.ownBlock = some j → j < h2
  lt2 : ∀ j, v.ownBlock = some j → j < h3
  le : h2 ≤ h3
section
variable {W W' : World} {b2 lo h2 h3 : Nat} {u v x : Value} {xs zs ns : List (Int × Int)} {ys ms : List ByteArray}
theorem SpT.below (h : SpT W b2 lo h2 h3 u v x xs ys zs) (hb : Below W.heap.size W W') : SpT W' b2 lo h2 h3 u v x xs ys zs :=
  ⟨(hb.block _ (Array.getElem?_eq_some_iff.1 h.c2).1).trans h.c2, own_below h.o1 hb, own_below h.o2 hb, own_below h.o3 hb, h.lt1, h.lt2, h.le⟩
theorem SpT.mark2 (h : SpT W b2 lo h2 h3 u v x xs ys zs) (ho : OwnP W' h2 v ms) (hg : W.grownBy W' v.ownBlock) : SpT W' b2 lo h2 h3 u v x xs ms zs :=
  ⟨var_far h.c2 h.o2 (by decide) hg, own_apart (k := 0) h.o1 h.o2 h.lt1 hg, ho, own_apart' h.o3 h.o2 h.lt2 hg, h.lt1, h.lt2, h.le⟩
theorem SpT.mark3 (h : SpT W b2 lo h2 h3 u v x xs ys zs) (ho : OwnS W' h3 x ns) (hg : W.grownBy W' x.ownBlock) : SpT W' b2 lo h2 h3 u v x xs ys ns :=
  ⟨var_far h.c2 h.o3 (by decide) hg, own_apart (k := 0) h.o1 h.o3 (fun j hj => Nat.lt_of_lt_of_le (h.lt1 j hj) h.le) hg, own_apart (k := 0) h.o2 h.o3 h.lt2 hg, ho, h.lt1, h.lt2, h.le⟩
theorem SpT.v2 (h : SpT W b2 lo h2 h3 u v x xs ys zs) : W.cell? ⟨b2, 0, none⟩ = some v := cell_of_one h.c2
theorem SpT.grow2 {w : World} (h : SpT W b2 lo h2 h3 u v x xs ys zs) (hw : w.heap.size ≤ h2) (hb : Below w.heap.size w W) (hg : W.grownBy W' v.ownBlock) : Below w.heap.size w W' :=
  hb.grown hg hb.size (fun k hk => Nat.le_trans hw (h.o2.lt k hk).1)
theorem SpT.grow3 {w : World} (h : SpT W b2 lo h2 h3 u v x xs ys zs) (hw : w.heap.size ≤ h2) (hb : Below w.heap.size w W) (hg : W.grownBy W' x.ownBlock) : Below w.heap.size w W' :=
  hb.grown hg hb.size (fun k hk => Nat.le_trans (Nat.le_trans hw h.le) (h.o3.lt k hk).1)
end

end Go.Proofs.YtaopdhncapoefaaDoor
