/- Contracts of single functions, and plain lemmas, on which the exact laws of this seat rest; each holds under the conditions that it states. -/
import Derived.Test.YthblhibkbcmbaaaDoorIs
namespace Go.Proofs.YthblhibkbcmbaaaDoor
set_option linter.unusedVariables false
set_option linter.unusedSimpArgs false
open Go.RowKit

/-! ### an argument that is a slice of bytes -/
def SlY (w : World) (v : Value) (ns : List Nat) : Prop :=
  (∃ ao cap, v = .slice ao 0 cap ∧ ns = []) ∨ (∃ b off cap, v = .slice (some ⟨b, off, none⟩) ns.length cap ∧ 0 < ns.length ∧ b < w.heap.size ∧ ∀ i, i < ns.length → w.cell? ⟨b, off + i, none⟩ = some (.int .u8 ((ns.getD i 0 : Nat) : Int)))
theorem SlY.below {w w' : World} {v : Value} {ns : List Nat} (h : SlY w v ns) (hb : Below w.heap.size w w') : SlY w' v ns := by
  rcases h with h | ⟨b, off, cap, h1, h2, h3, h4⟩
  · exact Or.inl h
  · exact Or.inr ⟨b, off, cap, h1, h2, Nat.lt_of_lt_of_le h3 hb.size, fun i hi => (hb.cell (p := ⟨_, _, none⟩) h3).trans (h4 i hi)⟩
theorem SlY.form {w : World} {v : Value} {ns : List Nat} (h : SlY w v ns) : ∃ ao cap, v = .slice ao ns.length cap := by
  rcases h with ⟨ao, cap, rfl, rfl⟩ | ⟨b, off, cap, rfl, _⟩
  · exact ⟨_, _, rfl⟩
  · exact ⟨_, _, rfl⟩

/-! ### the number that a byte chooses -/
def r8F (ns : List Nat) (k n : Int) : Int := if n ≤ 1 ∨ (ns.length : Int) ≤ k then 0 else ((ns.getD k.toNat 0 : Nat) : Int) % n
theorem r8F_lt (ns : List Nat) (k n : Int) (hn : 1 ≤ n) : 0 ≤ r8F ns k n ∧ r8F ns k n < n := by
  unfold r8F
  split
  · omega
  · exact ⟨Int.emod_nonneg _ (by omega), Int.emod_lt_of_pos _ (by omega)⟩

set_option maxHeartbeats 1000000 in
set_option maxRecDepth 100000 in
theorem r8At_any (v : Value) (ns : List Nat) (k : Nat) (n : Int) (w : World) (hs : SlY w v ns) (hby : ∀ i, ns.getD i 0 < 256) (hN : ns.length ≤ maxLen) (hn : 0 ≤ n ∧ n ≤ 1000) (hk : k ≤ 1000) :
    Calls Tryd.prog 20 #[v, .int .i64 (k : Int), .int .i64 n] w (fun e w' => e = .returned (.int .i64 (r8F ns k n)) ∧ w = w') := by
  unfold maxLen at hN
  by_cases h1 : n ≤ 1
  · have e : r8F ns k n = 0 := by unfold r8F; rw [if_pos (Or.inl h1)]
    rw [e]
    obtain ⟨ao, cap, rfl⟩ := hs.form
    clear hs
    go_enter Tryd.func20, Tryd.ntmps20
    go_wp2_with fail
    go_ret
    exact ⟨rfl, rfl⟩
  by_cases h2 : (ns.length : Int) ≤ k
  · have e : r8F ns k n = 0 := by unfold r8F; rw [if_pos (Or.inr h2)]
    rw [e]
    obtain ⟨ao, cap, rfl⟩ := hs.form
    have h3 : ns.length ≤ k := by omega
    clear hs h2
    go_enter Tryd.func20, Tryd.ntmps20
    go_wp2_with fail
    go_ret
    exact ⟨rfl, rfl⟩
  rcases hs with ⟨ao, cap, rfl, rfl⟩ | ⟨b, off, cap, rfl, h0, hb, hc⟩
  · exact absurd (show (([] : List Nat).length : Int) ≤ k by simp) h2
  have hk2 : k < ns.length := by omega
  have hc1 := hc k hk2
  have e : r8F ns k n = ((ns.getD k 0 : Nat) : Int) % n := by unfold r8F; rw [if_neg (by omega), Int.toNat_natCast]
  rw [e]
  obtain ⟨x, hx⟩ : ∃ x, ns.getD k 0 = x := ⟨_, rfl⟩
  have hx2 := hby k
  rw [hx] at hc1 hx2 ⊢
  obtain ⟨N, hNN⟩ : ∃ N, ns.length = N := ⟨_, rfl⟩
  rw [hNN] at hN hk2 ⊢
  clear hc hby e hx hNN h0 h2
  have hnn : ¬ n = 0 := by omega
  have hm : (x : Int).tmod n = (x : Int) % n := Int.tmod_eq_emod_of_nonneg (by omega)
  have hk3 : (k : Int) < N := by omega
  go_enter Tryd.func20, Tryd.ntmps20
  go_wp2_with fail
  go_ret
  exact ⟨rfl, rfl⟩
end Go.Proofs.YthblhibkbcmbaaaDoor
