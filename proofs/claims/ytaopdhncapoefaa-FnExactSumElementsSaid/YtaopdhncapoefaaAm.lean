/- Contracts of single functions, and plain lemmas, on which the exact laws of this seat rest; each holds under the conditions that it states. -/
import Derived.Test.YtaopdhncapoefaaAh
import Derived.Deep.QuietTactic
import Derived.BigQuiet
namespace Go.Proofs.Ytaopdhncapoefaa
set_option linter.unusedVariables false
set_option linter.unusedSimpArgs false
open Go.RowKit

theorem eqI_noE {a b : Int} (h : a ≠ b) : (a == b) = false := by simpa using h
theorem sl_form {w : World} {v : Value} {xs : List (Int × Int)} (h : SlS w v xs) : ∃ ao cap, v = .slice ao xs.length cap ∧ (0 < xs.length → ∃ b, ao = some ⟨b, 0, none⟩ ∧ Spots w b xs) := by
  rcases h with ⟨ao, cap, rfl, rfl⟩ | ⟨b, cap, rfl, _, h⟩
  · exact ⟨ao, cap, rfl, fun h => absurd h (by simp)⟩
  · exact ⟨_, cap, rfl, fun _ => ⟨b, rfl, h⟩⟩
theorem list_same {xs ys : List (Int × Int)} (hl : xs.length = ys.length) (h : ∀ j, j < xs.length → xs.getD j (0, 0) = ys.getD j (0, 0)) : xs = ys := by
  apply List.ext_getElem hl
  intro i h1 h2
  have := h i h1
  rwa [getD_of_lt h1, getD_of_lt h2] at this

set_option maxHeartbeats 2000000 in
set_option maxRecDepth 100000 in
theorem equalS_any (u v : Value) (xs ys : List (Int × Int)) (w : World) (h1 : xs.length ≤ 1048576) (h2 : ys.length ≤ 1048576) (hu : SlS w u xs) (hv : SlS w v ys) :
    Calls Try.prog 37 #[u, v] w (SaysB (decide (xs = ys)) w) := by
  obtain ⟨ao1, cap1, rfl, hf1⟩ := sl_form hu
  obtain ⟨ao2, cap2, rfl, hf2⟩ := sl_form hv
  clear hu hv
  by_cases hl : xs.length = ys.length
  · have HSame := Lib.hid (@list_same xs ys hl)
    have HNo : Hid (∀ j, xs.getD j (0, 0) ≠ ys.getD j (0, 0) → decide (xs = ys) = false) := fun j h => decide_eq_false (fun e => h (by rw [e]))
    have HYes : Hid (xs = ys → decide (xs = ys) = true) := fun h => decide_eq_true h
    rw [← hl] at hf2 h2 ⊢
    obtain ⟨n, hn⟩ : ∃ n, xs.length = n := ⟨_, rfl⟩
    rw [hn] at HSame hf1 hf2 h1 ⊢
    by_cases h0 : 0 < n
    · obtain ⟨b1, rfl, l1, hc1⟩ := hf1 h0
      obtain ⟨b2, rfl, l2, hc2⟩ := hf2 h0
      rw [hn] at hc1
      rw [← hl, hn] at hc2
      have HC1 := Lib.hid hc1
      have HC2 := Lib.hid hc2
      obtain ⟨r, hr⟩ : ∃ r, decide (xs = ys) = r := ⟨_, rfl⟩
      rw [hr] at HNo HYes ⊢
      clear hf1 hf2 hc1 hc2 hr hn hl h2
      go_enter Try.func37, Try.ntmps37
      go_wp2
      go_loopw [13] (fun iv wr => ∃ k : Nat, k ≤ n ∧ iv = .int .i64 k ∧ Hid (∀ j, j < k → xs.getD j (0, 0) = ys.getD j (0, 0)) ∧ Hid (Below w.heap.size w wr)) (fun iv _ => n - (intOf iv).toNat)
      case atStart => exact ⟨0, Nat.zero_le _, rfl, fun j h => absurd h (Nat.not_lt_zero j), Below.refl _ _⟩
      case round =>
        obtain ⟨k, hk, rfl, HJ, HB⟩ := hrel
        have hs := HB.out.size
        by_cases hlt : k < n
        · have klt : (k : Int) < (n : Int) := by omega
          have p0 := cell_kept HB.out (HC1.out k hlt).1
          have p1 := cell_kept HB.out (HC1.out k hlt).2
          have q0 := cell_kept HB.out (HC2.out k hlt).1
          have q1 := cell_kept HB.out (HC2.out k hlt).2
          have lb1 : b1 < wr.heap.size := by omega
          have lb2 : b2 < wr.heap.size := by omega
          have HNk := Lib.hid (HNo.out k)
          have HJs : Hid (xs.getD k (0, 0) = ys.getD k (0, 0) → ∀ j, j < k + 1 → xs.getD j (0, 0) = ys.getD j (0, 0)) := fun h j hj => by
            by_cases e : j = k
            · rw [e]; exact h
            · exact HJ.out j (by omega)
          obtain ⟨P, hP⟩ : ∃ P, xs.getD k (0, 0) = P := ⟨_, rfl⟩
          obtain ⟨Q, hQ⟩ : ∃ Q, ys.getD k (0, 0) = Q := ⟨_, rfl⟩
          rw [hP] at p0 p1 HNk HJs
          rw [hQ] at q0 q1 HNk HJs
          obtain ⟨x1, y1⟩ := P
          obtain ⟨x2, y2⟩ := Q
          simp only at p0 p1 q0 q1
          have HBd : ∀ m, Hid (Below w.heap.size w (wr.drewN m)) := fun m => HB.out.trans (Joins.below_draws w.heap.size _ _)
          clear hP hQ HB
          by_cases e1 : x1 = x2
          · by_cases e2 : y1 = y2
            · subst e1
              subst e2
              have HN := Lib.hid (HJs.out rfl)
              clear HJs HNk
              go_wp2_with fail
              go_quiet (fail)
              go_wp2
              go_roundw
              case rel => exact ⟨k + 1, by omega, by go_num, HN.out, (HBd _).out⟩
              case measure => simp [intOf]; omega
            · have b2' := eqI_noE e2
              have HR := Lib.hid (HNk.out (by intro h; exact e2 (Prod.mk.inj h).2))
              subst e1
              clear HJs HNk e2
              go_wp2_with fail
              go_quiet (fail)
              go_wp2
              go_ret
              exact ⟨ret_bool HR.out.symm, (HBd _).out⟩
          · have b1' := eqI_noE e1
            have HR := Lib.hid (HNk.out (by intro h; exact e1 (Prod.mk.inj h).1))
            clear HJs HNk e1
            go_wp2_with fail
            go_quiet (fail)
            go_wp2
            go_ret
            exact ⟨ret_bool HR.out.symm, (HBd _).out⟩
        · obtain rfl : k = n := by omega
          have HR := Lib.hid (HYes.out (HSame.out HJ.out))
          go_wp2
          go_ret
          exact ⟨ret_bool HR.out.symm, HB.out⟩
    · obtain rfl : n = 0 := by omega
      have HR := Lib.hid (HYes.out (HSame.out (fun j h => absurd h (Nat.not_lt_zero j))))
      clear hf1 hf2 hl HNo hn
      go_enter Try.func37, Try.ntmps37
      go_wp2
      refine wp_loop_rounds 1 ?_; rw [rounds_succ]
      go_wp2
      go_ret
      exact ⟨ret_bool HR.out.symm, Below.refl _ _⟩
  · have HR : Hid (decide (xs = ys) = false) := decide_eq_false (fun e => hl (by rw [e]))
    have hb : ((xs.length : Int) != (ys.length : Int)) = true := bne_iff_ne.2 (by omega)
    clear hf1 hf2 hl
    go_enter Try.func37, Try.ntmps37
    go_wp2
    go_ret
    exact ⟨ret_bool HR.out.symm, Below.refl _ _⟩
end Go.Proofs.Ytaopdhncapoefaa
