/- Contracts of single functions, and plain lemmas, on which the exact laws of this seat rest; each holds under the conditions that it states. -/
import Derived.Test.YtnmnlbgialolhaaDoorSD
import Derived.Test.YtnmnlbgialolhaaDoorSF
namespace Go.Proofs.YtnmnlbgialolhaaDoor
set_option linter.unusedVariables false
set_option linter.unusedSimpArgs false
open Go.RowKit
attribute [local go_sem] Oper.semAt_some

set_option maxHeartbeats 1000000 in
set_option maxRecDepth 100000 in
theorem r8Same_yes (x y : Value) (ss : List ByteArray) (w : World) (hx : Sl w x ss) (hy : Sl w y ss) (h1 : 1 ≤ ss.length) (h16 : ss.length ≤ 16) : Calls Tryd.prog 34 #[.agg #[x], .agg #[y]] w (SaysB true w) := by
  rcases hx with ⟨_, _, _, rfl⟩ | ⟨b, off, cap, rfl, hpos, hb, hc⟩
  · simp at h1
  rcases hy with ⟨_, _, _, rfl⟩ | ⟨b2, off2, cap2, rfl, hpos2, hb2, hc2⟩
  · simp at h1
  obtain ⟨W0, hW0⟩ : ∃ W0, (w.alloc (.cells #[.slice (some ⟨b, off, none⟩) ss.length cap] 26)).alloc (.cells #[.slice (some ⟨b2, off2, none⟩) ss.length cap2] 26) = W0 := ⟨_, rfl⟩
  have hb0 : Below w.heap.size w W0 := by rw [← hW0]; exact Joins.below_alloc2 w _ _
  have hq0 : W0.heap[w.heap.size]? = some (.cells #[.slice (some ⟨b, off, none⟩) ss.length cap] 26 (0, 0)) := by
    rw [← hW0, Below.heap_alloc _ _ _ (by simp)]; exact heap_alloc_last w _
  have hq1 : W0.heap[w.heap.size + 1]? = some (.cells #[.slice (some ⟨b2, off2, none⟩) ss.length cap2] 26 (0, 0)) := by
    rw [← hW0]; exact heap_alloc2_new _ _ _
  have hs0 : W0.heap.size = w.heap.size + 1 + 1 := by rw [← hW0]; simp
  obtain ⟨n, hn⟩ : ∃ n, ss.length = n := ⟨_, rfl⟩
  rw [hn] at hq0 hq1 h1 h16 hc hc2 hW0 ⊢
  have HC : Hid (∀ W k, k < n → Below W0.heap.size W0 W → W.cell? ⟨b, off + k, none⟩ = some (.string (ss.getD k ByteArray.empty)) ∧ W.cell? ⟨b2, off2 + k, none⟩ = some (.string (ss.getD k ByteArray.empty)) ∧ W.cell? ⟨w.heap.size, 0, none⟩ = some (.slice (some ⟨b, off, none⟩) n cap) ∧ W.cell? ⟨w.heap.size + 1, 0, none⟩ = some (.slice (some ⟨b2, off2, none⟩) n cap2)) := fun W k hk hbl =>
    ⟨((hb0.trans (hbl.mono hb0.size)).cell (p := ⟨b, off + k, none⟩) hb).trans (hc k hk), ((hb0.trans (hbl.mono hb0.size)).cell (p := ⟨b2, off2 + k, none⟩) hb2).trans (hc2 k hk), cell_of_one ((hbl.block _ (by omega)).trans hq0), cell_of_one ((hbl.block _ (by omega)).trans hq1)⟩
  have HW := Lib.hid hW0
  have HB := Lib.hid hb0
  clear hq0 hq1 hc hc2 hb hb2 hW0 hb0 hs0 hn hpos hpos2
  go_enter Tryd.func34, Tryd.ntmps34
  go_wp2_with fail
  rw [HW.out]
  go_loopw [5] (fun i wr => ∃ k : Nat, k ≤ n ∧ i = .int .i64 k ∧ Hid (Below W0.heap.size W0 wr)) (fun i _ => n - (intOf i).toNat)
  case atStart => exact ⟨0, Nat.zero_le _, rfl, Lib.hid (Below.refl _ _)⟩
  case round =>
    obtain ⟨k, hk, rfl, hbel⟩ := hrel
    by_cases hlt : k < n
    · obtain ⟨c0, c1, c2, c3⟩ := HC.out _ k hlt hbel.out
      obtain ⟨s, hs⟩ : ∃ s, ss.getD k ByteArray.empty = s := ⟨_, rfl⟩
      rw [hs] at c0 c1
      have k0 : (0 : Int) ≤ (k : Int) := by omega
      have k1 : (k : Int) < (n : Int) := by omega
      clear hs
      go_wp2
      go_quiet (fail)
      go_wp2
      go_roundw
      case rel => exact ⟨k + 1, by omega, by go_num, Lib.hid (⟨hbel.out.os, hbel.out.tape, hbel.out.output, hbel.out.size, hbel.out.block⟩)⟩
      case measure => simp [intOf]; omega
    · obtain rfl : n = k := by omega
      obtain ⟨c0, c1, c2, c3⟩ := HC.out _ (n - 1) (by omega) hbel.out
      have h0 : 0 < n := by omega
      go_wp2
      go_ret
      exact ⟨rfl, HB.out.trans (hbel.out.mono HB.out.size)⟩

end Go.Proofs.YtnmnlbgialolhaaDoor
