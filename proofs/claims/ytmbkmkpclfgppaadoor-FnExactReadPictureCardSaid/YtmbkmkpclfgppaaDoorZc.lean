/- Contracts of single functions, and plain lemmas, on which the exact laws of this seat rest; each holds under the conditions that it states. -/
import Derived.Test.YtmbkmkpclfgppaaDoorWd
import Derived.Deep.WholeRow
namespace Go.Proofs.YtmbkmkpclfgppaaDoor
set_option linter.unusedVariables false
set_option linter.unusedSimpArgs false
open Go.RowKit

/-! ### the first strange rune of a row -/
/-- x is the first byte of s that begins no pixel, and the rune there is r -/
def Strange (s : ByteArray) (x : Nat) (r : Nat) : Prop := x ≤ 16 ∧ (∃ hx : x < s.size, pixB (s[x]'hx) = false ∧ ((s[x]'hx).toNat = 47 → r = 47) ∧ (r = 47 → (s[x]'hx).toNat = 47)) ∧ ∀ (j : Nat) (hj : j < s.size), j < x → pixB (s[j]'hj) = true
/-- a row that is empty or has 17 pixels before anything else -/
def LongRow (s : ByteArray) : Prop := s.size = 0 ∨ (16 < s.size ∧ ∀ (j : Nat) (hj : j < s.size), j < 17 → pixB (s[j]'hj) = true)
/-- what wordOfRow says of a row that is not good -/
def SaysBad (s : ByteArray) (w : World) (e : Ending) (w' : World) : Prop :=
  (∃ x r b, Strange s x r ∧ e = .returned (.tuple #[.int .u32 0, .iface 48 (.pointer (some ⟨b, 0, none⟩))]) ∧ w.heap.size ≤ b ∧ w'.heap[b]? = some (.cells #[.int .i64 x, .int .i32 r] 52 (0, 0)) ∧ Below w.heap.size w w')
  ∨ (LongRow s ∧ ∃ v, e = .returned (.tuple #[.int .u32 0, v]) ∧ w.cell? ⟨1, 0, none⟩ = some v ∧ Below w.heap.size w w')

set_option maxHeartbeats 2000000 in
set_option maxRecDepth 100000 in
theorem wordOfRow_bad (s : ByteArray) (w : World) (h : ¬ goodRow s) (he : ErrLen w) :
    Calls Tryd.prog 18 #[.string s] w (SaysBad s w) := by
  obtain ⟨T, x, hg⟩ := he
  have HG := Lib.hid h
  have HW := Lib.hid hg
  clear h
  go_enter Tryd.func18, Tryd.ntmps18
  go_wp2
  go_loopw [4, 5, 6] (fun wv xv rv wr => ∃ (k : Nat) (q : Int), k ≤ s.size ∧ k ≤ 16 ∧ wr = w.iter s k ∧ wv = .int .u32 q ∧ Hid (∀ (j : Nat) (hj : j < s.size), j < k → pixB (s[j]'hj) = true)) (fun _ _ _ wr => s.size - wr.iterPos w.heap.size)
  case atStart => exact ⟨0, 0, Nat.zero_le _, Nat.zero_le _, rfl, rfl, fun j _ h => by omega⟩
  case round =>
    obtain ⟨k, q, hk, hk16, rfl, rfl, H⟩ := hrel
    have hgk := cell_kept (iter_below w s k) hg
    by_cases hlt : k < s.size
    · have hnx : ∀ ty, (Instr.next (.pointer (some ⟨w.heap.size, 0, none⟩)) true ty).run Tryd.prog (w.iter s k) = _ := fun ty => run_next_any w s k ty hlt
      by_cases hpx : pixB (s[k]'hlt) = true
      · have H' : Hid (∀ (j : Nat) (hj : j < s.size), j < k + 1 → pixB (s[j]'hj) = true) := fun j hj hjk => by
          by_cases e : j = k
          · subst e; exact hpx
          · exact H.out j hj (by omega)
        have hgk' := cell_kept (iter_below w s (k + 1)) hg
        by_cases k16 : k = 16
        · subst k16
          have HL : Hid (LongRow s) := Or.inr ⟨hlt, H'.out⟩
          rcases pix_cases hpx with ⟨hc, hq⟩ | ⟨hc, hq⟩
          all_goals
            rw [decode_ascii s 16 hlt (by omega), hc] at hnx
            clear hc hq hpx
            go_wp2
            go_quiet (fail)
            go_wp2
            go_ret2
            exact Or.inr ⟨HL.out, _, rfl, HW.out, (iter_below _ _ _).trans (Joins.below_draws _ _ _)⟩
        · have k0 : (0 : Int) ≤ (k : Int) := by omega
          have k1 : (k : Int) < 16 := by omega
          rcases pix_cases hpx with ⟨hc, hq⟩ | ⟨hc, hq⟩
          all_goals
            rw [decode_ascii s k hlt (by omega), hc] at hnx
            clear hc hq hpx
            go_wp2
            go_roundw
            case rel => exact ⟨k + 1, _, by omega, by omega, rfl, rfl, H'⟩
            case measure => simp; omega
      · have hpf : pixB (s[k]'hlt) = false := by simpa using hpx
        obtain ⟨n35, n46⟩ := pix_not hpf
        obtain ⟨r, d, hd, hr35, hr46, hra, hrb⟩ : ∃ (r d : Nat), Utf8.decode s k = (r, d) ∧ r ≠ 35 ∧ r ≠ 46 ∧ ((s[k]'hlt).toNat = 47 → r = 47) ∧ (r = 47 → (s[k]'hlt).toNat = 47) := by
          by_cases ha : (s[k]'hlt).toNat < 128
          · exact ⟨_, _, decode_ascii s k hlt ha, n35, n46, fun h => h, fun h => h⟩
          · have := (decode_high s k hlt (by omega)).1
            exact ⟨(Utf8.decode s k).1, (Utf8.decode s k).2, rfl, by omega, by omega, fun h => by omega, fun h => by omega⟩
        have HSt : Hid (Strange s k r) := ⟨hk16, ⟨hlt, hpf, hra, hrb⟩, H.out⟩
        rw [hd] at hnx
        have c1 : ((r : Int) != 35) = true := by rw [bne_iff_ne]; omega
        have c2 : ((r : Int) != 46) = true := by rw [bne_iff_ne]; omega
        clear hd hr35 hr46 n35 n46 hpf hpx hra hrb
        go_wp2
        go_ret2
        exact Or.inl ⟨k, r, _, HSt.out, rfl, by simp [World.iter], heap_alloc_last _ _, (iter_below _ _ _).trans (Joins.below_alloc1 _ _ |>.mono (by simp [World.iter]))⟩
    · have hnx : ∀ ty, (Instr.next (.pointer (some ⟨w.heap.size, 0, none⟩)) true ty).run Tryd.prog (w.iter s k) = _ := fun ty => run_next_end w s k ty hlt
      have hz : s.size = 0 := by
        rcases Nat.eq_zero_or_pos s.size with h | h
        · exact h
        · exact absurd ⟨h, by omega, fun j hj => H.out j hj (by omega)⟩ HG.out
      have HL : Hid (LongRow s) := Or.inl hz
      have hs : s = ByteArray.empty := WideShapes.bytes_inj (show s.data.toList = [] from List.length_eq_zero_iff.1 (by simpa using hz))
      subst hs
      obtain rfl : k = 0 := by omega
      go_wp2
      go_quiet (fail)
      go_wp2
      go_ret2
      exact Or.inr ⟨HL.out, _, rfl, HW.out, (iter_below _ _ _).trans (Joins.below_draws _ _ _)⟩
end Go.Proofs.YtmbkmkpclfgppaaDoor
