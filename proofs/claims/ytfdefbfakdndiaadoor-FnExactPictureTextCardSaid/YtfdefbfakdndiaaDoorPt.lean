/- Contracts of single functions, and plain lemmas, on which the exact laws of this seat rest; each holds under the conditions that it states. -/
import Derived.Test.YtfdefbfakdndiaaDoorPb
namespace Go.Proofs.YtfdefbfakdndiaaDoor
set_option linter.unusedVariables false
open Go.RowKit

/-- the text of the rows 0 to k -/
def tx (ss : List ByteArray) : Nat → ByteArray
  | 0 => row0 ss
  | k + 1 => tx ss k ++ ((⟨#[47]⟩ : ByteArray) ++ ss.getD (k + 1) ByteArray.empty)

theorem tx_step (ss : List ByteArray) (k : Nat) (h : 1 ≤ k) : tx ss (k - 1) ++ ((⟨#[47]⟩ : ByteArray) ++ ss.getD k ByteArray.empty) = tx ss (k + 1 - 1) := by
  obtain ⟨j, rfl⟩ : ∃ j, k = j + 1 := ⟨k - 1, by omega⟩
  rfl

theorem tx_size {ss : List ByteArray} (V : VP ss) : ∀ k, k < ss.length → (tx ss k).size ≤ 17 * (k + 1)
  | 0, _ => by have := V.w16; show (row0 ss).size ≤ _; omega
  | k + 1, h => by
    have h1 := tx_size V k (by omega)
    have h2 := (V.rows (k + 1) h).1
    have h3 := V.w16
    show (tx ss k ++ ((⟨#[47]⟩ : ByteArray) ++ ss.getD (k + 1) ByteArray.empty)).size ≤ _
    rw [ByteArray.size_append, ByteArray.size_append]
    have h4 : (⟨#[47]⟩ : ByteArray).size = 1 := rfl
    omega

set_option maxHeartbeats 1000000 in
set_option maxRecDepth 100000 in
theorem l01PText_any (pb po : Nat) (ss : List ByteArray) (w : World) (hp : PicAt w pb po ss) :
    Calls Tryd.prog 74 #[.pointer (some ⟨pb, po, none⟩)] w fun e w' => e = .returned (.string (tx ss (ss.length - 1))) ∧ w = w' := by
  obtain ⟨b, off, cap, hc, hst, V⟩ := hp.open'
  have h1 := V.n1
  have h2 := V.n16
  have hc0 := hst.2 0 (by omega)
  rw [Nat.add_zero, show ss.getD 0 ByteArray.empty = row0 ss from rfl] at hc0
  have HT := Lib.hid (tx_step ss)
  have H0 : Hid (tx ss (1 - 1) = row0 ss) := rfl
  have HS := Lib.hid hst.2
  have HR : Hid (∀ y, y < ss.length → (ss.getD y ByteArray.empty).size ≤ 16) := fun y hy => by have := (V.rows y hy).1; have := V.w16; omega
  have HZ : Hid (∀ k, k < ss.length → (tx ss k).size ≤ 300) := fun k hk => by have := tx_size V k hk; omega
  obtain ⟨s0, hs⟩ : ∃ s, row0 ss = s := ⟨_, rfl⟩
  rw [hs] at hc0 H0
  obtain ⟨n, hn⟩ : ∃ n, ss.length = n := ⟨_, rfl⟩
  rw [hn] at hc HS HR HZ h1 h2 ⊢
  have k0 : (0 : Int) < (n : Int) := by omega
  clear hs hst V hp hn
  go_enter Tryd.func74, Tryd.ntmps74
  go_wp2
  go_loop [3, 4] (fun ov yv => ∃ y : Nat, 1 ≤ y ∧ y ≤ n ∧ yv = .int .i64 y ∧ ov = .string (tx ss (y - 1))) (fun _ yv => n - (intOf yv).toNat)
  case atStart => exact ⟨1, by omega, h1, rfl, by rw [H0.out]⟩
  case round =>
    obtain ⟨y, hy1, hy, rfl, rfl⟩ := hrel
    by_cases hlt : y < n
    · have hcell := HS.out y hlt
      have ht := HT.out y hy1
      have HTy := Lib.hid ht
      have z1 := HR.out y hlt
      have z2 := HZ.out (y - 1) (by omega)
      obtain ⟨s, hs⟩ : ∃ s, ss.getD y ByteArray.empty = s := ⟨_, rfl⟩
      obtain ⟨t, htt⟩ : ∃ t, tx ss (y - 1) = t := ⟨_, rfl⟩
      rw [hs] at hcell HTy z1
      rw [htt] at HTy z2 ⊢
      have k1 : (y : Int) < (n : Int) := by omega
      clear hs htt hc0 ht
      go_wp2
      go_round
      case rel => exact ⟨y + 1, by omega, by omega, by go_num, by rw [← HTy.out]⟩
      case measure => simp [intOf]; omega
    · obtain rfl : y = n := by omega
      obtain ⟨t, htt⟩ : ∃ t, tx ss (y - 1) = t := ⟨_, rfl⟩
      have HE := Lib.hid htt
      rw [htt]
      clear htt hc0
      go_wp2
      go_ret
      exact ⟨by rw [HE.out]; rfl, rfl⟩
end Go.Proofs.YtfdefbfakdndiaaDoor
