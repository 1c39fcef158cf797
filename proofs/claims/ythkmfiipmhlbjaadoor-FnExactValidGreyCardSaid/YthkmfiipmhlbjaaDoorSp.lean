/- Contracts of single functions, and plain lemmas, on which the exact laws of this seat rest; each holds under the conditions that it states. -/
import Derived.Test.YthkmfiipmhlbjaaDoorSv
namespace Go.Proofs.YthkmfiipmhlbjaaDoor
set_option linter.unusedVariables false
open Go.RowKit

theorem l01Height_any (pb po : Nat) (ss : List ByteArray) (w : World) (hp : PicAt w pb po ss) :
    Calls Tryd.prog 67 #[.pointer (some ⟨pb, po, none⟩)] w fun e w' => e = .returned (.int .i64 ss.length) ∧ w = w' := by
  obtain ⟨b, off, cap, hc, hst, V⟩ := hp.open'
  have := V.n16
  go_enter Tryd.func67, Tryd.ntmps67
  go_wp2
  go_ret
  exact ⟨rfl, rfl⟩

theorem l01Width_any (pb po : Nat) (ss : List ByteArray) (w : World) (hp : PicAt w pb po ss) :
    Calls Tryd.prog 66 #[.pointer (some ⟨pb, po, none⟩)] w fun e w' => e = .returned (.int .i64 (row0 ss).size) ∧ w = w' := by
  obtain ⟨b, off, cap, hc, hst, V⟩ := hp.open'
  have h1 := V.n1
  have h2 := V.n16
  have h3 := V.w16
  have hc0 := hst.2 0 (by omega)
  rw [Nat.add_zero, show ss.getD 0 ByteArray.empty = row0 ss from rfl] at hc0
  obtain ⟨s0, hs⟩ : ∃ s, row0 ss = s := ⟨_, rfl⟩
  rw [hs] at hc0 h3 ⊢
  have k0 : (0 : Int) < (ss.length : Int) := by omega
  clear hs hst V
  go_enter Tryd.func66, Tryd.ntmps66
  go_wp2
  go_ret
  exact ⟨rfl, rfl⟩

def insB (a b x y : Int) : Bool := inB x 0 (a - 1) && inB y 0 (b - 1)

/-- is the pixel x, y black; outside all are white -/
def pixI (ss : List ByteArray) (x y : Int) : Bool := insB (row0 ss).size ss.length x y && blackAt (ss.getD y.toNat ByteArray.empty) x.toNat

end Go.Proofs.YthkmfiipmhlbjaaDoor
