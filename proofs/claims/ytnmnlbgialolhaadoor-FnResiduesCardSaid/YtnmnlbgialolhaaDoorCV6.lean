/- Contracts of single functions, and plain lemmas, on which the exact laws of this seat rest; each holds under the conditions that it states. -/
import Derived.Test.YtnmnlbgialolhaaDoorCV5
import Derived.Test.YtnmnlbgialolhaaDoorCV2
import Derived.Test.YtnmnlbgialolhaaDoorPb
import Derived.Test.YtnmnlbgialolhaaDoorTa
import Derived.Test.YtnmnlbgialolhaaDoorSu
import Derived.Test.YtnmnlbgialolhaaDoorSc
import Derived.Test.YtnmnlbgialolhaaDoorRc
import Derived.RegionTactic
import Derived.BigRegion
import Derived.Test.YtnmnlbgialolhaaDoorR1
namespace Go.Proofs.YtnmnlbgialolhaaDoor
set_option linter.unusedVariables false
set_option linter.unusedSimpArgs false
open Go.RowKit
attribute [local go_sem] Oper.semAt_some

theorem sd_nat (n : Nat) : sd (n : Int) = ((2 ^ n : Nat) : Int) := by
  unfold sd
  rw [Int.toNat_natCast, Int.natCast_pow]
  rfl
theorem sq_mat (n : Nat) : mcells (sd (n : Int)) (sd (n : Int)) (fun _ => 0) = mat (2 ^ n) (2 ^ n) (fun _ => 0) := by
  rw [sd_nat]
  rfl
theorem pow_le16 {n : Nat} (h : n ≤ 4) : 2 ^ n ≤ 16 := by have := Nat.pow_le_pow_right (n := 2) (by omega) h; omega
end Go.Proofs.YtnmnlbgialolhaaDoor
