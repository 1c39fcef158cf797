/- Contracts of single functions, and plain lemmas, on which the exact laws of this seat rest; each holds under the conditions that it states. -/
import Derived.Test.YthblhibkbcmbaaaDoorQb
import Derived.Shelf.Spec.TrailingZeros
import Derived.Test.YthblhibkbcmbaaaDoorK2
import Derived.Test.YthblhibkbcmbaaaDoorGD
import Derived.Test.YthblhibkbcmbaaaDoorIs
import Derived.Test.YthblhibkbcmbaaaDoorCVB
import Derived.Test.YthblhibkbcmbaaaDoorV5
import Derived.Test.YthblhibkbcmbaaaDoorS3
import Derived.Test.YthblhibkbcmbaaaDoorCV7
import Derived.Test.YthblhibkbcmbaaaDoorCV5
import Derived.Test.YthblhibkbcmbaaaDoorRows
import Derived.Test.YthblhibkbcmbaaaDoorMo
import Derived.ProofKit
import Derived.OpenShut
import Derived.ShutString
import Derived.ChangeOld
import Derived.LaidMore
import Derived.LaidLaws
import Derived.LaidHandle
import Derived.Stop.LaidErr
import Derived.WalkSmall
import Derived.Stop.Joined
import Derived.ChangeVars
import Derived.SliceStrings
import Derived.Deep.Slices
import Derived.Test.YthblhibkbcmbaaaDoorBY
import Derived.Deep.MidRow
import Derived.OpenVars
import Derived.Lib.LaidTab
namespace Go.Proofs.YthblhibkbcmbaaaDoor
set_option linter.unusedVariables false
set_option linter.unusedSimpArgs false
open Go.RowKit

/-- the numbers of math/bits.TrailingZeros64 and its types in this program -/
def tz6Ren : Go.Shelf.Ren := ⟨fun | 29 => 37 | n => n, fun | 0 => 0 | 3 => 3 | 4 => 4 | 5 => 5 | 22 => 64 | 25 => 43 | 54 => 90 | n => n, fun | 1 => 1 | n => n⟩
theorem tz6Lays : Lays7.n29 Tryd.prog tz6Ren := {
  mixed := by kernel_rfl
  f29 := Tryd.func37.trans (congrArg some (by kernel_rfl))
  t0 := by kernel_rfl
  a0 := fun _ => by kernel_rfl
  z0 := fun _ => by kernel_rfl
  v0 := fun _ => by kernel_rfl
  i0 := by kernel_rfl
  t3 := by kernel_rfl
  a3 := fun _ => by kernel_rfl
  z3 := fun _ => by kernel_rfl
  v3 := fun _ => by kernel_rfl
  i3 := by kernel_rfl
  t4 := by kernel_rfl
  a4 := fun _ => by kernel_rfl
  z4 := fun _ => by kernel_rfl
  v4 := fun _ => by kernel_rfl
  i4 := by kernel_rfl
  t5 := by kernel_rfl
  a5 := fun _ => by kernel_rfl
  z5 := fun _ => by kernel_rfl
  v5 := fun _ => by kernel_rfl
  i5 := by kernel_rfl
  t22 := by kernel_rfl
  a22 := fun _ => by kernel_rfl
  z22 := fun _ => by kernel_rfl
  v22 := fun _ => by kernel_rfl
  i22 := by kernel_rfl
  t25 := by kernel_rfl
  a25 := fun _ => by kernel_rfl
  z25 := fun _ => by kernel_rfl
  v25 := fun _ => by kernel_rfl
  i25 := by kernel_rfl
  t54 := by kernel_rfl
  a54 := fun _ => by kernel_rfl
  z54 := fun _ => by kernel_rfl
  g1 := by kernel_rfl }
def Tab6 (w : World) : Prop := TabAt 1 Lib.deBruijn64tab w
theorem Tab6.below {w w' : World} (h : Tab6 w) (hb : Below w.heap.size w w') : Tab6 w' := fun j hj => cell_kept hb (h j hj)
theorem tz64 (x : Nat) (W : World) (hx : x < 18446744073709551616) (hW : Tab6 W) : Calls Tryd.prog 37 #[.int .u64 x] W (fun e w' => e = .returned (.int .i64 ((Lib.ctz 64 x : Nat) : Int)) ∧ W = w') :=
  (Any7.bits_TrailingZeros64 tz6Lays x hx W (fun _ => hW)).mono fun e w' ⟨h1, h2⟩ => ⟨h1, h2.symm⟩
theorem ctz_pow (n : Nat) (h : n ≤ 4) : Lib.ctz 64 (2 ^ n) = n := by
  rcases (by omega : n = 0 ∨ n = 1 ∨ n = 2 ∨ n = 3 ∨ n = 4) with rfl | rfl | rfl | rfl | rfl <;> decide +kernel

set_option maxHeartbeats 4000000 in
set_option maxRecDepth 100000 in
theorem isTree_any (a : Nat) (w : World) (h : 1 ≤ a ∧ a ≤ 16) : Calls Tryd.prog 36 #[.int .i64 (a : Int)] w (fun e w' => e = .returned (.bool (decide (0 ≤ odV (a : Int)))) ∧ w = w') := by
  have CS := Lib.hid (fun (n : Int) W => isSide_any n W)
  rcases (by omega : a = 1 ∨ a = 2 ∨ a = 3 ∨ a = 4 ∨ a = 5 ∨ a = 6 ∨ a = 7 ∨ a = 8 ∨ a = 9 ∨ a = 10 ∨ a = 11 ∨ a = 12 ∨ a = 13 ∨ a = 14 ∨ a = 15 ∨ a = 16) with rfl | rfl | rfl | rfl | rfl | rfl | rfl | rfl | rfl | rfl | rfl | rfl | rfl | rfl | rfl | rfl
  all_goals clear h
  all_goals go_enter Tryd.func36, Tryd.ntmps36
  all_goals go_wp2_with fail
  all_goals refine (CS.out _ _).mono ?_
  all_goals rintro e w1 ⟨rfl, rfl⟩
  all_goals simp only [inB]
  all_goals go_wp2_with fail
  all_goals go_ret
  all_goals exact ⟨rfl, rfl⟩
end Go.Proofs.YthblhibkbcmbaaaDoor

/- Contracts of single functions, and plain lemmas, on which the exact laws of this seat rest; each holds under the conditions that it states. -/
namespace Go.Proofs.YthblhibkbcmbaaaDoor
set_option linter.unusedVariables false
set_option linter.unusedSimpArgs false
open Go.RowKit

theorem catchNN_panicking (p q : Addr) (u0 b0 : Value) (u : TypeId) (pv : Value) (older : List PanicEntry) (w : World) (hc : w.cell? p = some u0) (hz : w.frozen? p = false) (hc2 : w.cell? q = some b0) (hz2 : w.frozen? q = false) (hne : p.block ≠ q.block) :
    CallsD Tryd.prog 59 #[.pointer (some p), .pointer (some q)] (.panicking ({ v := .iface u pv, recovered := false } :: older)) w fun e u' w' =>
      e = .returned (.tuple #[]) ∧ u' = .panicking ({ v := .iface u pv, recovered := true } :: older) ∧ w' = (w.setCell p (.slice none 0 0)).setCell q (.bool false) := by
  have hd2 : (w.setCell p (.slice none 0 0)).cell? q = some b0 := by rw [World.cell?_setCell_other _ _ _ _ (fun e => hne (by rw [e]))]; exact hc2
  have hf2 : (w.setCell p (.slice none 0 0)).frozen? q = false := by rw [World.frozen?_setCell]; exact hz2
  refine callsD_of_wpS Tryd.func59 rfl fun c₀ cs hu => ?_
  apply wpS_seq
  apply wpS_region
  simp [wpOpsS, go_sem, recoverD, hu, Tryd.ntmps59, Exit.thenS]
  refine wpS_cond (t := true) (by simp [Act.eval, Array.replicate]) ?_
  simp only [if_true]
  apply wpS_seq
  apply wpS_region
  simp [wpOpsS, go_sem, Exit.thenS]
  apply wpS_region
  simp [wpOpsS, go_sem, hc, hz, hd2, hf2, bodyPostS, results, Tryd.results59]

theorem catchNN_idle (p q : Addr) (w : World) :
    CallsD Tryd.prog 59 #[.pointer (some p), .pointer (some q)] .returning w fun e u' w' => e = .returned (.tuple #[]) ∧ u' = .returning ∧ w' = w := by
  refine callsD_of_wpS Tryd.func59 rfl fun c₀ cs hu => ?_
  apply wpS_seq
  apply wpS_region
  simp [wpOpsS, go_sem, recoverD, hu, Tryd.ntmps59, Exit.thenS]
  refine wpS_cond (t := false) (by simp [Act.eval, Array.replicate]) ?_
  simp only [Bool.false_eq_true, if_false]
  refine wpS_of_wp (wp_skip ?_)
  cases c₀
  simp_all [bodyPostS, results, Tryd.results59]

/-- the work yields -/
theorem attemptNN_yes (K : Nat) (caps : Array Value) (w : World) (Q : Value → World → World → Prop) (hcf : ∀ args (W : World), (callFunc K args).run Tryd.prog W = .ok (.enter K args) W) (hw : ∀ W, Below w.heap.size w W → Calls Tryd.prog K caps W (fun e w' => ∃ (ao : Option Addr) (n cap : Nat), e = .returned (.slice ao n cap) ∧ Q (.slice ao n cap) W w' ∧ Below W.heap.size W w')) :
    Calls Tryd.prog 32 #[.func (.func K) #[] caps] w fun e w' => ∃ (ao : Option Addr) (n cap : Nat) (w1 : World), e = .returned (.tuple #[.slice ao n cap, .bool true]) ∧ Q (.slice ao n cap) ((w.alloc (.cells #[.slice none 0 0] 26)).alloc (.cells #[.bool false] 4)) w1 ∧ Below w.heap.size w w1 ∧ w' = (w1.setCell ⟨w.heap.size, 0, none⟩ (.slice ao n cap)).setCell ⟨w.heap.size + 1, 0, none⟩ (.bool true) ∧ w1.heap[w.heap.size]? = some (.cells #[.slice none 0 0] 26 (0, 0)) ∧ w1.heap[w.heap.size + 1]? = some (.cells #[.bool false] 4 (0, 0)) := by
  have hmf : ∀ (fn : Fn) (first cap : Array Value) (w : World), (Instr.makeFunc fn first cap).run Tryd.prog w = .ok (.func fn first cap) w := fun _ _ _ _ => rfl
  have hb0 := Joins.below_alloc2 w (.cells #[.slice none 0 0] 26) (.cells #[.bool false] 4)
  have CW := Lib.hid (hw _ hb0)
  have h1 : ((w.alloc (.cells #[.slice none 0 0] 26)).alloc (.cells #[.bool false] 4)).heap[w.heap.size]? = some (.cells #[.slice none 0 0] 26 (0, 0)) := by
    rw [Below.heap_alloc _ _ _ (by simp)]; exact heap_alloc_last w _
  have h2 : ((w.alloc (.cells #[.slice none 0 0] 26)).alloc (.cells #[.bool false] 4)).heap[w.heap.size + 1]? = some (.cells #[.bool false] 4 (0, 0)) := heap_alloc2_new _ _ _
  have H1 := Lib.hid h1
  have H2 := Lib.hid h2
  have B0 := Lib.hid hb0
  clear h1 h2 hb0 hw
  go_enter_defers Tryd.func32, Tryd.ntmps32
  go_wp2_with fail
  refine CW.out.mono ?_
  rintro e w1 ⟨ao, n, cap, rfl, hQ, hb⟩
  have r1 := (hb.block w.heap.size (by simp; omega)).trans H1.out
  have r2 := (hb.block (w.heap.size + 1) (by simp)).trans H2.out
  have c1 := cell_of_one r1
  have c2 := cell_of_one r2
  have f1 := free_of_one r1
  have f2 := free_of_one r2
  have HQ := Lib.hid hQ
  have HB := Lib.hid hb
  have R1 := Lib.hid r1
  have R2 := Lib.hid r2
  clear hQ hb r1 r2
  go_wp2_with fail
  have x1 : ((w1.setCell ⟨w.heap.size, 0, none⟩ (.slice ao n cap)).setCell ⟨w.heap.size + 1, 0, none⟩ (.bool true)).cell? ⟨w.heap.size, 0, none⟩ = some (.slice ao n cap) := by
    rw [World.cell?_setCell_other _ _ _ _ (by intro e; have := congrArg Addr.block e; simp at this)]
    exact cell_of_one (one_setCell R1.out)
  have r3 : (w1.setCell ⟨w.heap.size, 0, none⟩ (.slice ao n cap)).heap[w.heap.size + 1]? = some (.cells #[.bool false] 4 (0, 0)) := (Below.heap_setCell _ _ _ _ (by simp)).trans R2.out
  have x2 : ((w1.setCell ⟨w.heap.size, 0, none⟩ (.slice ao n cap)).setCell ⟨w.heap.size + 1, 0, none⟩ (.bool true)).cell? ⟨w.heap.size + 1, 0, none⟩ = some (.bool true) := cell_of_one (one_setCell r3)
  refine leaves_cons (f := 59) (args := #[.pointer (some ⟨w.heap.size, 0, none⟩), .pointer (some ⟨w.heap.size + 1, 0, none⟩)]) (by simp) (by simp [go_sem]) ?_
  refine (catchNN_idle ⟨w.heap.size, 0, none⟩ ⟨w.heap.size + 1, 0, none⟩ _).mono ?_
  rintro e u' w'' ⟨rfl, rfl, rfl⟩
  refine ⟨.tuple #[.slice ao n cap, .bool true], by simp [results, Tryd.results32, go_sem, x1, x2], ao, n, cap, w1, rfl, HQ.out, B0.out.trans (HB.out.mono (by simp; omega)), rfl, R1.out, R2.out⟩

set_option maxHeartbeats 1000000 in
set_option maxRecDepth 100000 in
/-- the work is given up -/
theorem attemptNN_no (K : Nat) (caps : Array Value) (w : World) (hcf : ∀ args (W : World), (callFunc K args).run Tryd.prog W = .ok (.enter K args) W) (hw : ∀ W, Below w.heap.size w W → Calls Tryd.prog K caps W (fun e w' => (∃ T x, e = .panicked [{ v := .iface T x, recovered := false }]) ∧ Below W.heap.size W w')) :
    Calls Tryd.prog 32 #[.func (.func K) #[] caps] w fun e w' => e = .returned (.tuple #[.slice none 0 0, .bool false]) ∧ Below w.heap.size w w' := by
  have hmf : ∀ (fn : Fn) (first cap : Array Value) (w : World), (Instr.makeFunc fn first cap).run Tryd.prog w = .ok (.func fn first cap) w := fun _ _ _ _ => rfl
  have hb0 := Joins.below_alloc2 w (.cells #[.slice none 0 0] 26) (.cells #[.bool false] 4)
  have CW := Lib.hid (hw _ hb0)
  have h1 : ((w.alloc (.cells #[.slice none 0 0] 26)).alloc (.cells #[.bool false] 4)).heap[w.heap.size]? = some (.cells #[.slice none 0 0] 26 (0, 0)) := by
    rw [Below.heap_alloc _ _ _ (by simp)]; exact heap_alloc_last w _
  have h2 : ((w.alloc (.cells #[.slice none 0 0] 26)).alloc (.cells #[.bool false] 4)).heap[w.heap.size + 1]? = some (.cells #[.bool false] 4 (0, 0)) := heap_alloc2_new _ _ _
  have H1 := Lib.hid h1
  have H2 := Lib.hid h2
  have B0 := Lib.hid hb0
  clear h1 h2 hb0 hw
  go_enter_defers Tryd.func32, Tryd.ntmps32
  go_wp2_with fail
  refine CW.out.mono ?_
  rintro e w1 ⟨⟨T, x, rfl⟩, hb⟩
  have r1 := (hb.block w.heap.size (by simp; omega)).trans H1.out
  have r2 := (hb.block (w.heap.size + 1) (by simp)).trans H2.out
  have HB := Lib.hid (B0.out.trans (hb.mono (by simp; omega)))
  clear hb
  go_wp2_with fail
  have r3 : (w1.setCell ⟨w.heap.size, 0, none⟩ (.slice none 0 0)).heap[w.heap.size + 1]? = some (.cells #[.bool false] 4 (0, 0)) := (Below.heap_setCell _ _ _ _ (by simp)).trans r2
  have x1 : ((w1.setCell ⟨w.heap.size, 0, none⟩ (.slice none 0 0)).setCell ⟨w.heap.size + 1, 0, none⟩ (.bool false)).cell? ⟨w.heap.size, 0, none⟩ = some (.slice none 0 0) := by
    rw [World.cell?_setCell_other _ _ _ _ (by intro e; have := congrArg Addr.block e; simp at this)]
    exact cell_of_one (one_setCell r1)
  have x2 : ((w1.setCell ⟨w.heap.size, 0, none⟩ (.slice none 0 0)).setCell ⟨w.heap.size + 1, 0, none⟩ (.bool false)).cell? ⟨w.heap.size + 1, 0, none⟩ = some (.bool false) := cell_of_one (one_setCell r3)
  have hs := HB.out.size
  refine leaves_cons (f := 59) (args := #[.pointer (some ⟨w.heap.size, 0, none⟩), .pointer (some ⟨w.heap.size + 1, 0, none⟩)]) (by simp) (by simp [go_sem]) ?_
  refine (catchNN_panicking ⟨w.heap.size, 0, none⟩ ⟨w.heap.size + 1, 0, none⟩ (.slice none 0 0) (.bool false) T x [] _ (cell_of_one r1) (free_of_one r1) (cell_of_one r2) (free_of_one r2) (by simp)).mono ?_
  rintro e u' w'' ⟨rfl, rfl, rfl⟩
  refine ⟨.tuple #[.slice none 0 0, .bool false], by simp [results, Tryd.results32, go_sem, x1, x2], rfl, (HB.out.setCell (p := ⟨w.heap.size, 0, none⟩) (Nat.le_refl _) _).setCell (p := ⟨w.heap.size + 1, 0, none⟩) (by simp) _⟩

end Go.Proofs.YthblhibkbcmbaaaDoor

/- Contracts of single functions, and plain lemmas, on which the exact laws of this seat rest; each holds under the conditions that it states. -/
namespace Go.Proofs.YthblhibkbcmbaaaDoor
set_option linter.unusedVariables false
set_option linter.unusedSimpArgs false
open Go.RowKit
attribute [local go_sem] Oper.semAt_some

def paOk (ss : List ByteArray) (c : Int) : Bool := validB ss && (decide ((row0 ss).size = ss.length) && (decide (0 ≤ odV ((row0 ss).size : Int)) && inB c 0 3))
def paN (ss : List ByteArray) : Nat := (odV ((row0 ss).size : Int)).toNat
def paV (ss : List ByteArray) (c : Int) : List Int := if paOk ss c = true then rnL (alF c.toNat (paN ss) (pxN ss)) (2 ^ paN ss * 2 ^ paN ss) else []
theorem od_cases (a : Nat) : odV (a : Int) = -1 ∨ ∃ n : Nat, n ≤ 4 ∧ odV (a : Int) = (n : Int) ∧ a = 2 ^ n := by
  unfold odV
  split
  · exact Or.inr ⟨0, by omega, rfl, by omega⟩
  · split
    · exact Or.inr ⟨1, by omega, rfl, by omega⟩
    · split
      · exact Or.inr ⟨2, by omega, rfl, by omega⟩
      · split
        · exact Or.inr ⟨3, by omega, rfl, by omega⟩
        · split
          · exact Or.inr ⟨4, by omega, rfl, by omega⟩
          · exact Or.inl rfl
theorem paV_len (ss : List ByteArray) (c : Int) : (paV ss c).length ≤ 257 := by
  unfold paV
  split
  · have hn : paN ss ≤ 4 := by
      unfold paN
      rcases od_cases (row0 ss).size with h | ⟨n, hn, h, _⟩
      · rw [h]
        decide
      · rw [h]
        omega
    have h1 := (rnL_len (alF c.toNat (paN ss) (pxN ss)) (2 ^ paN ss * 2 ^ paN ss)).2
    have h2 : 2 ^ paN ss * 2 ^ paN ss ≤ 256 := Nat.mul_le_mul (pow_le16 hn) (pow_le16 hn)
    omega
  · simp

set_option maxHeartbeats 4000000 in
set_option maxRecDepth 100000 in
theorem spec_PicAlong (c : Int) (v : Value) (ss : List ByteArray) (w : World) (hN : ss.length ≤ maxLen) (hz : ∀ s ∈ ss, s.size ≤ maxLen) (hv : Sl w v ss) :
    Calls Tryd.prog 7 #[.agg #[v], .int .i64 c] w (SaysN (paV ss c) (paOk ss c) w) := by
  have hb0 := Joins.below_alloc1 w (.cells #[v] 29)
  have hp : (w.alloc (.cells #[v] 29)).cell? ⟨w.heap.size, 0, none⟩ = some v := cell_of_one (heap_alloc_last w _)
  have hv0 := hv.below hb0
  obtain ⟨W0, hW0⟩ : ∃ W0, w.alloc (.cells #[v] 29) = W0 := ⟨_, rfl⟩
  rw [hW0] at hb0 hp hv0
  have CIs := Lib.hid (l01Is_any w.heap.size 0 v ss W0 hp hv0 hN hz)
  have B0 := Lib.hid hb0
  have HW := Lib.hid hW0
  cases hok : validB ss with
  | false =>
    rw [hok] at CIs
    have e1 : paOk ss c = false := by unfold paOk; rw [hok]; rfl
    have e2 : paV ss c = [] := by unfold paV; rw [if_neg (by rw [e1]; decide)]
    rw [e1, e2]
    clear hb0 hp hv hv0 hW0 hok e1 e2
    go_enter Tryd.func7, Tryd.ntmps7
    go_upto_region 1 with fail
    rw [HW.out]
    go_wp2_with fail
    refine CIs.out.mono ?_
    rintro e w1 ⟨rfl, hb⟩
    have B1 := Lib.hid (B0.out.trans (hb.mono B0.out.size))
    clear hb
    go_wp2_with fail
    go_ret2
    exact ⟨_, rfl, OwnN.nil _ _, B1.out⟩
  | true =>
    rw [hok] at CIs
    have HPA : Hid (∀ W, Below W0.heap.size W0 W → PicAt W w.heap.size 0 ss) := fun W hb => ⟨hok, v, cell_kept hb hp, hv0.below hb⟩
    have CW := Lib.hid (fun W (hb : Below W0.heap.size W0 W) => l01Width_any w.heap.size 0 ss W (HPA.out W hb))
    have CH := Lib.hid (fun W (hb : Below W0.heap.size W0 W) => l01Height_any w.heap.size 0 ss W (HPA.out W hb))
    have HOk : Hid (∀ b, (decide ((row0 ss).size = ss.length) && (decide (0 ≤ odV ((row0 ss).size : Int)) && inB c 0 3)) = b → paOk ss c = b) := fun b h => by unfold paOk; rw [hok, Bool.true_and]; exact h
    have HNo : Hid (paOk ss c = false → paV ss c = []) := fun h => by unfold paV; rw [if_neg (by rw [h]; decide)]
    have HYes : Hid (∀ c' : Nat, c = (c' : Int) → paOk ss c = true → paV ss c = rnL (alF c' (paN ss) (pxN ss)) (2 ^ paN ss * 2 ^ paN ss)) := fun c' hc h => by unfold paV; rw [if_pos h, hc, Int.toNat_natCast]
    have HPn : Hid (paN ss = (odV ((row0 ss).size : Int)).toNat) := rfl
    have HAl : Hid (∀ (c n : Nat) W, Below W0.heap.size W0 W → c < 4 → n ≤ 4 → Calls Tryd.prog 30 #[.pointer (some ⟨w.heap.size, 0, none⟩), .int .i64 (c : Int), .int .i64 (n : Int)] W (fun e w' => ∃ v, e = .returned v ∧ OwnN w' W.heap.size v (rnL (alF c n (pxN ss)) (2 ^ n * 2 ^ n)) ∧ Below W.heap.size W w')) := fun c n W hb hc hn => l08Along_any w.heap.size 0 c n ss W (HPA.out W hb) hc hn
    obtain ⟨ok, hok2⟩ : ∃ b, paOk ss c = b := ⟨_, rfl⟩
    obtain ⟨V, hV⟩ : ∃ b, paV ss c = b := ⟨_, rfl⟩
    rw [hok2] at HOk HNo HYes ⊢
    rw [hV] at HNo HYes ⊢
    have HOd := Lib.hid (od_cases (row0 ss).size)
    have CO := Lib.hid (fun W => l08Order_any ((row0 ss).size : Int) W)
    obtain ⟨px, hpx⟩ : ∃ f, pxN ss = f := ⟨_, rfl⟩
    obtain ⟨n, hn⟩ : ∃ n, paN ss = n := ⟨_, rfl⟩
    rw [hpx] at HYes HAl
    rw [hn] at HYes HPn
    obtain ⟨a, ha⟩ : ∃ a, (row0 ss).size = a := ⟨_, rfl⟩
    obtain ⟨b, hb⟩ : ∃ a, ss.length = a := ⟨_, rfl⟩
    rw [ha] at CW HOk HOd HPn CO
    rw [hb] at CH HOk
    have CA := Lib.hid (fun W => l08Ask_any c 0 W)
    rw [show inB 0 0 4 = true from by decide, Bool.and_true] at CA
    clear hb0 hp hv hv0 hW0 hok hok2 hV ha hb hpx hn hN hz HPA
    go_enter Tryd.func7, Tryd.ntmps7
    go_upto_region 1 with fail
    rw [HW.out]
    go_wp2_with fail
    refine CIs.out.mono ?_
    rintro e w1 ⟨rfl, hb1⟩
    have B1 := Lib.hid hb1
    clear hb1 CIs
    go_wp2_with fail
    refine (CW.out _ B1.out).mono ?_
    rintro e w1' ⟨rfl, rfl⟩
    go_wp2_with fail
    refine (CH.out _ B1.out).mono ?_
    rintro e w1' ⟨rfl, rfl⟩
    by_cases hwh : a = b
    · subst hwh
      rcases HOd.out with hod | ⟨n', hn4, hod, ha2⟩
      · rw [hod] at CO HPn HOk
        obtain rfl : false = ok := (HOk.out false (by simp)).symm
        obtain rfl : V = [] := HNo.out rfl
        clear hod
        go_wp2_with fail
        refine (CW.out _ B1.out).mono ?_
        rintro e w1' ⟨rfl, rfl⟩
        go_wp2_with fail
        refine (CO.out _).mono ?_
        rintro e w1' ⟨rfl, rfl⟩
        have B2 := Lib.hid (B0.out.trans (B1.out.mono B0.out.size))
        go_wp2_with fail
        go_ret2
        exact ⟨_, rfl, OwnN.nil _ _, B2.out⟩
      · rw [hod] at CO HPn HOk
        obtain rfl : n = n' := by have := HPn.out; omega
        have hnn : (0 : Int) ≤ (n : Int) := by omega
        have hnl : ¬ ((n : Int) < 0) := by omega
        clear hod HPn HOd ha2
        go_wp2_with fail
        refine (CW.out _ B1.out).mono ?_
        rintro e w1' ⟨rfl, rfl⟩
        go_wp2_with fail
        refine (CO.out _).mono ?_
        rintro e w1' ⟨rfl, rfl⟩
        go_wp2_with fail
        refine (CA.out _).mono ?_
        rintro e w1' ⟨rfl, rfl⟩
        cases hcc : inB c 0 3 with
        | false =>
          obtain rfl : false = ok := (HOk.out false (by rw [hcc]; simp)).symm
          obtain rfl : V = [] := HNo.out rfl
          have B2 := Lib.hid (B0.out.trans (B1.out.mono B0.out.size))
          clear hcc
          go_wp2_with fail
          go_ret2
          exact ⟨_, rfl, OwnN.nil _ _, B2.out⟩
        | true =>
          obtain rfl : true = ok := (HOk.out true (by rw [hcc]; simp)).symm
          obtain ⟨c', hcc2, hc4⟩ : ∃ c' : Nat, c = (c' : Int) ∧ c' < 4 := by
            simp [inB] at hcc
            exact ⟨c.toNat, by omega, by omega⟩
          have hVV := HYes.out c' hcc2 rfl
          subst hcc2
          have CAl := Lib.hid (fun W hb => HAl.out c' n W hb hc4 hn4)
          rw [← hVV] at CAl
          clear hcc hVV HAl HOk HYes HNo hc4 hn4
          go_wp2_with fail
          refine (CW.out _ B1.out).mono ?_
          rintro e w1' ⟨rfl, rfl⟩
          go_wp2_with fail
          refine (CO.out _).mono ?_
          rintro e w1' ⟨rfl, rfl⟩
          go_wp2_with fail
          refine (CAl.out _ B1.out).mono ?_
          rintro e w3 ⟨u, rfl, hown, hb3⟩
          have B3 := Lib.hid (B0.out.trans ((B1.out.trans (hb3.mono B1.out.size)).mono B0.out.size))
          have HO3 := Lib.hid (OwnN.mono hown (Nat.le_trans B0.out.size B1.out.size))
          clear hown hb3
          go_wp2_with fail
          go_ret2
          exact ⟨_, rfl, HO3.out, B3.out⟩
    · have hne : ¬ ((a : Int) = (b : Int)) := by omega
      obtain rfl : false = ok := (HOk.out false (by simp [hwh])).symm
      obtain rfl : V = [] := HNo.out rfl
      have B2 := Lib.hid (B0.out.trans (B1.out.mono B0.out.size))
      clear hwh
      go_wp2_with fail
      go_ret2
      exact ⟨_, rfl, OwnN.nil _ _, B2.out⟩
end Go.Proofs.YthblhibkbcmbaaaDoor

/- Contracts of single functions, and plain lemmas, on which the exact laws of this seat rest; each holds under the conditions that it states. -/
namespace Go.Proofs.YthblhibkbcmbaaaDoor
set_option linter.unusedVariables false
set_option linter.unusedSimpArgs false
open Go.RowKit
attribute [local go_sem] Oper.semAt_some

theorem pa_parts {ss : List ByteArray} {c : Int} (hok : validB ss = true) (hwh : (row0 ss).size = ss.length) (n : Nat) (hod : odV ((row0 ss).size : Int) = (n : Int)) : paOk ss c = inB c 0 3 ∧ paN ss = n := by
  refine ⟨?_, by unfold paN; rw [hod]; rfl⟩
  unfold paOk
  rw [hok, hod, decide_eq_true hwh, decide_eq_true (show (0 : Int) ≤ (n : Int) by omega)]
  simp

set_option maxHeartbeats 8000000 in
set_option maxRecDepth 100000 in
theorem paWork_yes (pc pk : Nat) (c : Int) (v : Value) (ss : List ByteArray) (w : World) (hN : ss.length ≤ maxLen) (hz : ∀ s ∈ ss, s.size ≤ maxLen) (hv : Sl w v ss) (he : ErrLen w) (hQ : QvP w) (hT : Tab6 w)
    (hpc : w.cell? ⟨pc, 0, none⟩ = some v) (hpk : w.cell? ⟨pk, 0, none⟩ = some (.int .i64 c)) (hok : validB ss = true) (hwh : (row0 ss).size = ss.length) (n : Nat) (hn4 : n ≤ 4) (hod : odV ((row0 ss).size : Int) = (n : Int)) (ha2 : (row0 ss).size = 2 ^ n) (hc : inB c 0 3 = true) :
    Calls Tryd.prog 33 #[.pointer (some ⟨pc, 0, none⟩), .pointer (some ⟨pk, 0, none⟩)] w (fun e w' => ∃ u, e = .returned u ∧ OwnN w' w.heap.size u (paV ss c) ∧ Below w.heap.size w w') := by
  obtain ⟨hp1, hp2⟩ := pa_parts (c := c) hok hwh n hod
  obtain ⟨c', hcc2, hc4⟩ : ∃ c' : Nat, c = (c' : Int) ∧ c' < 4 := by
    have hc2 := hc
    simp [inB] at hc2
    exact ⟨c.toNat, by omega, by omega⟩
  have hVV : paV ss c = rnL (alF c' n (pxN ss)) (2 ^ n * 2 ^ n) := by
    unfold paV
    rw [if_pos (hp1.trans hc), hp2, hcc2, Int.toNat_natCast]
  rw [hVV]
  have V := vp_of hok
  have hw16 : 1 ≤ (row0 ss).size ∧ (row0 ss).size ≤ 16 := ⟨V.w1, V.w16⟩
  have hsz := matC_size ss
  have hone := matC_one ss
  have hMM := matC_yes hok
  have CM := Lib.hid (reqMat_yes v ss w hN hz hv he hok)
  have CTr := Lib.hid (fun W => isTree_any (row0 ss).size W hw16)
  rw [hod, decide_eq_true (show (0 : Int) ≤ (n : Int) by omega)] at CTr
  have CZ : Hid (∀ W, Below w.heap.size w W → Calls Tryd.prog 37 #[.int .u64 ((row0 ss).size : Int)] W (fun e w' => e = .returned (.int .i64 (n : Int)) ∧ W = w')) := fun W hb => by
    have := tz64 (row0 ss).size W (by omega) (hT.below hb)
    rw [show Lib.ctz 64 (row0 ss).size = n from by rw [ha2]; exact ctz_pow n hn4] at this
    exact this
  have CT := Lib.hid (fun W => requiredTour_yes c (n : Int) W hc (by simp [inB]; omega))
  have hG : ∀ j, wordsOf ss j < 4294967296 := fun j => words_lt V j
  have CR : Hid (∀ W, Below w.heap.size w W → Calls Tryd.prog 39 #[.agg #[.int .i64 c, .int .i64 (n : Int)], .agg (matC ss)] W (fun e w' => ∃ v, e = .returned v ∧ OwnN w' W.heap.size v (rnL (alF c' n (pxN ss)) (2 ^ n * 2 ^ n)) ∧ Below W.heap.size W w')) := fun W hb => by
    rw [hcc2]
    refine runs_any (matC ss) c' n (pxN ss) W hc4 hn4 (hQ.below hb) hsz fun x y W hx hy => ?_
    have := black_any (matC ss) (row0 ss).size ss.length (wordsOf ss) x y W hMM V.w16 V.n16 hG
    rw [words_bit V] at this
    exact this
  obtain ⟨R, hR⟩ : ∃ R, rnL (alF c' n (pxN ss)) (2 ^ n * 2 ^ n) = R := ⟨_, rfl⟩
  rw [hR] at CR ⊢
  obtain ⟨M, hM⟩ : ∃ M, matC ss = M := ⟨_, rfl⟩
  rw [hM] at CM hsz hone hMM CR
  have HI : Hid ((Tryd.prog.info? 59).map (·.size) = some M.size) := by show _ = _; rw [hsz]; exact infoM
  have HZ := Lib.hid (zeros_size.trans hsz.symm)
  have HO := Lib.hid hone
  obtain ⟨a, ha⟩ : ∃ a, (row0 ss).size = a := ⟨_, rfl⟩
  obtain ⟨b, hb⟩ : ∃ a, ss.length = a := ⟨_, rfl⟩
  rw [ha, hb] at hMM
  rw [ha] at hw16
  rw [ha] at CTr CZ
  have hab : a = b := by rw [← ha, ← hb]; exact hwh
  subst hab
  have HMM := Lib.hid hMM
  have kU : IntKind.u64.wrap (a : Int) = (a : Int) := IntWalk.u64_in _ (by omega)
  clear hVV hp1 hp2 hcc2 hc4 hod ha2 hT hQ hc hok hwh hR hM hsz hone hMM V hG hv he hN hz ha hb hn4
  go_enter Tryd.func33, Tryd.ntmps33
  go_wp2_with fail
  refine CM.out.mono ?_
  rintro e w1 ⟨rfl, hb1⟩
  have HB1 := Lib.hid hb1
  clear hb1
  go_wp2_with (refine wpList_store_new w1 rfl 59 _ _ rfl M rfl rfl 59 zeros HI.out HZ.out HO.out ?_; refine Hid.out ?_)
  have hb1 := HB1.out
  have hm0 : (w1.alloc (.cells M 59)).heap[w1.heap.size]? = some (.cells M 59 (0, 0)) := heap_alloc_last w1 _
  have hBm : Below w.heap.size w (w1.alloc (.cells M 59)) := hb1.alloc hb1.size _
  have k0 : (w1.alloc (.cells M 59)).cell? ⟨w1.heap.size, 0, none⟩ = some (.int .i64 (a : Int)) := by rw [Joins.cell_of_block hm0 0, HMM.out]; rfl
  have k1 : (w1.alloc (.cells M 59)).cell? ⟨w1.heap.size, 1, none⟩ = some (.int .i64 (a : Int)) := by rw [Joins.cell_of_block hm0 1, HMM.out]; rfl
  have hlt : w1.heap.size < (w1.alloc (.cells M 59)).heap.size := by simp
  refine Lib.hid ?_
  obtain ⟨mb, hmb⟩ : ∃ z, w1.heap.size = z := ⟨_, rfl⟩
  obtain ⟨Wm, hWm⟩ : ∃ W, w1.alloc (.cells M 59) = W := ⟨_, rfl⟩
  rw [hWm, hmb] at hm0 k0 k1 hlt
  rw [hWm] at hBm
  rw [hWm, hmb]
  have HBm := Lib.hid hBm
  have HMx : Hid (∀ W, Below Wm.heap.size Wm W → W.heap[mb]? = some (.cells M 59 (0, 0))) := fun W hb => (hb.block mb hlt).trans hm0
  clear hm0 hBm hb1 hmb hWm hlt
  go_wp2_with fail
  refine (CTr.out _).mono ?_
  rintro e Wm ⟨rfl, rfl⟩
  go_wp2_with fail
  refine (require_yes _).mono ?_
  rintro e Wm ⟨rfl, rfl⟩
  go_wp2_with fail
  refine (CZ.out _ HBm.out).mono ?_
  rintro e Wm ⟨rfl, rfl⟩
  clear k0 k1
  go_upto_region 4 with fail
  refine wp_region_inv_at (by kernel_rfl) (fun A0 L A W => ∃ (b0 b1 b2 b3 b4 b5 : Bool) (v22 v23 v24 v25 v26 v2 : Value), L = #[b0, b1, b2, b3, b4, b5] ∧ A = ((((((A0.put (some 22) v22).put (some 23) v23).put (some 24) v24).put (some 25) v25).put (some 26) v26).put (some 2) v2) ∧ (∃ Wp, Below Wm.heap.size Wm Wp ∧ (if b5 = true then OwnN W w.heap.size v2 R ∧ W = Wp else W = Wp)) ∧ Hid (b0 = true → v22 = .int .i64 c) ∧ Hid (b1 = true → v23 = .int .i64 (n : Int)) ∧ Hid (b2 = true → v24 = .agg #[.int .i64 c, .int .i64 (n : Int)]) ∧ Hid (b3 = true → v25 = .agg M) ∧ Hid (b4 = true → b5 = false → ∃ v', v26 = v' ∧ OwnN W w.heap.size v' R) ∧ Hid ((b0 = false → b5 = false) ∧ (b1 = false → b5 = false) ∧ (b2 = false → b5 = false) ∧ (b3 = false → b5 = false) ∧ (b4 = false → b5 = false))) ?_ ?_ ?_
  · intro A0
    refine ⟨false, false, false, false, false, false, A0.tmps.getD 22 undef, A0.tmps.getD 23 undef, A0.tmps.getD 24 undef, A0.tmps.getD 25 undef, A0.tmps.getD 26 undef, A0.tmps.getD 2 undef, rfl, (by simp only [put_self]), ⟨_, (Below.refl _ _).drew, (by simp)⟩, Lib.hid (fun hf => by cases hf), Lib.hid (fun hf => by cases hf), Lib.hid (fun hf => by cases hf), Lib.hid (fun hf => by cases hf), Lib.hid (fun hf => by cases hf), Lib.hid ⟨fun _ => rfl, fun _ => rfl, fun _ => rfl, fun _ => rfl, fun _ => rfl⟩⟩
  · intro L A W hI i hi o ho K' hK
    have hlt := (ready_left hi).1
    have hun := (ready_left hi).2
    have haf := ready_after hi ho
    clear hi
    obtain ⟨b0, b1, b2, b3, b4, b5, v22, v23, v24, v25, v26, v2, rfl, rfl, hB, h0, h1, h2, h3, h4, p⟩ := hI
    have hc : i = 0 ∨ i = 1 ∨ i = 2 ∨ i = 3 ∨ i = 4 ∨ i = 5 := by
      simp at hlt
      omega
    rcases hc with rfl | rfl | rfl | rfl | rfl | rfl
    all_goals (obtain rfl := Option.some.inj ho; clear ho; simp [Region.binds] at haf hun; (try simp only [List.getElem_toArray, List.getElem_cons_zero, List.getElem_cons_succ]); simp only [Act.put, List.setIfInBounds_toArray, List.set_cons_zero, List.set_cons_succ])
    · -- operation 0
      replace hK := Lib.hid hK
      have hlast : b5 = false := p.out.1 hun
      subst hlast
      obtain ⟨Wp, hB, hWp⟩ := hB
      have hWq : W = Wp := by simpa using hWp
      clear hWp
      subst hWq
      have qk := cell_kept (HBm.out.trans (hB.mono HBm.out.size)) hpk
      have qM := HMx.out W hB
      subst hun
      go_simp
      exact hK.out _ _ ⟨true, b1, b2, b3, b4, false, .int .i64 c, v23, v24, v25, v26, v2, rfl, (by simp only [Act.put, List.setIfInBounds_toArray, List.set_cons_zero, List.set_cons_succ]), ⟨_, hB, by simp⟩, Lib.hid (fun _ => rfl), h1, h2, h3, h4, Lib.hid ⟨(fun hf => by cases hf), (fun _ => rfl), (fun _ => rfl), (fun _ => rfl), (fun _ => rfl)⟩⟩
    · -- operation 1
      replace hK := Lib.hid hK
      have hlast : b5 = false := p.out.2.1 hun
      subst hlast
      obtain ⟨Wp, hB, hWp⟩ := hB
      have hWq : W = Wp := by simpa using hWp
      clear hWp
      subst hWq
      have qk := cell_kept (HBm.out.trans (hB.mono HBm.out.size)) hpk
      have qM := HMx.out W hB
      subst hun
      go_simp
      exact hK.out _ _ ⟨b0, true, b2, b3, b4, false, v22, .int .i64 (n : Int), v24, v25, v26, v2, rfl, (by simp only [Act.put, List.setIfInBounds_toArray, List.set_cons_zero, List.set_cons_succ]), ⟨_, hB, by simp⟩, h0, Lib.hid (fun _ => rfl), h2, h3, h4, Lib.hid ⟨(fun _ => rfl), (fun hf => by cases hf), (fun _ => rfl), (fun _ => rfl), (fun _ => rfl)⟩⟩
    · -- operation 2
      replace hK := Lib.hid hK
      have hlast : b5 = false := p.out.2.2.1 hun
      subst hlast
      obtain ⟨Wp, hB, hWp⟩ := hB
      have hWq : W = Wp := by simpa using hWp
      clear hWp
      subst hWq
      have qk := cell_kept (HBm.out.trans (hB.mono HBm.out.size)) hpk
      have qM := HMx.out W hB
      obtain rfl := (h0.out (by simp only [haf])).symm
      obtain rfl := (h1.out (by simp only [haf])).symm
      subst hun
      go_simp
      refine (CT.out W).mono ?_
      rintro e W' ⟨rfl, hb⟩
      have hkept := fun kb (hk : kb < W.heap.size) => hb.block kb hk
      exact hK.out _ _ ⟨b0, b1, true, b3, b4, false, .int .i64 c, .int .i64 (n : Int), .agg #[.int .i64 c, .int .i64 (n : Int)], v25, v26, v2, rfl, (by simp only [Act.put, List.setIfInBounds_toArray, List.set_cons_zero, List.set_cons_succ]), ⟨_, hB.trans (hb.mono hB.size), by simp⟩, Lib.hid (fun _ => rfl), Lib.hid (fun _ => rfl), Lib.hid (fun _ => rfl), h3, Lib.hid (fun hx hu => by obtain ⟨v', e1, fx⟩ := h4.out hx hu; exact ⟨v', e1, OwnN.below fx hb⟩), Lib.hid ⟨(fun _ => rfl), (fun _ => rfl), (fun hf => by cases hf), (fun _ => rfl), (fun _ => rfl)⟩⟩
    · -- operation 3
      replace hK := Lib.hid hK
      have hlast : b5 = false := p.out.2.2.2.1 hun
      subst hlast
      obtain ⟨Wp, hB, hWp⟩ := hB
      have hWq : W = Wp := by simpa using hWp
      clear hWp
      subst hWq
      have qk := cell_kept (HBm.out.trans (hB.mono HBm.out.size)) hpk
      have qM := HMx.out W hB
      subst hun
      rw [if_pos (by simp [Region.wanted])]
      refine wp_load_row 59 _ rfl mb rfl 59 M (0, 0) _ qM Tryd.underlying59 rfl HI.out ?_
      exact hK.out _ _ ⟨b0, b1, b2, true, b4, false, v22, v23, v24, .agg M, v26, v2, rfl, (by simp only [Act.put, List.setIfInBounds_toArray, List.set_cons_zero, List.set_cons_succ]), ⟨_, hB, by simp⟩, h0, h1, h2, Lib.hid (fun _ => rfl), h4, Lib.hid ⟨(fun _ => rfl), (fun _ => rfl), (fun _ => rfl), (fun hf => by cases hf), (fun _ => rfl)⟩⟩
    · -- operation 4
      replace hK := Lib.hid hK
      have hlast : b5 = false := p.out.2.2.2.2 hun
      subst hlast
      obtain ⟨Wp, hB, hWp⟩ := hB
      have hWq : W = Wp := by simpa using hWp
      clear hWp
      subst hWq
      have qk := cell_kept (HBm.out.trans (hB.mono HBm.out.size)) hpk
      have qM := HMx.out W hB
      obtain rfl := (h2.out (by simp only [haf])).symm
      obtain rfl := (h3.out (by simp only [haf])).symm
      subst hun
      go_simp
      refine (CR.out W (HBm.out.trans (hB.mono HBm.out.size))).mono ?_
      rintro e W' ⟨v', rfl, fo0, hb⟩
      have fo := OwnN.mono fo0 (Nat.le_trans HBm.out.size hB.size)
      have hkept := fun kb (hk : kb < W.heap.size) => hb.block kb hk
      exact hK.out _ _ ⟨b0, b1, b2, b3, true, false, v22, v23, .agg #[.int .i64 c, .int .i64 (n : Int)], .agg M, v', v2, rfl, (by simp only [Act.put, List.setIfInBounds_toArray, List.set_cons_zero, List.set_cons_succ]), ⟨_, hB.trans (hb.mono hB.size), by simp⟩, h0, h1, Lib.hid (fun _ => rfl), Lib.hid (fun _ => rfl), Lib.hid (fun _ _ => ⟨v', rfl, fo⟩), Lib.hid ⟨(fun _ => rfl), (fun _ => rfl), (fun _ => rfl), (fun _ => rfl), (fun hf => by cases hf)⟩⟩
    · -- operation 5
      replace hK := Lib.hid hK
      subst hun
      obtain ⟨Wp, hB, hWp⟩ := hB
      have hWq : W = Wp := by simpa using hWp
      clear hWp
      subst hWq
      have qk := cell_kept (HBm.out.trans (hB.mono HBm.out.size)) hpk
      have qM := HMx.out W hB
      obtain ⟨v', rfl, fo⟩ := h4.out (by simp only [haf]) (by first | exact hun | simp only [haf])
      obtain ⟨v', hv'⟩ : ∃ z, z = v26 := ⟨_, rfl⟩
      subst hv'
      go_simp
      have hset := And.intro fo (rfl : W = W)
      exact hK.out _ _ ⟨b0, b1, b2, b3, b4, true, v22, v23, v24, v25, v', v', rfl, (by simp only [Act.put, List.setIfInBounds_toArray, List.set_cons_zero, List.set_cons_succ]), ⟨_, hB, by rw [if_pos rfl]; exact hset⟩, h0, h1, h2, h3, Lib.hid (fun _ hu => by cases hu), Lib.hid ⟨(fun hf => absurd (show false = true from hf.symm.trans (by simp only [haf])) (by decide)), (fun hf => absurd (show false = true from hf.symm.trans (by simp only [haf])) (by decide)), (fun hf => absurd (show false = true from hf.symm.trans (by simp only [haf])) (by decide)), (fun hf => absurd (show false = true from hf.symm.trans (by simp only [haf])) (by decide)), (fun hf => absurd (show false = true from hf.symm.trans (by simp only [haf])) (by decide))⟩⟩
  intro L A W hI hr
  obtain ⟨b0, b1, b2, b3, b4, b5, v22, v23, v24, v25, v26, v2, rfl, rfl, hB, h0, h1, h2, h3, h4, p⟩ := hI
  have d0 := ready_done hr 0 _ rfl (by simp [Region.binds])
  have d1 := ready_done hr 1 _ rfl (by simp [Region.binds])
  have d3 := ready_done hr 3 _ rfl (by simp [Region.binds])
  simp at d0 d1 d3
  subst d0 d1 d3
  have d2 := ready_done hr 2 _ rfl (by simp [Region.binds])
  simp at d2
  subst d2
  have d4 := ready_done hr 4 _ rfl (by simp [Region.binds])
  simp at d4
  subst d4
  have d5 := ready_done hr 5 _ rfl (by simp [Region.binds])
  simp at d5
  subst d5
  obtain rfl := (h0.out rfl).symm
  obtain rfl := (h1.out rfl).symm
  obtain rfl := (h2.out rfl).symm
  obtain rfl := (h3.out rfl).symm
  obtain ⟨Wp, hB, hWp⟩ := hB
  rw [if_pos rfl] at hWp
  simp only [Act.put, List.setIfInBounds_toArray, List.set_cons_zero, List.set_cons_succ]
  clear hr h0 h1 h2 h3 h4 p
  obtain ⟨hown, rfl⟩ := hWp
  have HB9 := Lib.hid (HBm.out.trans (hB.mono HBm.out.size))
  have HO9 := Lib.hid hown
  clear hown hB
  go_wp2
  go_ret
  exact ⟨_, rfl, HO9.out, HB9.out⟩
end Go.Proofs.YthblhibkbcmbaaaDoor

/- What the frames of this seat's laws share: the listed error, a struct of one field by value. -/
namespace Go.Proofs.YthblhibkbcmbaaaDoor
open Go.ChangeShapes Go.WideShapes Go.ChangeAt Go.RowKit Go.Deep Go.WideElems
open Go.ChangeMaps (open_string shut_string)
set_option linter.unusedVariables false

theorem own : ownKnob Tryd.prog.godebug = none := by kernel_rfl
theorem laidOut : laidOutB Tryd.prog = true := by kernel_rfl
theorem gErr : Tryd.prog.globalNamed "loop.example/g01165/impl.errRowLength" = some 2 := by kernel_rfl
theorem tErr : (Tryd.prog.globals[2]?).map (·.type) = some 89 := by kernel_rfl
theorem starName : "*" ++ "errors.errorString" = "*errors.errorString" := by decide
theorem rowErr (u : TypeId) (h : Tryd.prog.typeName? 3 u = some "*errors.errorString") : u = 137 :=
  typeName_ptr_named (nm := "errors.errorString") (by rw [starName]; kernel_rfl) (by kernel_rfl) (by decide) u (by rw [starName]; exact h)
theorem cellsErr : Tryd.prog.cellsOf 153 = 1 := by kernel_rfl
theorem cellsStr : Tryd.prog.cellsOf 9 = 1 := by kernel_rfl
theorem cellsPic : Tryd.prog.cellsOf 24 = 1 := by kernel_rfl


section
variable {H : Type} {enc : TypeId × Value → H} {P : Program} {w : World} {base : Nat} {spare : Nat → Bool} {held : Bool}
theorem array1 {α : Type} {cs : Array α} (h : cs.size = 1) : ∃ c0, cs = #[c0] := by
  obtain ⟨l⟩ := cs
  match l, h with
  | [c0], _ => exact ⟨c0, rfl⟩
theorem trod_struct1' {t : TypeId} {f0 : Field} {fuel : Nat} {cs : List Value} {x : DataW H × List MemPlace} (ht : P.underlying t = some (.struct #[f0])) (h : DataW.trod enc P w base spare held fuel t cs = some x) :
    ∃ y0 n, x = (.agg [y0.1], y0.2) ∧ cs.length = P.cellsOf t ∧ DataW.trod enc P w base spare held n f0.type ((cs.drop f0.offset).take (P.cellsOf f0.type)) = some y0 := by
  obtain ⟨xs, n, _, rfl, hl, hlen, hf⟩ := DataW.trod_struct ht h
  match xs, hlen with
  | [y0], _ => exact ⟨y0, n, by simp, hl, by simpa using hf 0 f0 rfl⟩
/-- A struct of one field of one cell, by value, opened. -/
theorem open_agg1 {r : Reach} {b0 : Nat} {t : TypeId} {f0 : Field} {v : Value} {d : DataW H} {p : List MemPlace} (hs : P.underlying t = some (.struct #[f0])) (hone : oneCellFields P #[f0] = true) (hC : P.cellsOf t = 1)
    (hv : Value.okWide P w r b0 t v) (h : DataW.Trod enc P w base spare held t v d p) :
    ∃ (v0 : Value) (y0 : DataW H × List MemPlace) (n : Nat), v = .agg #[v0] ∧ d = .agg [y0.1] ∧ p = y0.2 ∧ DataW.trod enc P w base spare held n f0.type [v0] = some y0 := by
  obtain ⟨cs, rfl, hsz⟩ := okWide_struct hs hv
  obtain ⟨c0, rfl⟩ := array1 (hsz.trans hC)
  obtain ⟨fuel, hf⟩ := h
  obtain ⟨y0, n, hx, _, h0⟩ := trod_struct1' hs hf
  obtain ⟨o0, k0⟩ := hone_of hone 0 f0 rfl
  simp only [Prod.mk.injEq] at hx
  exact ⟨c0, y0, n, rfl, hx.1, hx.2, by simpa [Value.cells, o0, k0] using h0⟩
end

/-- WHAT A PICTURE AMONG THE ARGUMENTS IS: a slice of strings, its cells there. -/
theorem open_picture {H : Type} {enc : TypeId × Value → H} {W : World} {v0 : Value} {y : DataW H × List MemPlace} {n : Nat}
    (h : DataW.trod enc Tryd.prog W 0 (fun _ => true) true n 22 [v0] = some y) : ∃ ss : List ByteArray, Sl W v0 ss ∧ ss.length ≤ maxLen ∧ ∀ s ∈ ss, s.size ≤ maxLen := by
  rcases open_strings Tryd.underlying22 Tryd.underlying9 (by kernel_rfl) h with ⟨hcs, _⟩ | ⟨a, len, cap, ss, hcs, _, hl, hm, hz, _, hcell, hsz⟩
  · simp at hcs
    subst hcs
    exact ⟨[], Or.inl ⟨none, 0, rfl, rfl⟩, by simp, fun s h => by cases h⟩
  · simp at hcs
    subst hcs
    have hz' : ss.length = cap := by simpa using hz
    refine ⟨ss.take len, ?_, ?_, fun s hs => hsz s (List.mem_of_mem_take hs)⟩
    · by_cases h0 : len = 0
      · subst h0
        exact Or.inl ⟨some a, cap, rfl, rfl⟩
      · obtain ⟨b, off, spot⟩ := a
        have hc := hcell 0 (by omega)
        have hspot : spot = none := by simpa [Addr.add] using World.cell?_spot hc
        subst hspot
        have hlen : (ss.take len).length = len := by rw [List.length_take]; omega
        refine Or.inr ⟨b, off, cap, by rw [hlen], by omega, blk_lt (by simpa [Addr.add] using hc), fun i hi => ?_⟩
        rw [hlen] at hi
        have := hcell i (by omega)
        rw [Addr.add_mid] at this
        rw [this]
        congr 2
        rw [List.getD_eq_getElem?_getD, List.getD_eq_getElem?_getD, List.getElem?_take_of_lt hi]
    · rw [List.length_take]; omega
end Go.Proofs.YthblhibkbcmbaaaDoor

/- A slice of bytes among the arguments, opened. -/
namespace Go.Proofs.YthblhibkbcmbaaaDoor
open Go.ChangeShapes Go.WideShapes Go.ChangeAt Go.RowKit Go.Deep Go.WideElems
set_option linter.unusedVariables false
set_option linter.unusedSimpArgs false

theorem bytes_some {w : World} {b off n : Nat} (h : ∀ i, i < n → ∃ x : Nat, x < 256 ∧ w.cell? ⟨b, off + i, none⟩ = some (.int .u8 (x : Int))) :
    ∃ ns : List Nat, ns.length = n ∧ (∀ i, ns.getD i 0 < 256) ∧ ∀ i, i < n → w.cell? ⟨b, off + i, none⟩ = some (.int .u8 ((ns.getD i 0 : Nat) : Int)) := by
  induction n with
  | zero => exact ⟨[], rfl, fun i => by simp, fun i hi => by omega⟩
  | succ n ih =>
    obtain ⟨xs, hl, hb, hx⟩ := ih (fun i hi => h i (by omega))
    obtain ⟨x, hx1, h1⟩ := h n (by omega)
    have hg : ∀ i, (xs ++ [x]).getD i 0 = if i < n then xs.getD i 0 else if i = n then x else 0 := fun i => by
      rw [List.getD_eq_getElem?_getD, List.getD_eq_getElem?_getD]
      by_cases e : i < n
      · rw [if_pos e, List.getElem?_append_left (by omega)]
      · rw [if_neg e, List.getElem?_append_right (by omega), hl]
        by_cases e2 : i = n
        · rw [if_pos e2, e2, Nat.sub_self]; rfl
        · rw [if_neg e2]
          obtain ⟨k, hk⟩ : ∃ k, i - n = k + 1 := ⟨i - n - 1, by omega⟩
          rw [hk]; rfl
    refine ⟨xs ++ [x], by simp [hl], fun i => ?_, fun i hi => ?_⟩
    · rw [hg]
      by_cases e : i < n
      · rw [if_pos e]; exact hb i
      · rw [if_neg e]
        by_cases e2 : i = n
        · rw [if_pos e2]; exact hx1
        · rw [if_neg e2]; decide
    · rw [hg]
      by_cases e : i < n
      · rw [if_pos e]; exact hx i e
      · obtain rfl : i = n := by omega
        rw [if_neg e, if_pos rfl]
        exact h1

set_option maxRecDepth 100000 in
theorem open_bytesY {H : Type} {enc : TypeId × Value → H} {W : World} {v0 : Value} {d : DataW H} {p : List MemPlace} {b0 : Nat} {r : Reach} (hv : Value.okWide Tryd.prog W r b0 40 v0)
    (h : DataW.Trod enc Tryd.prog W 0 (fun _ => true) true 40 v0 d p) : ∃ ns : List Nat, SlY W v0 ns ∧ ns.length ≤ maxLen ∧ ∀ i, ns.getD i 0 < 256 := by
  obtain ⟨a0, l0, c0, rfl⟩ := okWide_slice Tryd.underlying40 hv
  obtain ⟨fuel, hf⟩ := h
  rcases open_slice1 Tryd.underlying40 (by kernel_rfl) hf with ⟨hcs, _⟩ | ⟨a, len, cap, m, n, V, D, Pl, hcs, _, hl, hm, hmm, _, hx⟩
  · simp [Value.cells] at hcs
    obtain ⟨rfl, rfl, rfl⟩ := hcs
    exact ⟨[], Or.inl ⟨none, 0, rfl, rfl⟩, by simp, fun i => by simp⟩
  · simp [Value.cells] at hcs
    obtain ⟨rfl, rfl, rfl⟩ := hcs
    have hm' : m = c0 := by simpa using hmm
    by_cases h0 : l0 = 0
    · subst h0
      exact ⟨[], Or.inl ⟨_, _, rfl, rfl⟩, by simp, fun i => by simp⟩
    · obtain ⟨b, off, spot⟩ := a
      have hc := (hx 0 (by omega)).1
      have hspot : spot = none := by simpa [Addr.add] using World.cell?_spot hc
      subst hspot
      have hblk : b < W.heap.size := blk_lt (o := off) (v := V 0) (by simpa [Addr.add] using hc)
      obtain ⟨xs, hlen, hb, hxs⟩ := bytes_some (w := W) (b := b) (off := off) (n := l0) (fun i hi => by
        obtain ⟨g0, t0⟩ := hx i (by omega)
        obtain ⟨n0, e0, _, hwf⟩ := DataW.trod_int Tryd.underlying5 t0
        simp only [List.cons.injEq, and_true] at e0
        rw [Addr.add_mid] at g0
        have hw2 : 0 ≤ n0 ∧ n0 < 256 := by
          simp only [Lit.wf, IntKind.min, IntKind.max, IntKind.signed, IntKind.bits, Bool.and_eq_true, decide_eq_true_eq] at hwf
          simp at hwf
          omega
        exact ⟨n0.toNat, by omega, by rw [g0, e0, Int.toNat_of_nonneg hw2.1]⟩)
      refine ⟨xs, Or.inr ⟨b, off, c0, by rw [hlen], by omega, hblk, fun i hi => hxs i (by omega)⟩, by omega, hb⟩
end Go.Proofs.YthblhibkbcmbaaaDoor

/- What frames share: the number of variables, the two cells of a spot. -/
namespace Go.Proofs.YthblhibkbcmbaaaDoor
open Go.ChangeShapes Go.WideShapes Go.ChangeAt Go.RowKit Go.Deep Go.WideElems
open Go.ChangeMaps (open_string shut_string)
set_option linter.unusedVariables false
set_option linter.unusedSimpArgs false
set_option maxRecDepth 100000

theorem vars_len {H : Type} {enc : TypeId × Value → H} {P : Program} {W : World} {sp : Nat → Bool} : ∀ {ns : List String} {gs : List (DataW H)} {q : List MemPlace}, DataW.TrodVars enc P W sp ns gs q → gs.length = ns.length
  | [], [], _, _ => rfl
  | [], _ :: _, _, h => h.elim
  | _ :: _, [], _, h => h.elim
  | _ :: _, _ :: _, _, ⟨_, _, _, _, _, _, _, _, _, _, hs, _⟩ => congrArg (· + 1) (vars_len hs)
theorem cellsI64W : Tryd.prog.cellsOf 2 = 1 := by kernel_rfl
theorem cellsSpotW : Tryd.prog.cellsOf 76 = 2 := by kernel_rfl
section
variable {H : Type} {enc : TypeId × Value → H} {W : World} {base : Nat} {spare : Nat → Bool} {held : Bool}
set_option maxRecDepth 100000 in
/-- the two cells of a spot that reads as two numbers -/
theorem spot_cells {n : Nat} {cs : List Value} {a b : Int} {ps : List MemPlace} (h : DataW.trod enc Tryd.prog W base spare held n 76 cs = some (.agg [.lit (.int .i64 a), .lit (.int .i64 b)], ps)) : cs = [.int .i64 a, .int .i64 b] := by
  obtain ⟨xs, m, _, hx, hl, hlen, hf⟩ := DataW.trod_struct Tryd.underlying76 h
  rw [cellsSpotW] at hl
  match cs, hl with
  | [c0, c1], _ =>
    match xs, hlen with
    | [y0, y1], _ =>
      have h0 := hf 0 _ rfl
      have h1 := hf 1 _ rfl
      simp [cellsI64W] at h0 h1
      obtain ⟨n0, e0, z0, _⟩ := DataW.trod_int Tryd.underlying2 h0
      obtain ⟨n1, e1, z1, _⟩ := DataW.trod_int Tryd.underlying2 h1
      simp at e0 e1
      subst e0 e1 z0 z1
      simp at hx
      rw [hx.1.1, hx.1.2]
end
end Go.Proofs.YthblhibkbcmbaaaDoor

/- What the frames of laws over corners of pictures share: the table of pixels on the right, and the error of work that is given up, as the row lays them. -/
namespace Go.Proofs.YthblhibkbcmbaaaDoor
open Go.ChangeShapes Go.WideShapes Go.ChangeAt Go.RowKit Go.Deep Go.WideElems
open Go.ChangeMaps (open_string shut_string)
set_option linter.unusedVariables false
set_option linter.unusedSimpArgs false
set_option maxRecDepth 100000

theorem gNor : Tryd.prog.globalNamed "loop.example/g01165/impl.errNoResult" = some 0 := by kernel_rfl
theorem tNor : (Tryd.prog.globals[0]?).map (·.type) = some 89 := by kernel_rfl
end Go.Proofs.YthblhibkbcmbaaaDoor

/- What the frames of laws over curves share: the table of the quarters, as the row lays it. -/
namespace Go.Proofs.YthblhibkbcmbaaaDoor
open Go.ChangeShapes Go.WideShapes Go.ChangeAt Go.RowKit Go.Deep Go.WideElems
open Go.ChangeMaps (open_string shut_string)
set_option linter.unusedVariables false
set_option linter.unusedSimpArgs false
set_option maxRecDepth 100000

theorem gQv : Tryd.prog.globalNamed "loop.example/g01165/impl.quarterVisits" = some 4 := by kernel_rfl
theorem tQv : (Tryd.prog.globals[4]?).map (·.type) = some 136 := by kernel_rfl
theorem cellsQv : Tryd.prog.cellsOf 136 = 60 := by kernel_rfl
theorem cellsQr : Tryd.prog.cellsOf 135 = 12 := by kernel_rfl
theorem cellsQ1 : Tryd.prog.cellsOf 134 = 3 := by kernel_rfl
theorem cellsPl2 : Tryd.prog.cellsOf 129 = 2 := by kernel_rfl
theorem cellsMan : Tryd.prog.cellsOf 120 = 1 := by kernel_rfl
theorem chunks {α : Type} (c n : Nat) (hc : 0 < c) (cs L : List α) (h1 : cs.length = n * c) (h2 : L.length = n * c) (h : ∀ i, i < n → (cs.drop (i * c)).take c = (L.drop (i * c)).take c) : cs = L := by
  apply List.ext_getElem?
  intro j
  by_cases hj : j < n * c
  · have hd : j / c < n := Nat.div_lt_of_lt_mul (by rw [Nat.mul_comm]; exact hj)
    have hm : j % c < c := Nat.mod_lt _ hc
    have e : j / c * c + j % c = j := by rw [Nat.mul_comm]; exact Nat.div_add_mod j c
    have := congrArg (·[j % c]?) (h _ hd)
    simp only [List.getElem?_take, hm, if_true, List.getElem?_drop, e] at this
    exact this
  · rw [List.getElem?_eq_none (by omega), List.getElem?_eq_none (by omega)]
section
variable {H : Type} {enc : TypeId × Value → H} {W : World} {base : Nat} {spare : Nat → Bool} {held : Bool}
/-- the cells of a quarter -/
theorem visit_cells {n : Nat} {cs : List Value} {a b c : Int} {ps : List MemPlace} (h : DataW.trod enc Tryd.prog W base spare held n 134 cs = some (.agg [.agg [.lit (.int .i64 a), .lit (.int .i64 b)], .lit (.int .i64 c)], ps)) : cs = [.int .i64 a, .int .i64 b, .int .i64 c] := by
  obtain ⟨xs, m, _, hx, hl, hlen, hf⟩ := DataW.trod_struct Tryd.underlying134 h
  rw [cellsQ1] at hl
  match cs, hl with
  | [c0, c1, c2], _ =>
    match xs, hlen with
    | [⟨d0, y0⟩, ⟨d1, y1⟩], _ =>
      have h0 := hf 0 _ rfl
      have h1 := hf 1 _ rfl
      simp [cellsPl2, cellsMan] at h0 h1
      simp at hx
      obtain ⟨⟨rfl, rfl⟩, _⟩ := hx
      have e0 := Lib.cells_of_tab (k := .i64) (zs := [a, b]) Tryd.underlying129 Tryd.underlying2 cellsI64W cellsPl2 h0
      obtain ⟨z, hz, hz2, _⟩ := DataW.trod_int Tryd.underlying120 h1
      simp at e0 hz hz2
      obtain ⟨rfl, rfl⟩ := e0
      rw [hz, hz2.1]
/-- the cells of a row of quarters -/
theorem row4_cells {n : Nat} {cs : List Value} {a0 b0 c0 a1 b1 c1 a2 b2 c2 a3 b3 c3 : Int} {ps : List MemPlace} (h : DataW.trod enc Tryd.prog W base spare held n 135 cs = some (.agg [.agg [.agg [.lit (.int .i64 a0), .lit (.int .i64 b0)], .lit (.int .i64 c0)], .agg [.agg [.lit (.int .i64 a1), .lit (.int .i64 b1)], .lit (.int .i64 c1)], .agg [.agg [.lit (.int .i64 a2), .lit (.int .i64 b2)], .lit (.int .i64 c2)], .agg [.agg [.lit (.int .i64 a3), .lit (.int .i64 b3)], .lit (.int .i64 c3)]], ps)) :
    cs = [.int .i64 a0, .int .i64 b0, .int .i64 c0, .int .i64 a1, .int .i64 b1, .int .i64 c1, .int .i64 a2, .int .i64 b2, .int .i64 c2, .int .i64 a3, .int .i64 b3, .int .i64 c3] := by
  obtain ⟨xs, m, _, hx, hl, hlen, hf⟩ := DataW.trod_array Tryd.underlying135 h
  rw [cellsQr] at hl
  rw [cellsQ1] at hf
  match xs, hlen with
  | [⟨d0, q0⟩, ⟨d1, q1⟩, ⟨d2, q2⟩, ⟨d3, q3⟩], _ =>
    simp at hx
    obtain ⟨⟨rfl, rfl, rfl, rfl⟩, _⟩ := hx
    have e0 := visit_cells (hf 0 (by omega))
    have e1 := visit_cells (hf 1 (by omega))
    have e2 := visit_cells (hf 2 (by omega))
    have e3 := visit_cells (hf 3 (by omega))
    refine chunks 3 4 (by omega) _ _ (by rw [hl]) rfl fun i hi => ?_
    rcases (by omega : i = 0 ∨ i = 1 ∨ i = 2 ∨ i = 3) with rfl | rfl | rfl | rfl
    · exact e0
    · exact e1
    · exact e2
    · exact e3
end
theorem quarters_of {r : List (String × DataW Unit)} {W : World} (h : laidMet Tryd.prog (("loop.example/g01165/impl.quarterVisits", Rows.laid_loop_example_g01165_impl_quarterVisits) :: r) W) : QvP W := by
  obtain ⟨ps, ⟨g0, t0, cs0, f0, p0, q0, hg0, ht0, hv0, hd0, _, e0⟩, _, hrows⟩ := h
  obtain rfl := Option.some.inj (gQv.symm.trans hg0)
  obtain rfl := Option.some.inj (tQv.symm.trans ht0)
  obtain ⟨xs, m, _, hx, hl, hlen, hf⟩ := DataW.trod_array Tryd.underlying136 hd0
  rw [cellsQv] at hl
  rw [cellsQr] at hf
  have hc := fun i => World.var?_cell gQv hv0 i
  match xs, hlen with
  | [⟨d0, q0'⟩, ⟨d1, q1'⟩, ⟨d2, q2'⟩, ⟨d3, q3'⟩, ⟨d4, q4'⟩], _ =>
    unfold Rows.laid_loop_example_g01165_impl_quarterVisits at hx
    simp at hx
    obtain ⟨⟨rfl, rfl, rfl, rfl, rfl⟩, _⟩ := hx
    have e0 := row4_cells (hf 0 (by omega))
    have e1 := row4_cells (hf 1 (by omega))
    have e2 := row4_cells (hf 2 (by omega))
    have e3 := row4_cells (hf 3 (by omega))
    have e4 := row4_cells (hf 4 (by omega))
    have hall : cs0.toList = qvL.map (fun k => Value.int .i64 ((k : Nat) : Int)) := by
      refine chunks 12 5 (by omega) _ _ (by rw [hl]) rfl fun i hi => ?_
      rcases (by omega : i = 0 ∨ i = 1 ∨ i = 2 ∨ i = 3 ∨ i = 4) with rfl | rfl | rfl | rfl | rfl
      · exact e0
      · exact e1
      · exact e2
      · exact e3
      · exact e4
    have hat : ∀ j, j < 60 → cs0[j]? = some (.int .i64 ((qvL.getD j 0 : Nat) : Int)) := fun j hj => by
      rw [← Array.getElem?_toList, hall, List.getElem?_map, List.getD_eq_getElem?_getD]
      have hlt : j < qvL.length := hj
      rw [List.getElem?_eq_getElem hlt]
      rfl
    refine ⟨fun j hj => ?_, World.block_lt_of_cell? W _ ((hc 0).trans (hat 0 (by omega)))⟩
    exact (hc j).trans (hat j hj)
end Go.Proofs.YthblhibkbcmbaaaDoor

/- The library's table of the search for the lowest bit, as the row lays it. -/
namespace Go.Proofs.YthblhibkbcmbaaaDoor
open Go.ChangeShapes Go.WideShapes Go.ChangeAt Go.RowKit Go.Deep Go.WideElems
set_option linter.unusedVariables false

theorem gTab6 : Tryd.prog.globalNamed "math/bits.deBruijn64tab" = some 1 := by kernel_rfl
theorem tTab6 : (Tryd.prog.globals[1]?).map (·.type) = some 90 := by kernel_rfl
theorem tab6_at {W : World} (h : Lib.TabIs Tryd.prog W "math/bits.deBruijn64tab" .u8 (Lib.deBruijn64tab.map Int.ofNat)) : Tab6 W := fun j hj => by
  rw [World.var?_cell gTab6 h j]
  have hl : j < Lib.deBruijn64tab.length := hj
  rw [List.getElem?_toArray, List.getElem?_map, List.getElem?_map, List.getElem?_eq_getElem hl, List.getD_eq_getElem?_getD, List.getElem?_eq_getElem hl]
  rfl
end Go.Proofs.YthblhibkbcmbaaaDoor
