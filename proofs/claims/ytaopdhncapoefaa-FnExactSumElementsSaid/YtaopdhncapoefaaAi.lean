/- Contracts of single functions, and plain lemmas, on which the exact laws of this seat rest; each holds under the conditions that it states. -/
import Derived.Test.YtaopdhncapoefaaAg
import Derived.Test.YtaopdhncapoefaaAj
import Derived.Test.YtaopdhncapoefaaA7
import Derived.Maps.AppendAt
namespace Go.Proofs.Ytaopdhncapoefaa
set_option linter.unusedVariables false
set_option linter.unusedSimpArgs false
open Go.RowKit Go.Maps

theorem wfE {x : Int} (h1 : -9223372036854775808 ≤ x) (h2 : x ≤ 9223372036854775807) : (Lit.int .i64 x).wf = true := by
  have e1 : IntKind.i64.min = -9223372036854775808 := by decide
  have e2 : IntKind.i64.max = 9223372036854775807 := by decide
  simp [Lit.wf, e1, e2]
  omega

set_option maxHeartbeats 1000000 in
theorem hasS_any (b m N : Nat) (xs : List (Int × Int)) (x y : Int) (w : World) (hs : SetS w b m N xs) (hx : (Lit.int .i64 x).wf = true) (hy : (Lit.int .i64 y).wf = true) :
    Calls Try.prog 36 #[.map (some b), .agg #[.int .i64 x, .int .i64 y]] w (SaysB (memB xs x y) w) := by
  obtain ⟨kl, hkey⟩ := keySpot x y hx hy
  have hrun := (hs.below (Joins.below_alloc1 w (.cells #[.int .i64 x, .int .i64 y] 55))).look Try.underlying53 hkey
  obtain ⟨r, hr⟩ : ∃ r, memB xs x y = r := ⟨_, rfl⟩
  rw [hr] at hrun ⊢
  unfold spV at hrun
  clear hkey hr hs
  go_enter Try.func36, Try.ntmps36
  go_wp2
  go_ret
  exact ⟨rfl, Joins.below_alloc1 _ _⟩

/-- a variable is no map -/
theorem var_set {w w' : World} {P b m N : Nat} {t : TypeId} {cs : Array Value} {xs : List (Int × Int)} (h : w.heap[P]? = some (.cells cs t (0, 0))) (hs : SetS w b m N xs) (hg : w.grownBy w' (some b)) : w'.heap[P]? = some (.cells cs t (0, 0)) := by
  refine (hg.block P (Array.getElem?_eq_some_iff.1 h).1 fun e => ?_).trans h
  have e := Option.some.inj e
  subst e
  obtain ⟨D, ⟨es, clock, h1, _⟩, _⟩ := hs
  rw [h] at h1
  cases h1

/-- what offsetsOf hands back -/
def SaysSet (xs : List (Int × Int)) (w : World) (e : Ending) (w' : World) : Prop := ∃ b, e = .returned (.map (some b)) ∧ SetS w' b xs.length (dC xs xs.length) xs ∧ Below w.heap.size w w'

theorem take_more {xs : List (Int × Int)} {k : Nat} (h : k < xs.length) : xs.take (k + 1) = xs.take k ++ [((xs.getD k (0, 0)).1, (xs.getD k (0, 0)).2)] := by
  rw [List.take_add_one, List.getElem?_eq_getElem h, List.getD_eq_getElem?_getD, List.getElem?_eq_getElem h]; rfl

set_option maxHeartbeats 2000000 in
set_option maxRecDepth 100000 in
theorem offsetsOf_any (v : Value) (xs : List (Int × Int)) (w : World) (hN : xs.length ≤ 1048576) (hwf : ∀ p ∈ xs, (Lit.int .i64 p.1).wf = true ∧ (Lit.int .i64 p.2).wf = true) (hv : SlS w v xs) :
    Calls Try.prog 32 #[.agg #[v]] w (SaysSet xs w) := by
  have S0 : Hid (SetS ((w.alloc (.cells #[v] 28)).alloc (.map #[] 0)) (w.heap.size + 1) 0 0 []) := by
    have := SetS.made (w.alloc (.cells #[v] 28))
    rw [World.size_alloc] at this
    exact this
  have B0 := Lib.hid (Joins.below_alloc2 w (.cells #[v] 28) (.map #[] 0))
  rcases hv with ⟨ao, cap, rfl, rfl⟩ | ⟨b, cap, rfl, hpos, hb, hcs⟩
  · clear hwf
    have hmm := @run_makeMap Try.prog
    go_enter Try.func32, Try.ntmps32
    go_wp2
    refine wp_loop_rounds 1 ?_; rw [rounds_succ]
    go_wp2
    go_ret
    exact ⟨_, rfl, S0.out, B0.out⟩
  · have HC := Lib.hid hcs
    have HW : Hid (∀ k, k < xs.length → (Lit.int .i64 (xs.getD k (0, 0)).1).wf = true ∧ (Lit.int .i64 (xs.getD k (0, 0)).2).wf = true) := fun k hk => hwf _ (by rw [getD_of_lt hk]; exact List.getElem_mem hk)
    have HT := Lib.hid (fun k => @take_more xs k)
    have HD : Hid (∀ k, dC xs (k + 1) = if xs.getD k (0, 0) ∈ xs.take k then dC xs k else dC xs k + 1) := fun _ => rfl
    have HE : Hid (xs.take xs.length = xs) := List.take_length
    obtain ⟨n, hn⟩ : ∃ n, xs.length = n := ⟨_, rfl⟩
    have Hn := Lib.hid hn
    rw [hn] at HC HW HT HE hN hpos S0 B0
    unfold SaysSet
    rw [hn]
    clear hcs hwf hn
    have hmm := @run_makeMap Try.prog
    go_enter Try.func32, Try.ntmps32
    go_wp2
    go_loopw [10] (fun iv wr => ∃ k : Nat, k ≤ n ∧ iv = .int .i64 k ∧ Hid (SetS wr (w.heap.size + 1) k (dC xs k) (xs.take k)) ∧ Hid (Below w.heap.size w wr)) (fun iv _ => n - (intOf iv).toNat)
    case atStart => exact ⟨0, Nat.zero_le _, rfl, S0.out, B0.out⟩
    case round =>
      clear S0 B0
      obtain ⟨k, hk, rfl, HS, HB⟩ := hrel
      have hs := HB.out.size
      by_cases hlt : k < n
      · have klt : (k : Int) < (n : Int) := by omega
        have c0 := cell_kept HB.out (HC.out k hlt).1
        have c1 := cell_kept HB.out (HC.out k hlt).2
        have lb : b < wr.heap.size := by omega
        have hd := HD.out k
        have htk := HT.out k hlt
        have hw1 := HW.out k hlt
        rw [show xs.getD k (0, 0) = ((xs.getD k (0, 0)).1, (xs.getD k (0, 0)).2) from rfl] at hd
        obtain ⟨x, hx⟩ : ∃ x, (xs.getD k (0, 0)).1 = x := ⟨_, rfl⟩
        obtain ⟨y, hy⟩ : ∃ x, (xs.getD k (0, 0)).2 = x := ⟨_, rfl⟩
        rw [hx] at c0 hd htk hw1
        rw [hy] at c1 hd htk hw1
        have HDk := Lib.hid hd
        have HTk := Lib.hid htk
        have HWk := Lib.hid hw1
        have HS5 := Lib.hid (HS.out.below (Joins.below_alloc1 wr (.cells #[.int .i64 x, .int .i64 y] 55)))
        have HB5 := Lib.hid (HB.out.alloc hs (.cells #[.int .i64 x, .int .i64 y] 55))
        have hs5 := HB5.out.size
        clear hx hy hd htk hw1 HS HB
        go_wp2_with (at_mapUpdate; refine wpList_put_spot rfl _ _ _ rfl Try.underlying53 (w.heap.size + 1) k (dC xs k) (xs.take k) rfl HS5.out (by unfold maxLen; omega) x y rfl rfl HWk.out.1 HWk.out.2 _ HDk.out ?_)
        intro w3 s3 hg3
        rw [← HTk.out] at s3
        have S3 := Lib.hid s3
        have B3 := Lib.hid (HB5.out.grown hg3 hs5 (fun j hj => by cases hj; omega))
        clear s3 hg3
        go_wp2
        go_roundw
        case rel => exact ⟨k + 1, by omega, by go_num, S3.out, B3.out⟩
        case measure => simp [intOf]; omega
      · obtain rfl : k = n := by omega
        rw [HE.out] at HS
        go_wp2
        go_ret
        exact ⟨_, rfl, HS.out, HB.out⟩
end Go.Proofs.Ytaopdhncapoefaa
