/- Contracts of single functions, and plain lemmas, on which the exact laws of this seat rest; each holds under the conditions that it states. -/
import Derived.Test.YthkmfiipmhlbjaaDoorMs
namespace Go.Proofs.YthkmfiipmhlbjaaDoor
set_option linter.unusedVariables false
open Go.RowKit

/-- the held count -/
def Held (k n : Nat) (w : World) (e : Ending) (w' : World) : Prop := e = .returned (.int .i64 ((k + n : Nat) : Int)) ∧ Below w.heap.size w w'

theorem cell_kept {w w1 : World} {b o : Nat} {v : Value} (hb : Below w.heap.size w w1) (h : w.cell? ⟨b, o, none⟩ = some v) : w1.cell? ⟨b, o, none⟩ = some v := (hb.cell (p := ⟨b, o, none⟩) (blk_lt h)).trans h

set_option maxHeartbeats 1000000 in
set_option maxRecDepth 100000 in
theorem heldStringS_any (v : Value) (k n : Nat) (w : World) (h1 : 1 ≤ k) (h2 : k + n ≤ 9000000) (hv : Sl w v (marks k n)) :
    Calls Tryd.prog 55 #[v, .int .i64 k] w (Held k n w) := by
  rcases hv with ⟨ao, cap, rfl, h0⟩ | ⟨b, off, cap, rfl, hpos, hb, hc⟩
  · obtain rfl : n = 0 := by have := congrArg List.length h0; rwa [marks_len] at this
    go_enter Tryd.func55, Tryd.ntmps55
    go_wp2
    refine wp_loop_rounds 1 ?_; rw [rounds_succ]
    go_wp2
    go_ret
    exact ⟨rfl, Below.refl _ _⟩
  · rw [marks_len] at hpos hc ⊢
    have HC := Lib.hid hc
    clear hc
    go_enter Tryd.func55, Tryd.ntmps55
    go_wp2
    go_loopw [1, 5] (fun kv iv wr => ∃ i : Nat, i ≤ n ∧ kv = .int .i64 ((k : Int) + i) ∧ iv = .int .i64 i ∧ Below w.heap.size w wr) (fun _ iv _ => n - (intOf iv).toNat)
    case atStart => exact ⟨0, Nat.zero_le _, by simp, rfl, Below.refl _ _⟩
    case round =>
      obtain ⟨i, hi, rfl, rfl, hbel⟩ := hrel
      by_cases hlt : i < n
      · have hcell := (hbel.cell (p := ⟨b, off + i, none⟩) hb).trans (HC.out i hlt)
        have hm : (marks k n).getD i ByteArray.empty = mt (k + i) := by simp [marks, hlt]
        rw [hm] at hcell
        have HB := Lib.hid hbel
        have k0 : (0 : Int) ≤ (i : Int) := by omega
        have k1 : (i : Int) < (n : Int) := by omega
        have cm := fun W => markText_any (k + i) W (by omega) (by omega)
        rw [show ((k + i : Nat) : Int) = (k : Int) + i from by omega] at cm
        obtain ⟨s, hs⟩ : ∃ s, mt (k + i) = s := ⟨_, rfl⟩
        rw [hs] at hcell cm
        have CM := Lib.hid cm
        clear hbel hm hs cm
        go_wp2
        go_region_held3 (fun w' => w'.cell? ⟨b, off + i, none⟩ = some (.string s)) (first | go_keep | exact cell_kept (by assumption) (by assumption)) (first | (go_at_call 105; refine (CM.out _).mono ?_; rintro e w1 ⟨rfl, hb1⟩))
        have HB1 : Hid (Below w.heap.size w w1) := HB.out.drew.trans (hb1.mono HB.out.size)
        clear hb1
        go_wp2
        go_roundw
        case rel => exact ⟨i + 1, by omega, by go_num, by go_num, HB1.out⟩
        case measure => simp [intOf]; omega
      · obtain rfl : i = n := by omega
        have HB := Lib.hid hbel
        clear hbel
        go_wp2
        go_ret
        exact ⟨by simp, HB.out⟩

theorem markPicture_any (v : Value) (ss : List ByteArray) (base k : Nat) (w : World) (h1 : 1 ≤ k) (h2 : k + ss.length ≤ 9000000) (hv : OwnP w base v ss) :
    Calls Tryd.prog 20 #[.agg #[v], .int .i64 k] w (Marked w base v k ss.length) := by
  have hsl : v.ownBlock = none ∨ ∃ g, v.ownBlock = some g ∧ g < w.heap.size := by
    rcases h : v.ownBlock with _ | g
    · exact Or.inl rfl
    · exact Or.inr ⟨g, rfl, (hv.lt g h).2⟩
  obtain ⟨q, hq⟩ : ∃ q, v.ownBlock = q := ⟨_, rfl⟩
  have c := markStringS_any v ss base k (w.alloc (.cells #[v] 33)) h1 h2 (hv.below (Joins.below_alloc1 w _))
  have C := Lib.hid c
  have HQ := Lib.hid hq
  have HV := Lib.hid hv
  rw [hq] at hsl
  have HSL := Lib.hid hsl
  clear c hq hv hsl
  go_enter Tryd.func20, Tryd.ntmps20
  go_wp2_with fail
  refine C.out.mono ?_
  rintro e w' ⟨rfl, hown, hg⟩
  have HO := Lib.hid hown
  have HG := Lib.hid hg
  clear hown hg
  go_wp2_with fail
  go_ret
  refine ⟨rfl, HO.out, ?_⟩
  have hg := HG.out
  refine ⟨hg.os, hg.tape, hg.output, Nat.le_trans (by simp) hg.size, fun j hj hr => ?_⟩
  rw [hg.block j (by simp; omega) hr]
  exact Below.heap_alloc _ _ _ hj

theorem heldPicture_any (v : Value) (k n : Nat) (w : World) (h1 : 1 ≤ k) (h2 : k + n ≤ 9000000) (hv : Sl w v (marks k n)) :
    Calls Tryd.prog 21 #[.agg #[v], .int .i64 k] w (Held k n w) := by
  have C := Lib.hid (heldStringS_any v k n _ h1 h2 (hv.below (Joins.below_alloc1 w (.cells #[v] 33))))
  have hk : (0 : Int) ≤ ((k + n : Nat) : Int) := by omega
  obtain ⟨m, hm⟩ : ∃ m : Int, ((k + n : Nat) : Int) = m := ⟨_, rfl⟩
  unfold Held at C ⊢
  rw [hm] at C hk ⊢
  clear hm
  go_enter Tryd.func21, Tryd.ntmps21
  go_wp2_with fail
  refine C.out.mono ?_
  rintro e w' ⟨rfl, hb⟩
  have HB := Lib.hid hb
  clear hb
  go_wp2_with fail
  go_ret
  exact ⟨rfl, (Joins.below_alloc1 w _).trans (HB.out.mono (by simp))⟩
end Go.Proofs.YthkmfiipmhlbjaaDoor
