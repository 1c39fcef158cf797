/- Contracts of single functions, and plain lemmas, on which the exact laws of this seat rest; each holds under the conditions that it states. -/
import Derived.Test.YtmfaonddhmhjeaaDoorGc
namespace Go.Proofs.YtmfaonddhmhjeaaDoor
set_option linter.unusedVariables false
set_option linter.unusedSimpArgs false
open Go.RowKit

set_option maxHeartbeats 4000000 in
set_option maxRecDepth 100000 in
theorem impl_Crop_n1 (v : Value) (ss : List ByteArray) (x y wd hh : Int) (w : World) (hN : ss.length ≤ maxLen) (hz : ∀ s ∈ ss, s.size ≤ maxLen) (hv : Sl w v ss) (he : ErrLen w) (pok : Bool) (hok : validB ss = false)
    (hB : ∃ M2 : Array Value, M2.size = 18 ∧ M2.all (·.oneCell') = true ∧ ∀ W, Calls Tryd.prog 37 #[.int .i64 wd, .int .i64 hh] W (fun e w' => e = .returned (.tuple #[.agg M2, .bool pok]) ∧ Below W.heap.size W w')) :
    Calls Tryd.prog 20 #[.agg #[v], .agg #[.int .i64 x, .int .i64 y], .int .i64 wd, .int .i64 hh] w (SaysPic [] false w) := by
  obtain ⟨W0, hW0, hb0, hl0, hp0, hp1, hp2⟩ := begin3 w v x y
  have hcv : W0.cell? ⟨w.heap.size, 0, none⟩ = some v := cell_of_one hp0
  have C := Lib.hid (matrixOf_any v ss _ hN hz (hv.below hb0) (he.below hb0))
  have hsz := matC_size ss
  have hone := matC_one ss
  unfold MatOf at C
  obtain ⟨M, hM⟩ : ∃ M, matC ss = M := ⟨_, rfl⟩
  rw [hM] at C hsz hone
  have HI : Hid ((Tryd.prog.info? 66).map (·.size) = some M.size) := by show _ = _; rw [hsz]; exact infoM
  have HZ := Lib.hid (zeros_size.trans hsz.symm)
  have HO := Lib.hid hone
  obtain ⟨M2, hsz2, hone2, hB⟩ := hB
  have CB := Lib.hid hB
  have HI2 : Hid ((Tryd.prog.info? 66).map (·.size) = some M2.size) := by show _ = _; rw [hsz2]; exact infoM
  have HZ2 := Lib.hid (zeros_size.trans hsz2.symm)
  have HO2 := Lib.hid hone2
  have HOk := Lib.hid hok
  have HW := Lib.hid hW0
  have B0 := Lib.hid hb0
  have P0 := Lib.hid hp2
  have S0 := Lib.hid hp1
  clear hW0 hb0 hp0 hp1 hp2 hok hv hM hsz hsz2 hone hone2 he hB
  go_enter Tryd.func20, Tryd.ntmps20
  go_wp2_with fail
  rw [HW.out]
  refine C.out.mono ?_
  rintro e w1 ⟨rfl, hb⟩
  rw [HOk.out]
  have B1 : Hid (Below w.heap.size w w1) := B0.out.trans (hb.mono B0.out.size)
  have P1 := Lib.hid ((hb.block _ hl0).trans P0.out)
  have S1 := Lib.hid ((hb.block (w.heap.size + 1) (by omega)).trans S0.out)
  have hs1 := B1.out.size
  have l1 : w.heap.size + 2 < w1.heap.size := Nat.lt_of_lt_of_le hl0 hb.size
  clear hb hcv
  go_wp2_with (refine wpList_store_new w1 rfl 66 _ _ rfl M rfl rfl 66 zeros HI.out HZ.out HO.out ?_)
  refine (CB.out _).mono ?_
  rintro e w2 ⟨rfl, hb⟩
  have l2 : w1.heap.size + 1 ≤ w2.heap.size := by have := hb.size; simpa using this
  have Ma := Lib.hid ((Below.heap_alloc w2 (.cells M2 66) w1.heap.size (by omega)).trans ((hb.block w1.heap.size (by simp)).trans (heap_alloc_last w1 (.cells M 66))))
  have hPa := (hb.block (w.heap.size + 1 + 1) (by simp; omega)).trans ((Below.heap_alloc w1 (.cells M 66) _ (by omega)).trans P1.out)
  have Pb := Lib.hid hPa
  have Pa := Lib.hid ((Below.heap_alloc w2 (.cells M2 66) (w.heap.size + 1 + 1) (by omega)).trans hPa)
  have hSa := (Below.heap_alloc w2 (.cells M2 66) (w.heap.size + 1) (by omega)).trans ((hb.block (w.heap.size + 1) (by simp; omega)).trans ((Below.heap_alloc w1 (.cells M 66) _ (by omega)).trans S1.out))
  have Sa := Lib.hid hSa
  have B2a : Hid (Below w.heap.size w w2) := (B1.out.alloc hs1 _).trans (hb.mono (by simp; omega))
  have B2 : Hid (Below w.heap.size w (w2.alloc (.cells M2 66))) := B2a.out.alloc (by omega) _
  have hx1 : (w2.alloc (.cells M2 66)).cell? ⟨w.heap.size + 1, 0, none⟩ = some (.int .i64 x) := (Joins.cell_of_block hSa 0).trans rfl
  have hy1 : (w2.alloc (.cells M2 66)).cell? ⟨w.heap.size + 1, 1, none⟩ = some (.int .i64 y) := (Joins.cell_of_block hSa 1).trans rfl
  clear hb hSa hPa
  cases pok
  all_goals
    have hfr : (w2.alloc (.cells M2 66)).frozen? ⟨w.heap.size + 1 + 1, 0, none⟩ = false := free_of_one Pa.out
    have hc2 : (w2.alloc (.cells M2 66)).cell? ⟨w.heap.size + 1 + 1, 0, none⟩ = some (.slice none 0 0) := cell_of_one Pa.out
    have HX := Lib.hid (after_alloc (M := M2) (t2 := 66) (u := .slice none 0 0) Pb.out B2a.out (by omega))
    go_wp2_with (refine wpList_store_new w2 rfl 66 _ _ rfl M2 rfl rfl 66 zeros HI2.out HZ2.out HO2.out ?_; refine Hid.out ?_)
    refine Lib.hid ?_
    go_wp2_with fail
    refine bodyPost_ret (v := .tuple #[.agg #[.slice none 0 0], .bool false]) (by simp [results, Tryd.results20, go_sem, cell_of_one (one_setCell Pa.out)]) rfl ⟨_, _, _, rfl, World.ownsRow_nil _ _ _ _, B2.out.setCell (by simp; omega) _⟩
end Go.Proofs.YtmfaonddhmhjeaaDoor
