/- Contracts of single functions, and plain lemmas, on which the exact laws of this seat rest; each holds under the conditions that it states. -/
import Derived.Test.YtdeagfmldpociaaDoorCVE
import Derived.Test.YtdeagfmldpociaaDoorQb
namespace Go.Proofs.YtdeagfmldpociaaDoor
set_option linter.unusedVariables false
set_option linter.unusedSimpArgs false
open Go.RowKit
attribute [local go_sem] Oper.semAt_some

set_option maxHeartbeats 4000000 in
set_option maxRecDepth 100000 in
theorem law_SpotAt (c n i : Int) (w : World) (hn : NoRes w) (hQ : QvP w) :
    Calls Tryd.prog 4 #[.int .i64 c, .int .i64 n, .int .i64 i] w fun e w' => e = .returned (.bool true) ∧ Below w.heap.size w w' := by
  have CS := Lib.hid (fun W => spec_SpotAt c n i W)
  have CI : Hid (∀ W, Below w.heap.size w W → Calls Tryd.prog 16 #[.int .i64 c, .int .i64 n, .int .i64 i] W (SaysSOk (saV c n i) (saOk c n i) W)) := fun W hb => impl_SpotAt c n i W (hn.below hb) (hQ.below hb)
  obtain ⟨⟨r1, r2⟩, hv⟩ : ∃ v, saV c n i = v := ⟨_, rfl⟩
  obtain ⟨ok, hok⟩ : ∃ v, saOk c n i = v := ⟨_, rfl⟩
  rw [hv, hok] at CS CI
  unfold SaysSOk at CS CI
  have CE : Hid (∀ W, Calls Tryd.prog 17 #[.agg #[.int .i64 r1, .int .i64 r2], .agg #[.int .i64 r1, .int .i64 r2]] W (SaysB true W)) := fun W => by
    have := eqSpot_any r1 r2 r1 r2 W
    simpa using this
  unfold SaysB at CE
  clear hn hQ hv hok
  go_enter Tryd.func4, Tryd.ntmps4
  go_wp2_with fail
  refine (CS.out _).mono ?_
  rintro e w1 ⟨rfl, hb1⟩
  have HB1 := Lib.hid (hb1.alloc hb1.size (.cells #[.int .i64 r1, .int .i64 r2] 26))
  have HV1 : Hid (Var2 (w1.alloc (.cells #[.int .i64 r1, .int .i64 r2] 26)) w1.heap.size (r1, r2)) := heap_alloc_last w1 _
  clear hb1
  obtain ⟨W1, hW1⟩ : ∃ W, w1.alloc (.cells #[.int .i64 r1, .int .i64 r2] 26) = W := ⟨_, rfl⟩
  obtain ⟨p1, hp1⟩ : ∃ p, w1.heap.size = p := ⟨_, rfl⟩
  rw [hW1, hp1] at HV1
  rw [hW1] at HB1
  have HW1 := Lib.hid hW1
  have HP1 := Lib.hid hp1
  clear hW1 hp1
  go_wp2_with fail
  rw [HW1.out, HP1.out]
  refine (CI.out _ HB1.out).mono ?_
  rintro e w2 ⟨rfl, hb2⟩
  have HV1b := Lib.hid ((HV1.out.below hb2).below (Joins.below_alloc1 w2 (.cells #[.int .i64 r1, .int .i64 r2] 26)))
  have HB2 := Lib.hid ((HB1.out.trans (hb2.mono HB1.out.size)).alloc (HB1.out.trans (hb2.mono HB1.out.size)).size (.cells #[.int .i64 r1, .int .i64 r2] 26))
  have HV2 : Hid (Var2 (w2.alloc (.cells #[.int .i64 r1, .int .i64 r2] 26)) w2.heap.size (r1, r2)) := heap_alloc_last w2 _
  have hlt := HV1.out.lt
  have hsz := hb2.size
  clear hb2 CI CS
  obtain ⟨W2, hW2⟩ : ∃ W, w2.alloc (.cells #[.int .i64 r1, .int .i64 r2] 26) = W := ⟨_, rfl⟩
  obtain ⟨p2, hp2⟩ : ∃ p, w2.heap.size = p := ⟨_, rfl⟩
  rw [hW2, hp2] at HV2
  rw [hW2] at HB2 HV1b
  have HW2 := Lib.hid hW2
  have HP2 := Lib.hid hp2
  clear hW2 hp2
  go_upto_region 3 with fail
  rw [HW2.out, HP2.out]
  have a0 := HV1b.out.c0
  have a1 := HV1b.out.c1
  have b0 := HV2.out.c0
  have b1 := HV2.out.c1
  go_wp2_with fail
  refine (CE.out _).mono ?_
  rintro e w3 ⟨rfl, hb3⟩
  have HB3 := Lib.hid (HB2.out.trans (hb3.mono HB2.out.size))
  clear hb3 a0 a1 b0 b1
  cases ok
  all_goals go_wp2
  all_goals go_ret
  all_goals exact ⟨rfl, HB3.out⟩
end Go.Proofs.YtdeagfmldpociaaDoor
